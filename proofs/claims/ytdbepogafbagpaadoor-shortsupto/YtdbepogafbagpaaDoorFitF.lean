import Derived.Test.YtdbepogafbagpaaDoorFit
namespace Go.Proofs.YtdbepogafbagpaaDoor
open Go.RowKit
set_option linter.unusedVariables false

theorem fit_num (ps : List Pt) (len : Int) (f c : Addr) (h : f ≠ c) : numOf f c (fitErr ps len f c) = (refFit ps len).2 := by
  unfold fitErr refFit
  split
  · simp [numOf]
  · split
    · simp [numOf, h]
    · simp [numOf]
theorem fitErr_or (ps : List Pt) (len : Int) (f c : Addr) : fitErr ps len f c = none ∨ fitErr ps len f c = some f ∨ fitErr ps len f c = some c := by
  unfold fitErr
  split
  · exact Or.inr (Or.inr rfl)
  · split
    · exact Or.inr (Or.inl rfl)
    · exact Or.inl rfl

set_option maxRecDepth 100000 in
set_option maxHeartbeats 2000000 in
theorem fitF_any {N : Nat} {f c : Addr} (ps : List Pt) (ao : Option Addr) (b off cap : Nat) (len : Int) (w : World) (E : Env N f c w) (A : Arg w ps ao b off) (hl0 : -9223372036854775808 ≤ len) (hl1 : len ≤ 9223372036854775807) :
    Calls Tryd.prog 10 #[.slice ao ps.length cap, .int .i64 len] w fun e w' => e = .returned (.tuple #[.int .i64 (refFit ps len).1, .int .i64 (refFit ps len).2]) ∧ Below w.heap.size w w' := by
  have HF : Hid (Calls Tryd.prog 25 #[.slice ao ps.length cap, .int .i64 len] w fun e w' => ∃ v, e = .returned (.tuple #[.int .i64 (fitVal ps len), v]) ∧ ErrIs w' v (fitErr ps len f c) ∧ Below w.heap.size w w') := fit_any ps ao b off cap len w E A hl0 hl1
  have HN : Hid (numOf f c (fitErr ps len f c) = (refFit ps len).2) := fit_num ps len f c E.ne
  have HE : Hid (Env N f c w) := E
  clear E A
  go_enter Tryd.func10, Tryd.ntmps10
  go_wp2_with (first | (go_at_call 25; refine HF.out.mono ?_; rintro e w1 ⟨v, rfl, hv, hb1⟩; have HV : Hid (ErrIs w1 v (fitErr ps len f c)) := hv; clear hv) | (go_at_call 26; refine (number_any v (fitErr ps len f c) w1 (HE.out.here hb1) (fitErr_or ps len f c) HV.out).mono ?_; rintro e w2 ⟨rfl, rfl⟩))
  go_ret2
  exact ⟨ret_two rfl HN.out, hb1⟩
end Go.Proofs.YtdbepogafbagpaaDoor
