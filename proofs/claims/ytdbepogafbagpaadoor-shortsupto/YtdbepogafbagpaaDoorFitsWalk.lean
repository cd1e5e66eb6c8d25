import Derived.Test.YtdbepogafbagpaaDoorFitF
namespace Go.Proofs.YtdbepogafbagpaaDoor
open Go.RowKit
set_option linter.unusedVariables false

/-- 'ours': a new list, of the same parts -/
theorem ours_arg (ps : List Pt) (ao : Option Addr) (b off cap : Nat) (w : World) (A : Arg w ps ao b off) :
    Calls Tryd.prog 11 #[.slice ao ps.length cap] w fun e w' => ∃ ao' g cap', e = .returned (.slice ao' ps.length cap') ∧ Arg w' ps ao' g 0 ∧ (0 < ps.length → w.heap.size ≤ g) ∧ Owns w' w.heap.size (.slice ao' ps.length cap') ps ∧ Below w.heap.size w w' := by
  refine (ours_any ps ao b off cap w A).mono ?_
  rintro e w1 ⟨v, rfl, ho, hb⟩
  obtain ⟨ao', g, cap', rfl, h1, h2, h3⟩ := ho.form
  exact ⟨ao', g, cap', rfl, ⟨fun h => (h1 h).1, fun h => (h1 h).2.2, h2, A.len, A.text, A.num, A.kind⟩, fun h => (h1 h).2.1, ho, hb⟩

theorem refFit_code (ps : List Pt) (len : Int) : 0 ≤ (refFit ps len).2 ∧ (refFit ps len).2 ≤ 100 := by
  unfold refFit; split
  · simp
  · split <;> simp

set_option maxRecDepth 100000 in
set_option maxHeartbeats 2000000 in
theorem fits_walk {N : Nat} {f c : Addr} (ps : List Pt) (ao : Option Addr) (b off cap : Nat) (len : Int) (w : World) (E : Env N f c w) (A : Arg w ps ao b off) (hl0 : -9223372036854775808 ≤ len) (hl1 : len ≤ 9223372036854775807) :
    Calls Tryd.prog 3 #[.slice ao ps.length cap, .int .i64 len] w fun e w' => e = .returned (.bool true) ∧ Below w.heap.size w w' := by
  have HE : Hid (Env N f c w) := E
  have HA : Hid (Arg w ps ao b off) := A
  have hc := refFit_code ps len
  have HF : Hid (∀ wx ao' g cap', Env N f c wx → Arg wx ps ao' g 0 → Calls Tryd.prog 10 #[.slice ao' ps.length cap', .int .i64 len] wx fun e w' => e = .returned (.tuple #[.int .i64 (refFit ps len).1, .int .i64 (refFit ps len).2]) ∧ Below wx.heap.size wx w') := fun wx ao' g cap' Ex Ax => fitF_any ps ao' g 0 cap' len wx Ex Ax hl0 hl1
  have HR : Hid (∀ wx, Arg wx ps ao b off → Calls Tryd.prog 12 #[.slice ao ps.length cap, .int .i64 len] wx fun e w' => e = .returned (.tuple #[.int .i64 (refFit ps len).1, .int .i64 (refFit ps len).2]) ∧ Below wx.heap.size wx w') := fun wx Ax => refFit_any ps ao b off cap len wx Ax
  generalize (refFit ps len).1 = r1 at *
  generalize (refFit ps len).2 = r2 at *
  have x1 : (r1 == r1) = true := by simp
  clear E A
  go_enter Tryd.func3, Tryd.ntmps3
  go_wp2_with (first | (go_at_call 11; refine (ours_arg ps ao b off cap w HA.out).mono ?_; rintro e w1 ⟨ao', g, cap', rfl, hA1, hg1, ho1, hb1⟩; have HA1 : Hid (Arg w1 ps ao' g 0) := hA1; clear hA1 hg1 ho1) | (go_at_call 10; refine (HF.out w1 ao' g cap' (HE.out.here hb1) HA1.out).mono ?_; rintro e w2 ⟨rfl, hb2⟩; have hbw : Below w.heap.size w w2 := hb1.trans (hb2.mono hb1.size)) | (go_at_call 12; refine (HR.out w2 (HA.out.below hbw HA.out.lt)).mono ?_; rintro e w3 ⟨rfl, hb3⟩) | (go_at_call 13; refine (num_any r2 w3 hc.1 hc.2).mono ?_; rintro e w4 ⟨rfl, rfl⟩))
  go_ret
  exact ⟨rfl, hbw.trans (hb3.mono hbw.size)⟩
end Go.Proofs.YtdbepogafbagpaaDoor
