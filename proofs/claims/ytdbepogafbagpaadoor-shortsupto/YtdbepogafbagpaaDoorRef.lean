import Derived.Test.YtdbepogafbagpaaDoorBase
namespace Go.Proofs.YtdbepogafbagpaaDoor
open Go.RowKit

theorem ret_int {k : IntKind} {a b : Int} (h : a = b) : Ending.returned (.int k a) = .returned (.int k b) := by rw [h]

/-- the sum of the first k numbers; none: beyond 2^62 -/
def fromTo (ps : List Pt) : Nat → Option Int
  | 0 => some 0
  | k + 1 => match fromTo ps k with
    | none => none
    | some n => if 4611686018427387904 - n < (nth ps k).n then none else some (n + (nth ps k).n)
theorem fromTo_some {ps : List Pt} {k : Nat} {s : Int} (h : fromTo ps k = some s) (h2 : (nth ps k).n ≤ 4611686018427387904 - s) : fromTo ps (k + 1) = some (s + (nth ps k).n) := by
  simp only [fromTo, h]; rw [if_neg (by omega)]
theorem fromTo_none {ps : List Pt} {k : Nat} {s : Int} (h : fromTo ps k = some s) (h2 : 4611686018427387904 - s < (nth ps k).n) : fromTo ps (k + 1) = none := by
  simp only [fromTo, h]; rw [if_pos h2]
theorem fromTo_stays {ps : List Pt} {k j : Nat} (h : fromTo ps k = none) (hj : k ≤ j) : fromTo ps j = none := by
  induction j with
  | zero => have : k = 0 := by omega
            subst this; exact h
  | succ j ih =>
    by_cases e : k = j + 1
    · subst e; exact h
    · simp only [fromTo, ih (by omega)]
def From (ps : List Pt) : Int := (fromTo ps ps.length).getD (-1)

set_option maxHeartbeats 400000 in
theorem from_any (ps : List Pt) (ao : Option Addr) (b off cap : Nat) (w : World) (hao : 0 < ps.length → ao = some ⟨b, off, none⟩) (hat : At w b off ps) (hl : ps.length ≤ 1048576) (hn : ∀ i, 0 ≤ (nth ps i).n ∧ (nth ps i).n ≤ 9223372036854775807) :
    Calls Tryd.prog 28 #[.slice ao ps.length cap] w fun e w' => e = .returned (.int .i64 (From ps)) ∧ w' = w := by
  rcases Nat.eq_zero_or_pos ps.length with hz | hz
  · have hF : From ps = 0 := by unfold From; rw [hz]; rfl
    rw [hF, hz]; clear hF
    clear hao hat hn hl hz
    go_enter Tryd.func28, Tryd.ntmps28
    go_wp2
    refine wp_loop_rounds 1 ?_
    rw [rounds_succ]
    go_wp2
    go_ret
    exact ⟨rfl, rfl⟩
  obtain rfl := hao hz
  clear hao
  go_enter Tryd.func28, Tryd.ntmps28
  go_wp2
  go_loop [3, 4] (fun n i => ∃ k : Nat, k ≤ ps.length ∧ i = .int .i64 k ∧ ∃ s, n = .int .i64 s ∧ fromTo ps k = some s ∧ 0 ≤ s ∧ s ≤ 4611686018427387904) (fun _ i => ps.length - (intOf i).toNat)
  case atStart => exact ⟨0, Nat.zero_le _, rfl, 0, rfl, rfl, by omega, by omega⟩
  case round =>
    obtain ⟨k, hk, rfl, s, rfl, hs, hs0, hs1⟩ := hrel
    have HS : Hid (fromTo ps k = some s) := hs
    clear hs
    by_cases hlt : k < ps.length
    · obtain ⟨c0, c1, c2⟩ := hat k hlt
      have hnk := hn k
      clear hat
      by_cases ht : 4611686018427387904 - s < (nth ps k).n
      · go_wp2
        go_ret
        exact ⟨ret_int (by unfold From; rw [fromTo_stays (fromTo_none HS.out ht) (by omega)]; rfl), rfl⟩
      · go_wp2
        go_round
        case rel => exact ⟨k + 1, by omega, by go_num, _, rfl, fromTo_some HS.out (by omega), by omega, by omega⟩
        case measure => simp [intOf]; omega
    · go_wp2
      go_ret
      exact ⟨ret_int (by unfold From; rw [show ps.length = k by omega, HS.out]; rfl), rfl⟩
end Go.Proofs.YtdbepogafbagpaaDoor
