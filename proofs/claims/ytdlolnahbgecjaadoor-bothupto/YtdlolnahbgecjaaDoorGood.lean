import Derived.Test.YtdlolnahbgecjaaDoorBase
namespace Go.Proofs.YtdlolnahbgecjaaDoor
open Go.RowKit

theorem ret_int {k : IntKind} {a b : Int} (h : a = b) : Ending.returned (.int k a) = .returned (.int k b) := by rw [h]

/-- the sum of the first k numbers; none: beyond 2^62 -/
def fromTo (ps : List Pt) : Nat → Option Int
  | 0 => some 0
  | k + 1 => match fromTo ps k with
    | none => none
    | some n => if 4611686018427387904 - n < (nth ps k).n then none else some (n + (nth ps k).n)
theorem fromTo_some {ps : List Pt} {k : Nat} {s : Int} (h : fromTo ps k = some s) (h2 : (nth ps k).n ≤ 4611686018427387904 - s) : fromTo ps (k + 1) = some (s + (nth ps k).n) := by
  simp only [fromTo, h]; rw [if_neg (by omega)]
theorem fromTo_none {ps : List Pt} {k : Nat} {s : Int} (h : fromTo ps k = some s) (h2 : 4611686018427387904 - s < (nth ps k).n) : fromTo ps (k + 1) = none := by
  simp only [fromTo, h]; rw [if_pos h2]
theorem fromTo_stays {ps : List Pt} {k j : Nat} (h : fromTo ps k = none) (hj : k ≤ j) : fromTo ps j = none := by
  induction j with
  | zero => have : k = 0 := by omega
            subst this; exact h
  | succ j ih =>
    by_cases e : k = j + 1
    · subst e; exact h
    · simp only [fromTo, ih (by omega)]
def From (ps : List Pt) : Int := (fromTo ps ps.length).getD (-1)

set_option maxHeartbeats 400000 in
theorem from_any (ps : List Pt) (ao : Option Addr) (b off cap : Nat) (w : World) (hao : 0 < ps.length → ao = some ⟨b, off, none⟩) (hat : At w b off ps) (hl : ps.length ≤ 1048576) (hn : ∀ i, 0 ≤ (nth ps i).n ∧ (nth ps i).n ≤ 9223372036854775807) :
    Calls Tryd.prog 28 #[.slice ao ps.length cap] w fun e w' => e = .returned (.int .i64 (From ps)) ∧ w' = w := by
  rcases Nat.eq_zero_or_pos ps.length with hz | hz
  · have hF : From ps = 0 := by unfold From; rw [hz]; rfl
    rw [hF, hz]; clear hF
    clear hao hat hn hl hz
    go_enter Tryd.func28, Tryd.ntmps28
    go_wp2
    refine wp_loop_rounds 1 ?_
    rw [rounds_succ]
    go_wp2
    go_ret
    exact ⟨rfl, rfl⟩
  obtain rfl := hao hz
  clear hao
  go_enter Tryd.func28, Tryd.ntmps28
  go_wp2
  go_loop [3, 4] (fun n i => ∃ k : Nat, k ≤ ps.length ∧ i = .int .i64 k ∧ ∃ s, n = .int .i64 s ∧ fromTo ps k = some s ∧ 0 ≤ s ∧ s ≤ 4611686018427387904) (fun _ i => ps.length - (intOf i).toNat)
  case atStart => exact ⟨0, Nat.zero_le _, rfl, 0, rfl, rfl, by omega, by omega⟩
  case round =>
    obtain ⟨k, hk, rfl, s, rfl, hs, hs0, hs1⟩ := hrel
    have HS : Hid (fromTo ps k = some s) := hs
    clear hs
    by_cases hlt : k < ps.length
    · obtain ⟨c0, c1, c2⟩ := hat k hlt
      have hnk := hn k
      clear hat
      by_cases ht : 4611686018427387904 - s < (nth ps k).n
      · go_wp2
        go_ret
        exact ⟨ret_int (by unfold From; rw [fromTo_stays (fromTo_none HS.out ht) (by omega)]; rfl), rfl⟩
      · go_wp2
        go_round
        case rel => exact ⟨k + 1, by omega, by go_num, _, rfl, fromTo_some HS.out (by omega), by omega, by omega⟩
        case measure => simp [intOf]; omega
    · go_wp2
      go_ret
      exact ⟨ret_int (by unfold From; rw [show ps.length = k by omega, HS.out]; rfl), rfl⟩
end Go.Proofs.YtdlolnahbgecjaaDoor
namespace Go.Proofs.YtdlolnahbgecjaaDoor
open Go.RowKit

theorem ret_bool {a b : Bool} (h : a = b) : Ending.returned (.bool a) = .returned (.bool b) := by rw [h]
/-- is it a part of a change? -/
def okPt (p : Pt) : Bool := ((p.k == 1 || p.k == 3) && decide (1 ≤ p.n) && p.t.toList.isEmpty) || (p.k == 2 && p.n == 0 && !p.t.toList.isEmpty)
def goodTo (ps : List Pt) (k : Nat) : Prop := ∀ i, i < k → okPt (nth ps i) = true
def Good (ps : List Pt) : Bool := ps.all okPt
theorem good_of (ps : List Pt) (h : goodTo ps ps.length) : Good ps = true := by
  unfold Good
  rw [List.all_eq_true]
  intro x hx
  obtain ⟨i, hi, rfl⟩ := List.getElem_of_mem hx
  have := h i hi
  simpa [nth, hi] using this
theorem bad_of (ps : List Pt) (k : Nat) (hk : k < ps.length) (h : okPt (nth ps k) = false) : Good ps = false := by
  unfold Good
  rw [List.all_eq_false]
  exact ⟨ps[k], List.getElem_mem hk, by simpa [nth, hk] using h⟩
theorem good_nth {ps : List Pt} (h : Good ps = true) (i : Nat) (hi : i < ps.length) : okPt (nth ps i) = true := by
  unfold Good at h
  rw [List.all_eq_true] at h
  have := h ps[i] (List.getElem_mem hi)
  simpa [nth, hi] using this

set_option maxHeartbeats 1000000 in
theorem good_any (ps : List Pt) (ao : Option Addr) (b off cap : Nat) (w : World) (hao : 0 < ps.length → ao = some ⟨b, off, none⟩) (hb : 0 < ps.length → b < w.heap.size) (hat : At w b off ps) (hl : ps.length ≤ 1048576) :
    Calls Tryd.prog 27 #[.slice ao ps.length cap] w fun e w' => e = .returned (.bool (Good ps)) ∧ Below w.heap.size w w' := by
  rcases Nat.eq_zero_or_pos ps.length with hz | hz
  · have hF : Good ps = true := good_of ps (by rw [hz]; intro i hi; omega)
    rw [hF, hz]; clear hF
    clear hao hat hl hz hb
    go_enter Tryd.func27, Tryd.ntmps27
    go_wp2
    refine wp_loop_rounds 1 ?_
    rw [rounds_succ]
    go_wp2
    go_ret
    exact ⟨rfl, Below.refl _ _⟩
  obtain rfl := hao hz
  have hb := hb hz
  clear hao
  go_enter Tryd.func27, Tryd.ntmps27
  go_wp2
  go_loopw [3] (fun i wr => ∃ k : Nat, k ≤ ps.length ∧ i = .int .i64 k ∧ goodTo ps k ∧ Below w.heap.size w wr) (fun i _ => ps.length - (intOf i).toNat)
  case atStart => exact ⟨0, Nat.zero_le _, rfl, fun i hi => by omega, Below.refl _ _⟩
  case round =>
    obtain ⟨k, hk, rfl, hg, hbl⟩ := hrel
    have HG : Hid (goodTo ps k) := hg
    clear hg
    by_cases hlt : k < ps.length
    · obtain ⟨c0, c1, c2⟩ := hat k hlt
      have d0 := (hbl.cell (p := ⟨b, off + k * 3, none⟩) hb).trans c0
      have d1 := (hbl.cell (p := ⟨b, off + k * 3 + 1, none⟩) hb).trans c1
      have d2 := (hbl.cell (p := ⟨b, off + k * 3 + 2, none⟩) hb).trans c2
      clear c0 c1 c2 hat
      obtain ⟨p, hp⟩ : ∃ p, p = nth ps k := ⟨_, rfl⟩
      rw [← hp] at d0 d1 d2
      have HP : Hid (p = nth ps k) := hp
      clear hp
      have fin : Hid (∀ i, okPt p = true → i < k + 1 → okPt (nth ps i) = true) := fun i h hi => by
        by_cases e : i = k
        · subst e; rw [← HP.out]; exact h
        · exact HG.out i (by omega)
      have hbad : Hid (okPt p = false → Good ps = false) := fun h => bad_of ps k hlt (by rw [← HP.out]; exact h)
      go_wp2
      all_goals first
        | (go_roundw
           case rel => exact ⟨k + 1, by omega, by go_num, fun i hi => fin.out i (by simp_all [okPt]) hi, hbl.alloc (hbl.size) _⟩
           case measure => simp [intOf]; omega)
        | (go_ret
           exact ⟨ret_bool (hbad.out (by clear fin hbad; first | (simp_all [okPt]; done) | (simp_all [okPt]; omega) | (simp_all [okPt]; rcases ‹p.n < 1 ∨ _› with h | h <;> first | omega | exact h))).symm, hbl.alloc (hbl.size) _⟩)
    · have hfin : Good ps = true := good_of ps (by rw [show ps.length = k by omega]; exact HG.out)
      have HF : Hid (Good ps = true) := hfin
      clear hfin
      go_wp2
      go_ret
      exact ⟨ret_bool HF.out.symm, hbl⟩
end Go.Proofs.YtdlolnahbgecjaaDoor
