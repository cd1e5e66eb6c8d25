import Derived.Test.YtdbepogafbagpaaDoorRShort
namespace Go.Proofs.YtdbepogafbagpaaDoor
open Go.RowKit
set_option linter.unusedVariables false

theorem row_cell {w : World} {base g n cap : Nat} {xs : List Value} (h : w.ownsRow base 61 3 (.slice (some ⟨g, 0, none⟩) n cap) n xs) (j : Nat) (hj : j < n * 3) : ∃ x, w.cell? ⟨g, j, none⟩ = some x := by
  have hl : xs.length = n * 3 := h.1
  have := h.cellAt j hj
  rw [this, List.getElem?_eq_getElem (by omega)]
  exact ⟨_, rfl⟩

set_option maxRecDepth 100000 in
set_option maxHeartbeats 2000000 in
theorem spoil_any (base : Nat) (w : World) (v : Value) (n : Nat) (xs : List Value) (hn : n ≤ 100000000) (O : w.ownsRow base 61 3 v n xs) :
    Calls Tryd.prog 15 #[v] w fun e w' => e = .returned (.tuple #[]) ∧ Wr (fun k => some k = v.ownBlock) w w' := by
  rcases O.2 with ⟨rfl, h0⟩ | ⟨g, cap, cur, rfl, hb, hg, _⟩
  · clear O h0
    go_enter Tryd.func15, Tryd.ntmps15
    go_wp2
    refine wp_loop_rounds 1 ?_
    rw [rounds_succ]
    go_wp2
    go_end0
    exact ⟨rfl, Wr.refl _ _⟩
  · have HO : Hid (w.ownsRow base 61 3 (.slice (some ⟨g, 0, none⟩) n cap) n xs) := O
    clear O hg
    go_enter Tryd.func15, Tryd.ntmps15
    go_wp2
    go_loopw [2] (fun i wr => ∃ k : Nat, k ≤ n ∧ i = .int .i64 k ∧ (∃ ys, wr.ownsRow base 61 3 (.slice (some ⟨g, 0, none⟩) n cap) n ys) ∧ Wr (fun k => some k = (Value.slice (some ⟨g, 0, none⟩) n cap).ownBlock) w wr) (fun i _ => n - (intOf i).toNat)
    case atStart => exact ⟨0, Nat.zero_le _, rfl, ⟨xs, HO.out⟩, Wr.refl _ _⟩
    case round =>
      obtain ⟨k, hk, rfl, ⟨ys, hown⟩, hwr⟩ := hrel
      by_cases hlt : k < n
      · obtain ⟨x0, c0⟩ := row_cell hown (k * 3) (by omega)
        obtain ⟨x1, c1⟩ := row_cell hown (k * 3 + 1) (by omega)
        obtain ⟨x2, c2⟩ := row_cell hown (k * 3 + 2) (by omega)
        have cf := hown.frozenAt
        have hk0 : (0 : Int) ≤ (k : Int) := Int.natCast_nonneg _
        have hk1 : (k : Int) < (n : Int) := by omega
        obtain ⟨h1, g1⟩ := hown.stored (k * 3) (.int .i64 0)
        obtain ⟨h2, g2⟩ := h1.stored (k * 3 + 1) (.int .i64 0)
        obtain ⟨h3, g3⟩ := h2.stored (k * 3 + 2) (.string ByteArray.empty)
        have HH : Hid (∃ zs, World.ownsRow _ base 61 3 (.slice (some ⟨g, 0, none⟩) n cap) n zs) := ⟨_, h3⟩
        have HW := ((hwr.trans (Wr.grown g1 (fun k hk => hk.symm))).trans (Wr.grown g2 (fun k hk => hk.symm))).trans (Wr.grown g3 (fun k hk => hk.symm))
        have HW' := Hid.out HW
        clear hown h1 h2 h3 g1 g2 g3
        go_wp2
        go_roundw
        case rel => exact ⟨k + 1, by omega, by go_num, HH.out, HW'⟩
        case measure => simp [intOf]; omega
      · go_wp2
        go_end0
        exact ⟨rfl, hwr⟩

set_option maxRecDepth 100000 in
set_option maxHeartbeats 4000000 in
theorem same_pos (ps : List Pt) (g o h p cap cap2 : Nat) (w : World) (hl : ps.length ≤ 100000000) (A : At w g o ps) (B : At w h p ps) (hg : g < w.heap.size) (hh : h < w.heap.size) :
    Calls Tryd.prog 17 #[.slice (some ⟨g, o, none⟩) ps.length cap, .slice (some ⟨h, p, none⟩) ps.length cap2] w fun e w' => e = .returned (.bool true) ∧ Below w.heap.size w w' := by
  go_enter Tryd.func17, Tryd.ntmps17
  go_wp2
  go_loopw [5] (fun i wr => ∃ k : Nat, k ≤ ps.length ∧ i = .int .i64 k ∧ Below w.heap.size w wr) (fun i _ => ps.length - (intOf i).toNat)
  case atStart => exact ⟨0, Nat.zero_le _, rfl, Below.refl _ _⟩
  case round =>
    obtain ⟨k, hk, rfl, hbl⟩ := hrel
    by_cases hlt : k < ps.length
    · obtain ⟨c0, c1, c2⟩ := A k hlt
      obtain ⟨e0, e1, e2⟩ := B k hlt
      have d0 := (hbl.cell (p := ⟨g, o + k * 3, none⟩) hg).trans c0
      have d1 := (hbl.cell (p := ⟨g, o + k * 3 + 1, none⟩) hg).trans c1
      have d2 := (hbl.cell (p := ⟨g, o + k * 3 + 2, none⟩) hg).trans c2
      have f0 := (hbl.cell (p := ⟨h, p + k * 3, none⟩) hh).trans e0
      have f1 := (hbl.cell (p := ⟨h, p + k * 3 + 1, none⟩) hh).trans e1
      have f2 := (hbl.cell (p := ⟨h, p + k * 3 + 2, none⟩) hh).trans e2
      have hk0 : (0 : Int) ≤ (k : Int) := Int.natCast_nonneg _
      have hk1 : (k : Int) < (ps.length : Int) := by omega
      have hb0 : Hid (Below w.heap.size w wr) := hbl
      clear c0 c1 c2 e0 e1 e2 hbl
      go_wp2
      go_quiet (fail)
      go_wp2
      go_roundw
      case rel => exact ⟨k + 1, by omega, by go_num, below_drewN hb0.out _⟩
      case measure => simp [intOf]; omega
    · go_wp2
      go_ret
      exact ⟨rfl, hbl⟩
set_option maxRecDepth 100000 in
set_option maxHeartbeats 2000000 in
theorem same_any (ps : List Pt) (ao bo : Option Addr) (g o h p cap cap2 : Nat) (w : World) (hl : ps.length ≤ 100000000) (ha : 0 < ps.length → ao = some ⟨g, o, none⟩ ∧ g < w.heap.size) (hb : 0 < ps.length → bo = some ⟨h, p, none⟩ ∧ h < w.heap.size) (A : At w g o ps) (B : At w h p ps) :
    Calls Tryd.prog 17 #[.slice ao ps.length cap, .slice bo ps.length cap2] w fun e w' => e = .returned (.bool true) ∧ Below w.heap.size w w' := by
  rcases Nat.eq_zero_or_pos ps.length with hz | hz
  · rw [hz]
    clear hl ha hb A B hz
    go_enter Tryd.func17, Tryd.ntmps17
    go_wp2
    refine wp_loop_rounds 1 ?_
    rw [rounds_succ]
    go_wp2
    go_ret
    exact ⟨rfl, Below.refl _ _⟩
  · obtain ⟨rfl, hg⟩ := ha hz
    obtain ⟨rfl, hh⟩ := hb hz
    exact same_pos ps g o h p cap cap2 w hl A B hg hh
end Go.Proofs.YtdbepogafbagpaaDoor
