import Derived.Test.YtdlolnahbgecjaaDoorPush5
namespace Go.Proofs.YtdlolnahbgecjaaDoor
open Go.RowKit
set_option linter.unusedVariables false

/-- the first k parts, in short -/
def shTo (ps : List Pt) (k : Nat) : List Pt := (ps.take k).foldl pushP []
theorem shTo_succ (ps : List Pt) (k : Nat) (h : k < ps.length) : shTo ps (k + 1) = pushP (shTo ps k) (nth ps k) := by
  unfold shTo; rw [take_nth ps k h, List.foldl_append]; rfl
theorem shTo_all (ps : List Pt) : shTo ps ps.length = shortL ps := by unfold shTo; rw [List.take_length]; rfl
theorem shTo_ok {ps : List Pt} (hg : Good ps = true) : ∀ k, k ≤ ps.length → ∀ r, fromTo ps k = some r → POk (shTo ps k) r k (textTo ps k)
  | 0, _, r, h => by simp [fromTo] at h; subst h; exact ⟨by simp [shTo], by simp [shTo, sumL], by simp [shTo], by simp [shTo, textL]⟩
  | k + 1, hk, r, h => by
    obtain ⟨r', h', e, _⟩ := fromTo_part h
    have ih := shTo_ok hg k (by omega) r' h'
    rw [shTo_succ ps k (by omega), e]
    exact ih.push (ok_okP (good_nth hg k (by omega)))

set_option maxRecDepth 100000 in
set_option maxHeartbeats 4000000 in
theorem rshort_pos (ps : List Pt) (b off cap : Nat) (s : Int) (w : World) (L : Lst ps) (hf : fromTo ps ps.length = some s) (A : At w b off ps) (hblt : b < w.heap.size) (hz : 0 < ps.length) :
    Calls Tryd.prog 30 #[.slice (some ⟨b, off, none⟩) ps.length cap] w fun e w' => ∃ v, e = .returned v ∧ Own w' w.heap.size v (shortL ps) ∧ Below w.heap.size w w' := by
  have hlen := L.len
  have HL : Hid (Lst ps) := L
  have HF : Hid (fromTo ps ps.length = some s) := hf
  clear L hf
  go_enter Tryd.func30, Tryd.ntmps30
  go_wp2
  go_loopw [3, 4] (fun v i wr => ∃ k : Nat, k ≤ ps.length ∧ i = .int .i64 k ∧ Own wr w.heap.size v (shTo ps k) ∧ Below w.heap.size w wr) (fun _ i _ => ps.length - (intOf i).toNat)
  case atStart => exact ⟨0, Nat.zero_le _, rfl, World.ownsRow_nil _ _ _ _, Below.refl _ _⟩
  case round =>
    obtain ⟨k, hk, rfl, hown, hbl⟩ := hrel
    by_cases hlt : k < ps.length
    · obtain ⟨c0, c1, c2⟩ := A k hlt
      have d0 := (hbl.cell (p := ⟨b, off + k * 3, none⟩) hblt).trans c0
      have d1 := (hbl.cell (p := ⟨b, off + k * 3 + 1, none⟩) hblt).trans c1
      have d2 := (hbl.cell (p := ⟨b, off + k * 3 + 2, none⟩) hblt).trans c2
      have hk0 : (0 : Int) ≤ (k : Int) := Int.natCast_nonneg _
      have hk1 : (k : Int) < (ps.length : Int) := by omega
      have hsz := hbl.size
      have HP : Hid (Calls Tryd.prog 33 #[u3, .agg #[.int .i64 (nth ps k).k, .int .i64 (nth ps k).n, .string (nth ps k).t]] wr fun e w' => ∃ v', e = .returned v' ∧ Own w' w.heap.size v' (shTo ps (k + 1)) ∧ Below w.heap.size w w') := by
        obtain ⟨r, hr⟩ := fromTo_head HF.out (show k + 1 ≤ ps.length by omega)
        obtain ⟨r', h', e, h3⟩ := fromTo_part hr
        have hok := shTo_ok HL.out.good k hk r' h'
        have hp := ok_okP (good_nth HL.out.good k hlt)
        have ht : textTo ps (k + 1) ≤ textTo ps ps.length := textTo_le ps (show k + 1 ≤ ps.length by omega)
        have ht2 := HL.out.text
        simp only [textTo] at ht
        rw [shTo_succ ps k hlt]
        refine (push_any wr u3 (shTo ps k) (nth ps k) r' k (textTo ps k) hsz hown hp hok (by omega) (by omega) (by omega)).mono ?_
        rintro e w1 ⟨v', rfl, hO, hF⟩
        exact ⟨v', rfl, hO, hbl.trans (hF.below hown (Nat.le_refl _) hsz)⟩
      clear hown c0 c1 c2
      go_wp2_with (go_at_call 33; refine HP.out.mono ?_; rintro e w1 ⟨v', rfl, hO, hB⟩; have HO : Hid (Own w1 w.heap.size v' (shTo ps (k + 1))) := hO; have HB : Hid (Below w.heap.size w w1) := hB; clear hO hB)
      go_roundw
      case rel => exact ⟨k + 1, by omega, by go_num, HO.out, HB.out⟩
      case measure => simp [intOf]; omega
    · obtain rfl : k = ps.length := by omega
      rw [shTo_all] at hown
      go_wp2
      go_ret
      exact ⟨_, rfl, hown, hbl⟩

set_option maxRecDepth 100000 in
set_option maxHeartbeats 2000000 in
theorem rshort_any (ps : List Pt) (ao : Option Addr) (b off cap : Nat) (s : Int) (w : World) (L : Lst ps) (hf : fromTo ps ps.length = some s) (hao : 0 < ps.length → ao = some ⟨b, off, none⟩) (A : At w b off ps) (hb : 0 < ps.length → b < w.heap.size) :
    Calls Tryd.prog 30 #[.slice ao ps.length cap] w fun e w' => ∃ v, e = .returned v ∧ Own w' w.heap.size v (shortL ps) ∧ Below w.heap.size w w' := by
  rcases Nat.eq_zero_or_pos ps.length with hz | hz
  · have : ps = [] := List.eq_nil_of_length_eq_zero hz
    subst this
    have HO : Hid (∀ w : World, Own w w.heap.size (.slice none 0 0) (shortL [])) := fun w => World.ownsRow_nil _ _ _ _
    clear L hf hao A hb hz
    show Calls Tryd.prog 30 #[.slice ao 0 cap] w _
    go_enter Tryd.func30, Tryd.ntmps30
    go_wp2
    refine wp_loop_rounds 1 ?_
    rw [rounds_succ]
    go_wp2
    go_ret
    exact ⟨_, rfl, HO.out _, Below.refl _ _⟩
  · obtain rfl := hao hz
    exact rshort_pos ps b off cap s w L hf A (hb hz) hz

theorem Arg.nn {w : World} {ps : List Pt} {ao : Option Addr} {b off : Nat} (A : Arg w ps ao b off) (hg : Good ps = true) : ∀ i, 0 ≤ (nth ps i).n ∧ (nth ps i).n ≤ 9223372036854775807 := fun i => by
  by_cases hi : i < ps.length
  · exact ⟨ok_n (good_nth hg i hi), (A.num i).2⟩
  · simp [nth, List.getD, List.getElem?_eq_none (by omega : ps.length ≤ i)]

set_option maxRecDepth 100000 in
set_option maxHeartbeats 2000000 in
theorem refShort_any (ps : List Pt) (ao : Option Addr) (b off cap : Nat) (w : World) (A : Arg w ps ao b off) :
    Calls Tryd.prog 16 #[.slice ao ps.length cap] w fun e w' => ∃ v, e = .returned (.tuple #[v, .int .i64 (shortCode ps)]) ∧ Own w' w.heap.size v (shortOut ps) ∧ Below w.heap.size w w' := by
  have HA : Hid (Arg w ps ao b off) := A
  have HG : Hid (Calls Tryd.prog 27 #[.slice ao ps.length cap] w fun e w' => e = .returned (.bool (Good ps)) ∧ Below w.heap.size w w') := good_any ps ao b off cap w A.ao A.lt A.cells A.len
  clear A
  cases hg : Good ps with
  | false =>
    have HC : Hid (shortCode ps = 1) := by unfold shortCode; rw [if_pos hg]; trivial
    have HO : Hid (shortOut ps = []) := by unfold shortOut; rw [HC.out]; rfl
    rw [HC.out, HO.out]
    rw [hg] at HG
    clear hg
    go_enter Tryd.func16, Tryd.ntmps16
    go_wp2_with (go_at_call 27; refine HG.out.mono ?_; rintro e w1 ⟨rfl, hb1⟩)
    go_ret2
    exact ⟨_, rfl, World.ownsRow_nil _ _ _ _, hb1⟩
  | true =>
    have HFr : Hid (∀ w', Below w.heap.size w w' → Calls Tryd.prog 28 #[.slice ao ps.length cap] w' fun e w'' => e = .returned (.int .i64 (From ps)) ∧ w'' = w') := fun w' hb => from_any ps ao b off cap w' HA.out.ao (HA.out.cells.below hb HA.out.lt) HA.out.len (HA.out.nn hg)
    rw [hg] at HG
    by_cases hf : From ps < 0
    · have HC : Hid (shortCode ps = 2) := by unfold shortCode; rw [if_neg (by simp [hg]), if_pos hf]; trivial
      have HO : Hid (shortOut ps = []) := by unfold shortOut; rw [HC.out]; rfl
      rw [HC.out, HO.out]
      clear hg
      go_enter Tryd.func16, Tryd.ntmps16
      go_wp2_with (first | (go_at_call 27; refine HG.out.mono ?_; rintro e w1 ⟨rfl, hb1⟩) | (go_at_call 28; refine (HFr.out _ hb1).mono ?_; rintro e w2 ⟨rfl, hww⟩; obtain rfl := hww.symm))
      go_ret2
      exact ⟨_, rfl, World.ownsRow_nil _ _ _ _, hb1⟩
    · have HC : Hid (shortCode ps = 0) := by unfold shortCode; rw [if_neg (by simp [hg]), if_neg hf]; trivial
      have HO : Hid (shortOut ps = shortL ps) := by unfold shortOut; rw [HC.out]; rfl
      rw [HC.out, HO.out]
      obtain ⟨s, hs⟩ : ∃ s, fromTo ps ps.length = some s := by
        cases e : fromTo ps ps.length with
        | none => simp [From, e] at hf
        | some s => exact ⟨s, rfl⟩
      have HR : Hid (∀ w', Below w.heap.size w w' → Calls Tryd.prog 30 #[.slice ao ps.length cap] w' fun e w'' => ∃ v, e = .returned v ∧ Own w'' w'.heap.size v (shortL ps) ∧ Below w'.heap.size w' w'') := fun w' hb => rshort_any ps ao b off cap s w' (HA.out.lst hg) hs HA.out.ao (HA.out.cells.below hb HA.out.lt) (fun h => Nat.lt_of_lt_of_le (HA.out.lt h) hb.size)
      clear hg hs
      go_enter Tryd.func16, Tryd.ntmps16
      go_wp2_with (first | (go_at_call 27; refine HG.out.mono ?_; rintro e w1 ⟨rfl, hb1⟩) | (go_at_call 28; refine (HFr.out _ hb1).mono ?_; rintro e w2 ⟨rfl, hww⟩; obtain rfl := hww.symm) | (go_at_call 30; refine (HR.out _ hb1).mono ?_; rintro e w3 ⟨v, rfl, hO, hb3⟩; have HOv : Hid (Own w3 w1.heap.size v (shortL ps)) := hO; clear hO))
      go_ret2
      exact ⟨_, rfl, ownsRow_weak' HOv.out hb1.size, hb1.trans (hb3.mono hb1.size)⟩
end Go.Proofs.YtdlolnahbgecjaaDoor
namespace Go.Proofs.YtdlolnahbgecjaaDoor
open Go.RowKit
set_option linter.unusedVariables false

theorem row_cell {w : World} {base g n cap : Nat} {xs : List Value} (h : w.ownsRow base 61 3 (.slice (some ⟨g, 0, none⟩) n cap) n xs) (j : Nat) (hj : j < n * 3) : ∃ x, w.cell? ⟨g, j, none⟩ = some x := by
  have hl : xs.length = n * 3 := h.1
  have := h.cellAt j hj
  rw [this, List.getElem?_eq_getElem (by omega)]
  exact ⟨_, rfl⟩

set_option maxRecDepth 100000 in
set_option maxHeartbeats 2000000 in
theorem spoil_any (base : Nat) (w : World) (v : Value) (n : Nat) (xs : List Value) (hn : n ≤ 100000000) (O : w.ownsRow base 61 3 v n xs) :
    Calls Tryd.prog 15 #[v] w fun e w' => e = .returned (.tuple #[]) ∧ Wr (fun k => some k = v.ownBlock) w w' := by
  rcases O.2 with ⟨rfl, h0⟩ | ⟨g, cap, cur, rfl, hb, hg, _⟩
  · clear O h0
    go_enter Tryd.func15, Tryd.ntmps15
    go_wp2
    refine wp_loop_rounds 1 ?_
    rw [rounds_succ]
    go_wp2
    go_end0
    exact ⟨rfl, Wr.refl _ _⟩
  · have HO : Hid (w.ownsRow base 61 3 (.slice (some ⟨g, 0, none⟩) n cap) n xs) := O
    clear O hg
    go_enter Tryd.func15, Tryd.ntmps15
    go_wp2
    go_loopw [2] (fun i wr => ∃ k : Nat, k ≤ n ∧ i = .int .i64 k ∧ (∃ ys, wr.ownsRow base 61 3 (.slice (some ⟨g, 0, none⟩) n cap) n ys) ∧ Wr (fun k => some k = (Value.slice (some ⟨g, 0, none⟩) n cap).ownBlock) w wr) (fun i _ => n - (intOf i).toNat)
    case atStart => exact ⟨0, Nat.zero_le _, rfl, ⟨xs, HO.out⟩, Wr.refl _ _⟩
    case round =>
      obtain ⟨k, hk, rfl, ⟨ys, hown⟩, hwr⟩ := hrel
      by_cases hlt : k < n
      · obtain ⟨x0, c0⟩ := row_cell hown (k * 3) (by omega)
        obtain ⟨x1, c1⟩ := row_cell hown (k * 3 + 1) (by omega)
        obtain ⟨x2, c2⟩ := row_cell hown (k * 3 + 2) (by omega)
        have cf := hown.frozenAt
        have hk0 : (0 : Int) ≤ (k : Int) := Int.natCast_nonneg _
        have hk1 : (k : Int) < (n : Int) := by omega
        obtain ⟨h1, g1⟩ := hown.stored (k * 3) (.int .i64 0)
        obtain ⟨h2, g2⟩ := h1.stored (k * 3 + 1) (.int .i64 0)
        obtain ⟨h3, g3⟩ := h2.stored (k * 3 + 2) (.string ByteArray.empty)
        have HH : Hid (∃ zs, World.ownsRow _ base 61 3 (.slice (some ⟨g, 0, none⟩) n cap) n zs) := ⟨_, h3⟩
        have HW := ((hwr.trans (Wr.grown g1 (fun k hk => hk.symm))).trans (Wr.grown g2 (fun k hk => hk.symm))).trans (Wr.grown g3 (fun k hk => hk.symm))
        have HW' := Hid.out HW
        clear hown h1 h2 h3 g1 g2 g3
        go_wp2
        go_roundw
        case rel => exact ⟨k + 1, by omega, by go_num, HH.out, HW'⟩
        case measure => simp [intOf]; omega
      · go_wp2
        go_end0
        exact ⟨rfl, hwr⟩

set_option maxRecDepth 100000 in
set_option maxHeartbeats 4000000 in
theorem same_pos (ps : List Pt) (g o h p cap cap2 : Nat) (w : World) (hl : ps.length ≤ 100000000) (A : At w g o ps) (B : At w h p ps) (hg : g < w.heap.size) (hh : h < w.heap.size) :
    Calls Tryd.prog 17 #[.slice (some ⟨g, o, none⟩) ps.length cap, .slice (some ⟨h, p, none⟩) ps.length cap2] w fun e w' => e = .returned (.bool true) ∧ Below w.heap.size w w' := by
  go_enter Tryd.func17, Tryd.ntmps17
  go_wp2
  go_loopw [5] (fun i wr => ∃ k : Nat, k ≤ ps.length ∧ i = .int .i64 k ∧ Below w.heap.size w wr) (fun i _ => ps.length - (intOf i).toNat)
  case atStart => exact ⟨0, Nat.zero_le _, rfl, Below.refl _ _⟩
  case round =>
    obtain ⟨k, hk, rfl, hbl⟩ := hrel
    by_cases hlt : k < ps.length
    · obtain ⟨c0, c1, c2⟩ := A k hlt
      obtain ⟨e0, e1, e2⟩ := B k hlt
      have d0 := (hbl.cell (p := ⟨g, o + k * 3, none⟩) hg).trans c0
      have d1 := (hbl.cell (p := ⟨g, o + k * 3 + 1, none⟩) hg).trans c1
      have d2 := (hbl.cell (p := ⟨g, o + k * 3 + 2, none⟩) hg).trans c2
      have f0 := (hbl.cell (p := ⟨h, p + k * 3, none⟩) hh).trans e0
      have f1 := (hbl.cell (p := ⟨h, p + k * 3 + 1, none⟩) hh).trans e1
      have f2 := (hbl.cell (p := ⟨h, p + k * 3 + 2, none⟩) hh).trans e2
      have hk0 : (0 : Int) ≤ (k : Int) := Int.natCast_nonneg _
      have hk1 : (k : Int) < (ps.length : Int) := by omega
      have hb0 : Hid (Below w.heap.size w wr) := hbl
      clear c0 c1 c2 e0 e1 e2 hbl
      go_wp2
      go_quiet (fail)
      go_wp2
      go_roundw
      case rel => exact ⟨k + 1, by omega, by go_num, below_drewN hb0.out _⟩
      case measure => simp [intOf]; omega
    · go_wp2
      go_ret
      exact ⟨rfl, hbl⟩
set_option maxRecDepth 100000 in
set_option maxHeartbeats 2000000 in
theorem same_any (ps : List Pt) (ao bo : Option Addr) (g o h p cap cap2 : Nat) (w : World) (hl : ps.length ≤ 100000000) (ha : 0 < ps.length → ao = some ⟨g, o, none⟩ ∧ g < w.heap.size) (hb : 0 < ps.length → bo = some ⟨h, p, none⟩ ∧ h < w.heap.size) (A : At w g o ps) (B : At w h p ps) :
    Calls Tryd.prog 17 #[.slice ao ps.length cap, .slice bo ps.length cap2] w fun e w' => e = .returned (.bool true) ∧ Below w.heap.size w w' := by
  rcases Nat.eq_zero_or_pos ps.length with hz | hz
  · rw [hz]
    clear hl ha hb A B hz
    go_enter Tryd.func17, Tryd.ntmps17
    go_wp2
    refine wp_loop_rounds 1 ?_
    rw [rounds_succ]
    go_wp2
    go_ret
    exact ⟨rfl, Below.refl _ _⟩
  · obtain ⟨rfl, hg⟩ := ha hz
    obtain ⟨rfl, hh⟩ := hb hz
    exact same_pos ps g o h p cap cap2 w hl A B hg hh
end Go.Proofs.YtdlolnahbgecjaaDoor
