import Derived.Test.YtdbepogafbagpaaDoorPush3
namespace Go.Proofs.YtdbepogafbagpaaDoor
open Go.RowKit
set_option linter.unusedVariables false

theorem own_two {w : World} {base : Nat} {v : Value} {r : List Pt} {q2 q : Pt} (h : Own w base v ((r ++ [q2]) ++ [q])) : ∃ g cap, v = .slice (some ⟨g, 0, none⟩) ((r.length + 1) + 1) cap ∧ base ≤ g ∧ g < w.heap.size ∧
    (w.cell? ⟨g, r.length * 3, none⟩ = some (.int .i64 q2.k) ∧ w.cell? ⟨g, r.length * 3 + 1, none⟩ = some (.int .i64 q2.n) ∧ w.cell? ⟨g, r.length * 3 + 2, none⟩ = some (.string q2.t)) ∧
    (w.cell? ⟨g, (r.length + 1) * 3, none⟩ = some (.int .i64 q.k) ∧ w.cell? ⟨g, (r.length + 1) * 3 + 1, none⟩ = some (.int .i64 q.n) ∧ w.cell? ⟨g, (r.length + 1) * 3 + 2, none⟩ = some (.string q.t)) ∧ (∀ j, w.frozen? ⟨g, j, none⟩ = false) ∧ w.ownsRow base 60 3 (.slice (some ⟨g, 0, none⟩) ((r.length + 1) + 1) cap) ((r.length + 1) + 1) (cellsOf ((r ++ [q2]) ++ [q])) := by
  have hl : ((r ++ [q2]) ++ [q]).length = (r.length + 1) + 1 := by simp
  obtain ⟨g, cap, hv, hb, hg, hc, hf, ho⟩ := own_cells60 h (by omega)
  rw [hl] at hv ho
  have a := hc r.length (by omega)
  have b := hc (r.length + 1) (by omega)
  rw [show nth ((r ++ [q2]) ++ [q]) r.length = q2 by simp [nth]] at a
  rw [show nth ((r ++ [q2]) ++ [q]) (r.length + 1) = q by simp [nth]] at b
  exact ⟨g, cap, hv, hb, hg, a, b, hf, ho⟩

theorem stopHere {p : Prop} (h : Hid p) : p := h.out

set_option maxRecDepth 100000 in
set_option maxHeartbeats 4000000 in
theorem push_swap3 {base : Nat} (w : World) (v : Value) (r : List Pt) (q2 : Pt) (qn pn : Int) (qt pt : ByteArray) (hb : base ≤ w.heap.size) (O : Own w base v ((r ++ [q2]) ++ [⟨3, qn, qt⟩])) (h2 : (q2.k == 2) = false) (hl : r.length ≤ 100000000) (hsp : some' ⟨2, pn, pt⟩) :
    Calls Tryd.prog 33 #[v, .agg #[.int .i64 2, .int .i64 pn, .string pt]] w fun e w' => ∃ v', e = .returned v' ∧ Own w' base v' (((r ++ [q2]) ++ [⟨2, pn, pt⟩]) ++ [⟨3, qn, qt⟩]) ∧ Fr base [60] w w' := by
  obtain ⟨i0, hi0, hz0, hz1, hz2⟩ := info_parts Tryd.info60
  obtain ⟨g, cap, rfl, hgb, hgl, ⟨d0, d1, d2⟩, ⟨c0, c1, c2⟩, cf, hown⟩ := own_two O
  change w.cell? ⟨g, (r.length + 1) * 3, none⟩ = some (.int .i64 3) at c0
  change w.cell? ⟨g, (r.length + 1) * 3 + 1, none⟩ = some (.int .i64 qn) at c1
  change w.cell? ⟨g, (r.length + 1) * 3 + 2, none⟩ = some (.string qt) at c2
  have hi0' : (0 : Int) ≤ (r.length : Int) := Int.natCast_nonneg _
  have hn0 : ((r.length : Int) + 1 + 1 == 0) = false := by simp; omega
  have hn00 : (0 : Int) < (r.length : Int) + 1 + 1 := by omega
  have hm2 : (r.length : Int) + 1 + 1 - 2 = (r.length : Int) := by omega
  have hn1 : (1 : Int) < (r.length : Int) + 1 + 1 := by omega
  have hi1' : (r.length : Int) < (r.length : Int) + 1 + 1 := by omega
  have hi2' : (r.length : Int) + 1 < (r.length : Int) + 1 + 1 := by omega
  have hgne : g ≠ w.heap.size := by omega
  have hz : ((pn == 0) = false) ∨ ((pn == 0) = true ∧ pt.toList.isEmpty = false) := some_cases hsp
  have HO : Hid (w.ownsRow base 60 3 (.slice (some ⟨g, 0, none⟩) ((r.length + 1) + 1) cap) ((r.length + 1) + 1) (cellsOf ((r ++ [q2]) ++ [⟨3, qn, qt⟩]))) := hown
  clear O hown hsp
  rcases hz with hz | ⟨hz, hz'⟩
  all_goals
    go_enter Tryd.func33, Tryd.ntmps33
    go_wp2
    go_quiet (fail)
    have hw0 : Below w.heap.size w ((w.alloc (.cells #[.int .i64 2, .int .i64 pn, .string pt] 60)).drewN nq) := below_drewN ((Below.refl _ _).alloc (Nat.le_refl _) _) _
    have hO1 : ((w.alloc (.cells #[.int .i64 2, .int .i64 pn, .string pt] 60)).drewN nq).ownsRow base 60 3 (.slice (some ⟨g, 0, none⟩) ((r.length + 1) + 1) cap) ((r.length + 1) + 1) (cellsOf ((r ++ [q2]) ++ [⟨3, qn, qt⟩])) := own_here HO.out hw0
    have hrl : (r ++ [q2]).length = r.length + 1 := by simp
    rw [← hrl] at hO1
    obtain ⟨hO2, hF2⟩ := own_put hO1 2 pn pt
    rw [hrl] at hO2 hF2
    have hsz : (((((w.alloc (.cells #[.int .i64 2, .int .i64 pn, .string pt] 60)).drewN nq).setCell ⟨g, (r.length + 1) * 3, none⟩ (.int .i64 2)).setCell ⟨g, (r.length + 1) * 3 + 1, none⟩ (.int .i64 pn)).setCell ⟨g, (r.length + 1) * 3 + 2, none⟩ (.string pt)).heap.size = w.heap.size + 1 := by simp
    have hF2' : Fr base [60] w (((((w.alloc (.cells #[.int .i64 2, .int .i64 pn, .string pt] 60)).drewN nq).setCell ⟨g, (r.length + 1) * 3, none⟩ (.int .i64 2)).setCell ⟨g, (r.length + 1) * 3 + 1, none⟩ (.int .i64 pn)).setCell ⟨g, (r.length + 1) * 3 + 2, none⟩ (.string pt)) := (Fr.here hw0).trans hF2
    have hB3 : Below ((((((w.alloc (.cells #[.int .i64 2, .int .i64 pn, .string pt] 60)).drewN nq).setCell ⟨g, (r.length + 1) * 3, none⟩ (.int .i64 2)).setCell ⟨g, (r.length + 1) * 3 + 1, none⟩ (.int .i64 pn)).setCell ⟨g, (r.length + 1) * 3 + 2, none⟩ (.string pt)).heap.size) (((((w.alloc (.cells #[.int .i64 2, .int .i64 pn, .string pt] 60)).drewN nq).setCell ⟨g, (r.length + 1) * 3, none⟩ (.int .i64 2)).setCell ⟨g, (r.length + 1) * 3 + 1, none⟩ (.int .i64 pn)).setCell ⟨g, (r.length + 1) * 3 + 2, none⟩ (.string pt)) (((((((w.alloc (.cells #[.int .i64 2, .int .i64 pn, .string pt] 60)).drewN nq).setCell ⟨g, (r.length + 1) * 3, none⟩ (.int .i64 2)).setCell ⟨g, (r.length + 1) * 3 + 1, none⟩ (.int .i64 pn)).setCell ⟨g, (r.length + 1) * 3 + 2, none⟩ (.string pt)).alloc (.cells #[.int .i64 3, .int .i64 qn, .string qt] 60)).alloc (.cells #[.int .i64 3, .int .i64 qn, .string qt] 60)) := ((Below.refl _ _).alloc (Nat.le_refl _) _).alloc (by simp) _
    have HF3 : Hid (Fr base [60] w (((((((w.alloc (.cells #[.int .i64 2, .int .i64 pn, .string pt] 60)).drewN nq).setCell ⟨g, (r.length + 1) * 3, none⟩ (.int .i64 2)).setCell ⟨g, (r.length + 1) * 3 + 1, none⟩ (.int .i64 pn)).setCell ⟨g, (r.length + 1) * 3 + 2, none⟩ (.string pt)).alloc (.cells #[.int .i64 3, .int .i64 qn, .string qt] 60)).alloc (.cells #[.int .i64 3, .int .i64 qn, .string qt] 60))) := hF2'.trans (Fr.here hB3)
    have HO3 : Hid ((((((((w.alloc (.cells #[.int .i64 2, .int .i64 pn, .string pt] 60)).drewN nq).setCell ⟨g, (r.length + 1) * 3, none⟩ (.int .i64 2)).setCell ⟨g, (r.length + 1) * 3 + 1, none⟩ (.int .i64 pn)).setCell ⟨g, (r.length + 1) * 3 + 2, none⟩ (.string pt)).alloc (.cells #[.int .i64 3, .int .i64 qn, .string qt] 60)).alloc (.cells #[.int .i64 3, .int .i64 qn, .string qt] 60)).ownsRow base 60 3 (.slice (some ⟨g, 0, none⟩) ((r.length + 1) + 1) cap) ((r.length + 1) + 1) (cellsOf ((r ++ [q2]) ++ [⟨2, pn, pt⟩]))) := own_here hO2 hB3
    have HN : Hid ((((((((w.alloc (.cells #[.int .i64 2, .int .i64 pn, .string pt] 60)).drewN nq).setCell ⟨g, (r.length + 1) * 3, none⟩ (.int .i64 2)).setCell ⟨g, (r.length + 1) * 3 + 1, none⟩ (.int .i64 pn)).setCell ⟨g, (r.length + 1) * 3 + 2, none⟩ (.string pt)).alloc (.cells #[.int .i64 3, .int .i64 qn, .string qt] 60)).alloc (.cells #[.int .i64 3, .int .i64 qn, .string qt] 60)).heap[w.heap.size + 2]? = some (.cells #[.int .i64 3, .int .i64 qn, .string qt] 60)) := by have h := heap_alloc_two (((((w.alloc (.cells #[.int .i64 2, .int .i64 pn, .string pt] 60)).drewN nq).setCell ⟨g, (r.length + 1) * 3, none⟩ (.int .i64 2)).setCell ⟨g, (r.length + 1) * 3 + 1, none⟩ (.int .i64 pn)).setCell ⟨g, (r.length + 1) * 3 + 2, none⟩ (.string pt)) (.cells #[.int .i64 3, .int .i64 qn, .string qt] 60) (.cells #[.int .i64 3, .int .i64 qn, .string qt] 60); rw [hsz] at h; exact h
    clear hw0 hO1 hO2 hF2 hsz hF2' hB3
    go_wp2_with (at_builtin; refine wpList_append_lies _ rfl _ _ _ rfl base 60 i0 _ 3 32 Tryd.underlying22 hi0 hz0 hz1 hz2 rfl (by omega) (.slice (some ⟨g, 0, none⟩) ((r.length + 1) + 1) cap) ((r.length + 1) + 1) (cellsOf ((r ++ [q2]) ++ [⟨2, pn, pt⟩])) rfl HO3.out ⟨w.heap.size + 2, 0, none⟩ 1 1 [.int .i64 3, .int .i64 qn, .string qt] rfl rfl (World.news_of_block (cs := #[.int .i64 3, .int .i64 qn, .string qt]) (t := 60) (fr := (0, 0)) HN.out) (by simp [Value.oneCell']) (by omega) (by unfold maxLen; omega) (by omega) (by simp; omega) (w.heap.size + 3) (by simp) ?_)
    intro gg cap2 w2 hown2 hgrow hat hlt'
    have HF4 : Hid (Fr base [60] w w2) := HF3.out.trans (fr_grown HO3.out (by simp) hgrow)
    have HO4 : Hid (Own w2 base (.slice (some ⟨gg, 0, none⟩) (((r.length + 1) + 1) + 1) cap2) (((r ++ [q2]) ++ [⟨2, pn, pt⟩]) ++ [⟨3, qn, qt⟩])) := own_snoc_of (n := (r.length + 1) + 1) ⟨3, qn, qt⟩ (by simp) (by have h := hown2; rw [show r ++ [q2, (⟨2, pn, pt⟩ : Pt)] = (r ++ [q2]) ++ [⟨2, pn, pt⟩] by simp] at h; exact h)
    clear hown2 hgrow hat
    go_wp2
    go_ret
    exact ⟨_, rfl, HO4.out, HF4.out⟩

theorem cells_sndT (r : List Pt) (q2 q : Pt) (t : ByteArray) : (cellsOf ((r ++ [q2]) ++ [q])).set (r.length * 3 + 2) (.string t) = cellsOf ((r ++ [⟨q2.k, q2.n, t⟩]) ++ [q]) := by
  rw [cellsOf_append, cellsOf_append (r ++ [_]), List.set_append, if_pos (by rw [cellsOf_length]; simp; omega), cells_lastT]
set_option maxRecDepth 100000 in
set_option maxHeartbeats 4000000 in
theorem push_swap2 {base : Nat} (w : World) (v : Value) (r : List Pt) (an : Int) (at' : ByteArray) (qn pn : Int) (qt pt : ByteArray) (hb : base ≤ w.heap.size) (O : Own w base v ((r ++ [⟨2, an, at'⟩]) ++ [⟨3, qn, qt⟩])) (hl : r.length ≤ 100000000) (hsp : some' ⟨2, pn, pt⟩) (ht : at'.size + pt.size ≤ 100000000) :
    Calls Tryd.prog 33 #[v, .agg #[.int .i64 2, .int .i64 pn, .string pt]] w fun e w' => ∃ v', e = .returned v' ∧ Own w' base v' ((r ++ [⟨2, an, at' ++ pt⟩]) ++ [⟨3, qn, qt⟩]) ∧ Fr base [60] w w' := by
  obtain ⟨g, cap, rfl, hgb, hgl, ⟨d0, d1, d2⟩, ⟨c0, c1, c2⟩, cf, hown⟩ := own_two O
  change w.cell? ⟨g, r.length * 3, none⟩ = some (.int .i64 2) at d0
  change w.cell? ⟨g, r.length * 3 + 1, none⟩ = some (.int .i64 an) at d1
  change w.cell? ⟨g, r.length * 3 + 2, none⟩ = some (.string at') at d2
  change w.cell? ⟨g, (r.length + 1) * 3, none⟩ = some (.int .i64 3) at c0
  change w.cell? ⟨g, (r.length + 1) * 3 + 1, none⟩ = some (.int .i64 qn) at c1
  change w.cell? ⟨g, (r.length + 1) * 3 + 2, none⟩ = some (.string qt) at c2
  have hi0' : (0 : Int) ≤ (r.length : Int) := Int.natCast_nonneg _
  have hn0 : ((r.length : Int) + 1 + 1 == 0) = false := by simp; omega
  have hn00 : (0 : Int) < (r.length : Int) + 1 + 1 := by omega
  have hm2 : (r.length : Int) + 1 + 1 - 2 = (r.length : Int) := by omega
  have hn1 : (1 : Int) < (r.length : Int) + 1 + 1 := by omega
  have hi1' : (r.length : Int) < (r.length : Int) + 1 + 1 := by omega
  have hi2' : (r.length : Int) + 1 < (r.length : Int) + 1 + 1 := by omega
  have hgne : g ≠ w.heap.size := by omega
  have hgne1 : g ≠ w.heap.size + 1 := by omega
  have ha := addS' at' pt ht
  have hz : ((pn == 0) = false) ∨ ((pn == 0) = true ∧ pt.toList.isEmpty = false) := some_cases hsp
  have HO : Hid (w.ownsRow base 60 3 (.slice (some ⟨g, 0, none⟩) ((r.length + 1) + 1) cap) ((r.length + 1) + 1) (cellsOf ((r ++ [⟨2, an, at'⟩]) ++ [⟨3, qn, qt⟩]))) := hown
  clear O hown hsp
  rcases hz with hz | ⟨hz, hz'⟩
  all_goals
    go_enter Tryd.func33, Tryd.ntmps33
    go_wp2
    go_quiet (fail)
    go_wp2
    go_region
    go_wp2
    have hw0 : Below w.heap.size w ((w.alloc (.cells #[.int .i64 2, .int .i64 pn, .string pt] 60)).drewN nq) := below_drewN ((Below.refl _ _).alloc (Nat.le_refl _) _) _
    have hO1 := own_here HO.out hw0
    obtain ⟨h1, g1⟩ := hO1.stored (r.length * 3 + 2) (.string (at' ++ pt))
    rw [cells_sndT] at h1
    have hF : Fr base [60] w (((w.alloc (.cells #[.int .i64 2, .int .i64 pn, .string pt] 60)).drewN nq).setCell ⟨g, r.length * 3 + 2, none⟩ (.string (at' ++ pt))) := (Fr.here hw0).trans (fr_grown hO1 (by simp) g1)
    have hB3 : Below (((w.alloc (.cells #[.int .i64 2, .int .i64 pn, .string pt] 60)).drewN nq).setCell ⟨g, r.length * 3 + 2, none⟩ (.string (at' ++ pt))).heap.size (((w.alloc (.cells #[.int .i64 2, .int .i64 pn, .string pt] 60)).drewN nq).setCell ⟨g, r.length * 3 + 2, none⟩ (.string (at' ++ pt))) (((((w.alloc (.cells #[.int .i64 2, .int .i64 pn, .string pt] 60)).drewN nq).setCell ⟨g, r.length * 3 + 2, none⟩ (.string (at' ++ pt))).alloc (.cells #[.int .i64 3, .int .i64 qn, .string qt] 60)).drew) := ((Below.refl _ _).alloc (Nat.le_refl _) _).drew
    go_ret
    exact ⟨_, rfl, Own.of (own_here h1 hB3) (by simp), hF.trans (Fr.here hB3)⟩
end Go.Proofs.YtdbepogafbagpaaDoor
