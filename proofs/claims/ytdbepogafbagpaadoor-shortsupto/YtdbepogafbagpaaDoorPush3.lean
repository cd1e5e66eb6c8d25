import Derived.Test.YtdbepogafbagpaaDoorPush2
namespace Go.Proofs.YtdbepogafbagpaaDoor
open Go.RowKit
set_option linter.unusedVariables false

theorem own_cells60 {w : World} {base : Nat} {v : Value} {l : List Pt} (h : Own w base v l) (hl : 0 < l.length) : ∃ g cap, v = .slice (some ⟨g, 0, none⟩) l.length cap ∧ base ≤ g ∧ g < w.heap.size ∧
    (∀ i, i < l.length → w.cell? ⟨g, i * 3, none⟩ = some (.int .i64 (nth l i).k) ∧ w.cell? ⟨g, i * 3 + 1, none⟩ = some (.int .i64 (nth l i).n) ∧ w.cell? ⟨g, i * 3 + 2, none⟩ = some (.string (nth l i).t)) ∧ (∀ j, w.frozen? ⟨g, j, none⟩ = false) ∧ w.ownsRow base 60 3 (.slice (some ⟨g, 0, none⟩) l.length cap) l.length (cellsOf l) := by
  have h' : w.ownsRow base 60 3 v l.length (cellsOf l) := h
  rcases h'.2 with ⟨_, h0⟩ | ⟨g, cap, cur, rfl, hb, hg, _⟩
  · omega
  · refine ⟨g, cap, rfl, hb, (Array.getElem?_eq_some_iff.1 hg).1, ?_, h'.frozenAt, h'⟩
    intro i hi
    have hc := cellsOf_get l i hi
    exact ⟨(h'.cellAt _ (by omega)).trans hc.1, (h'.cellAt _ (by omega)).trans hc.2.1, (h'.cellAt _ (by omega)).trans hc.2.2⟩

theorem cells_lastK (r : List Pt) (q : Pt) (k : Int) : (cellsOf (r ++ [q])).set (r.length * 3) (.int .i64 k) = cellsOf (r ++ [⟨k, q.n, q.t⟩]) := by
  rw [cellsOf_append, cellsOf_append, List.set_append, if_neg (by rw [cellsOf_length]; omega), cellsOf_length]
  congr 1
  rw [show r.length * 3 - r.length * 3 = 0 by omega]
  rfl
/-- a whole part is stored over the last one of a row -/
theorem own_put {w : World} {base g cap : Nat} {r : List Pt} {q : Pt} (h : w.ownsRow base 60 3 (.slice (some ⟨g, 0, none⟩) (r.length + 1) cap) (r.length + 1) (cellsOf (r ++ [q]))) (k n : Int) (t : ByteArray) :
    (((w.setCell ⟨g, r.length * 3, none⟩ (.int .i64 k)).setCell ⟨g, r.length * 3 + 1, none⟩ (.int .i64 n)).setCell ⟨g, r.length * 3 + 2, none⟩ (.string t)).ownsRow base 60 3 (.slice (some ⟨g, 0, none⟩) (r.length + 1) cap) (r.length + 1) (cellsOf (r ++ [⟨k, n, t⟩])) ∧ Fr base [60] w (((w.setCell ⟨g, r.length * 3, none⟩ (.int .i64 k)).setCell ⟨g, r.length * 3 + 1, none⟩ (.int .i64 n)).setCell ⟨g, r.length * 3 + 2, none⟩ (.string t)) := by
  obtain ⟨h0, g0⟩ := h.stored (r.length * 3) (.int .i64 k)
  rw [cells_lastK] at h0
  obtain ⟨h1, g1⟩ := h0.stored (r.length * 3 + 1) (.int .i64 n)
  rw [cells_last] at h1
  obtain ⟨h2, g2⟩ := h1.stored (r.length * 3 + 2) (.string t)
  rw [cells_lastT] at h2
  exact ⟨h2, ((fr_grown h (by simp) g0).trans (fr_grown h0 (by simp) g1)).trans (fr_grown h1 (by simp) g2)⟩
theorem heap_alloc_two (w : World) (o o' : Obj) : ((w.alloc o').alloc o).heap[w.heap.size + 1]? = some o := by
  have h := heap_alloc_new (w.alloc o') o
  rw [show (w.alloc o').heap.size = w.heap.size + 1 by simp] at h
  exact h

set_option maxRecDepth 100000 in
set_option maxHeartbeats 4000000 in
theorem push_swap1 {base : Nat} (w : World) (v : Value) (qn pn : Int) (qt pt : ByteArray) (hb : base ≤ w.heap.size) (O : Own w base v [⟨3, qn, qt⟩]) (hsp : some' ⟨2, pn, pt⟩) :
    Calls Tryd.prog 33 #[v, .agg #[.int .i64 2, .int .i64 pn, .string pt]] w fun e w' => ∃ v', e = .returned v' ∧ Own w' base v' [⟨2, pn, pt⟩, ⟨3, qn, qt⟩] ∧ Fr base [60] w w' := by
  obtain ⟨i0, hi0, hz0, hz1, hz2⟩ := info_parts Tryd.info60
  obtain ⟨g, cap, rfl, hgb, hgl, hcells, cf, hown⟩ := own_cells60 O (by simp)
  obtain ⟨c0, c1, c2⟩ := hcells 0 (by simp)
  change w.cell? ⟨g, 0, none⟩ = some (.int .i64 3) at c0
  change w.cell? ⟨g, 1, none⟩ = some (.int .i64 qn) at c1
  change w.cell? ⟨g, 2, none⟩ = some (.string qt) at c2
  have hgne : g ≠ w.heap.size := by omega
  have hz : ((pn == 0) = false) ∨ ((pn == 0) = true ∧ pt.toList.isEmpty = false) := some_cases hsp
  have HO : Hid (w.ownsRow base 60 3 (.slice (some ⟨g, 0, none⟩) 1 cap) 1 (cellsOf [⟨3, qn, qt⟩])) := hown
  clear O hown hsp hcells
  show Calls Tryd.prog 33 #[.slice (some ⟨g, 0, none⟩) 1 cap, .agg #[.int .i64 2, .int .i64 pn, .string pt]] w _
  rcases hz with hz | ⟨hz, hz'⟩
  all_goals
    go_enter Tryd.func33, Tryd.ntmps33
    go_wp2
    go_quiet (fail)
    have hw0 : Below w.heap.size w ((w.alloc (.cells #[.int .i64 2, .int .i64 pn, .string pt] 60)).drewN nq) := below_drewN ((Below.refl _ _).alloc (Nat.le_refl _) _) _
    have hO1 : ((w.alloc (.cells #[.int .i64 2, .int .i64 pn, .string pt] 60)).drewN nq).ownsRow base 60 3 (.slice (some ⟨g, 0, none⟩) (([] : List Pt).length + 1) cap) (([] : List Pt).length + 1) (cellsOf ([] ++ [⟨3, qn, qt⟩])) := own_here HO.out hw0
    obtain ⟨hO2, hF2⟩ := own_put hO1 2 pn pt
    have hsz : (((((w.alloc (.cells #[.int .i64 2, .int .i64 pn, .string pt] 60)).drewN nq).setCell ⟨g, 0, none⟩ (.int .i64 2)).setCell ⟨g, 1, none⟩ (.int .i64 pn)).setCell ⟨g, 2, none⟩ (.string pt)).heap.size = w.heap.size + 1 := by simp
    have hF2' : Fr base [60] w (((((w.alloc (.cells #[.int .i64 2, .int .i64 pn, .string pt] 60)).drewN nq).setCell ⟨g, 0, none⟩ (.int .i64 2)).setCell ⟨g, 1, none⟩ (.int .i64 pn)).setCell ⟨g, 2, none⟩ (.string pt)) := (Fr.here hw0).trans hF2
    have hB3 : Below ((((((w.alloc (.cells #[.int .i64 2, .int .i64 pn, .string pt] 60)).drewN nq).setCell ⟨g, 0, none⟩ (.int .i64 2)).setCell ⟨g, 1, none⟩ (.int .i64 pn)).setCell ⟨g, 2, none⟩ (.string pt)).heap.size) (((((w.alloc (.cells #[.int .i64 2, .int .i64 pn, .string pt] 60)).drewN nq).setCell ⟨g, 0, none⟩ (.int .i64 2)).setCell ⟨g, 1, none⟩ (.int .i64 pn)).setCell ⟨g, 2, none⟩ (.string pt)) (((((((w.alloc (.cells #[.int .i64 2, .int .i64 pn, .string pt] 60)).drewN nq).setCell ⟨g, 0, none⟩ (.int .i64 2)).setCell ⟨g, 1, none⟩ (.int .i64 pn)).setCell ⟨g, 2, none⟩ (.string pt)).alloc (.cells #[.int .i64 3, .int .i64 qn, .string qt] 60)).alloc (.cells #[.int .i64 3, .int .i64 qn, .string qt] 60)) := ((Below.refl _ _).alloc (Nat.le_refl _) _).alloc (by simp) _
    have HF3 : Hid (Fr base [60] w (((((((w.alloc (.cells #[.int .i64 2, .int .i64 pn, .string pt] 60)).drewN nq).setCell ⟨g, 0, none⟩ (.int .i64 2)).setCell ⟨g, 1, none⟩ (.int .i64 pn)).setCell ⟨g, 2, none⟩ (.string pt)).alloc (.cells #[.int .i64 3, .int .i64 qn, .string qt] 60)).alloc (.cells #[.int .i64 3, .int .i64 qn, .string qt] 60))) := hF2'.trans (Fr.here hB3)
    have HO3 : Hid ((((((((w.alloc (.cells #[.int .i64 2, .int .i64 pn, .string pt] 60)).drewN nq).setCell ⟨g, 0, none⟩ (.int .i64 2)).setCell ⟨g, 1, none⟩ (.int .i64 pn)).setCell ⟨g, 2, none⟩ (.string pt)).alloc (.cells #[.int .i64 3, .int .i64 qn, .string qt] 60)).alloc (.cells #[.int .i64 3, .int .i64 qn, .string qt] 60)).ownsRow base 60 3 (.slice (some ⟨g, 0, none⟩) 1 cap) 1 (cellsOf [⟨2, pn, pt⟩])) := own_here hO2 hB3
    have HN : Hid ((((((((w.alloc (.cells #[.int .i64 2, .int .i64 pn, .string pt] 60)).drewN nq).setCell ⟨g, 0, none⟩ (.int .i64 2)).setCell ⟨g, 1, none⟩ (.int .i64 pn)).setCell ⟨g, 2, none⟩ (.string pt)).alloc (.cells #[.int .i64 3, .int .i64 qn, .string qt] 60)).alloc (.cells #[.int .i64 3, .int .i64 qn, .string qt] 60)).heap[w.heap.size + 2]? = some (.cells #[.int .i64 3, .int .i64 qn, .string qt] 60)) := by have h := heap_alloc_two (((((w.alloc (.cells #[.int .i64 2, .int .i64 pn, .string pt] 60)).drewN nq).setCell ⟨g, 0, none⟩ (.int .i64 2)).setCell ⟨g, 1, none⟩ (.int .i64 pn)).setCell ⟨g, 2, none⟩ (.string pt)) (.cells #[.int .i64 3, .int .i64 qn, .string qt] 60) (.cells #[.int .i64 3, .int .i64 qn, .string qt] 60); rw [hsz] at h; exact h
    clear hw0 hO1 hO2 hF2 hsz hF2' hB3
    go_wp2_with (at_builtin; refine wpList_append_lies _ rfl _ _ _ rfl base 60 i0 _ 3 32 Tryd.underlying22 hi0 hz0 hz1 hz2 rfl (by omega) _ 1 (cellsOf [⟨2, pn, pt⟩]) rfl HO3.out ⟨w.heap.size + 2, 0, none⟩ 1 1 [.int .i64 3, .int .i64 qn, .string qt] rfl rfl (World.news_of_block (cs := #[.int .i64 3, .int .i64 qn, .string qt]) (t := 60) (fr := (0, 0)) HN.out) (by simp [Value.oneCell']) (by omega) (by unfold maxLen; omega) (by omega) (by simp; omega) (w.heap.size + 3) (by simp) ?_)
    intro gg cap2 w2 hown2 hgrow hat hlt'
    have HF4 : Hid (Fr base [60] w w2) := HF3.out.trans (fr_grown HO3.out (by simp) hgrow)
    have HO4 : Hid (Own w2 base (.slice (some ⟨gg, 0, none⟩) (1 + 1) cap2) ([⟨2, pn, pt⟩] ++ [⟨3, qn, qt⟩])) := own_snoc_of (n := 1) ⟨3, qn, qt⟩ (by simp) hown2
    clear hown2 hgrow hat
    go_wp2
    go_ret
    exact ⟨_, rfl, HO4.out, HF4.out⟩
end Go.Proofs.YtdbepogafbagpaaDoor
