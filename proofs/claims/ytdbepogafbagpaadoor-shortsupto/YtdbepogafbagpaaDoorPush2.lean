import Derived.Test.YtdbepogafbagpaaDoorPush
namespace Go.Proofs.YtdbepogafbagpaaDoor
open Go.RowKit
set_option linter.unusedVariables false

theorem some_cases {p : Pt} (hsp : some' p) : ((p.n == 0) = false) ∨ ((p.n == 0) = true ∧ p.t.toList.isEmpty = false) := by
  by_cases e : p.n = 0
  · right
    refine ⟨by simp [e], ?_⟩
    by_cases e2 : p.t.toList.isEmpty = true
    · exfalso
      apply hsp
      refine ⟨e, ?_⟩
      rw [List.isEmpty_iff, ByteArray.toList_eq] at e2
      show p.t.data.size = 0
      rw [← Array.length_toList, e2]; rfl
    · simpa using e2
  · left; simp [e]
theorem own_slice60 {w : World} {base n : Nat} {v : Value} {xs : List Value} (h : w.ownsRow base 60 3 v n xs) : ∃ ao cap, v = .slice ao n cap := by
  rcases h.2 with ⟨hv, h0⟩ | ⟨g, cap, cur, hv, _⟩
  · exact ⟨none, 0, by rw [hv, h0]⟩
  · exact ⟨_, _, hv⟩
theorem own_snoc_of {w : World} {base n : Nat} {v : Value} {out : List Pt} (q : Pt) (hn : n = out.length) (h : w.ownsRow base 60 3 v (n + 1) (cellsOf out ++ [.int .i64 q.k, .int .i64 q.n, .string q.t])) : Own w base v (out ++ [q]) := by
  subst hn
  unfold Own
  rw [List.length_append, cellsOf_append]; exact h

set_option maxRecDepth 100000 in
set_option maxHeartbeats 4000000 in
theorem push_nil {base : Nat} (w : World) (v : Value) (p : Pt) (hb : base ≤ w.heap.size) (O : Own w base v []) (hsp : some' p) :
    Calls Tryd.prog 33 #[v, .agg #[.int .i64 p.k, .int .i64 p.n, .string p.t]] w fun e w' => ∃ v', e = .returned v' ∧ Own w' base v' [p] ∧ Fr base [60] w w' := by
  obtain ⟨i0, hi0, hz0, hz1, hz2⟩ := info_parts Tryd.info60
  obtain ⟨ao, cap, rfl⟩ := own_slice60 O
  have hz := some_cases hsp
  have HO : Hid (w.ownsRow base 60 3 (.slice ao 0 cap) 0 (cellsOf [])) := O
  have hw0 : Hid (Below w.heap.size w (w.alloc (.cells #[.int .i64 p.k, .int .i64 p.n, .string p.t] 60))) := (Below.refl _ _).alloc (Nat.le_refl _) _
  clear O hsp
  rcases hz with hz | ⟨hz, hz'⟩
  all_goals
    go_enter Tryd.func33, Tryd.ntmps33
    go_wp2
    go_quiet (fail)
    have hb0 : Below w.heap.size w ((w.alloc (.cells #[.int .i64 p.k, .int .i64 p.n, .string p.t] 60)).drewN nq) := below_drewN hw0.out _
    have HB2 : Hid (Below w.heap.size w (((w.alloc (.cells #[.int .i64 p.k, .int .i64 p.n, .string p.t] 60)).drewN nq).alloc (.cells #[.int .i64 p.k, .int .i64 p.n, .string p.t] 60))) := hb0.alloc (by simp) _
    have HO2 : Hid ((((w.alloc (.cells #[.int .i64 p.k, .int .i64 p.n, .string p.t] 60)).drewN nq).alloc (.cells #[.int .i64 p.k, .int .i64 p.n, .string p.t] 60)).ownsRow base 60 3 (.slice ao 0 cap) 0 (cellsOf [])) := own_here HO.out HB2.out
    have HN : Hid ((((w.alloc (.cells #[.int .i64 p.k, .int .i64 p.n, .string p.t] 60)).drewN nq).alloc (.cells #[.int .i64 p.k, .int .i64 p.n, .string p.t] 60)).heap[w.heap.size + 1]? = some (.cells #[.int .i64 p.k, .int .i64 p.n, .string p.t] 60)) := by have h := heap_alloc_new ((w.alloc (.cells #[.int .i64 p.k, .int .i64 p.n, .string p.t] 60)).drewN nq) (.cells #[.int .i64 p.k, .int .i64 p.n, .string p.t] 60); rw [show ((w.alloc (.cells #[.int .i64 p.k, .int .i64 p.n, .string p.t] 60)).drewN nq).heap.size = w.heap.size + 1 by simp] at h; exact h
    clear hb0
    go_wp2_with (at_builtin; refine wpList_append_lies _ rfl _ _ _ rfl base 60 i0 _ 3 32 Tryd.underlying22 hi0 hz0 hz1 hz2 rfl (by omega) _ 0 (cellsOf []) rfl HO2.out ⟨w.heap.size + 1, 0, none⟩ 1 1 [.int .i64 p.k, .int .i64 p.n, .string p.t] rfl rfl (World.news_of_block (cs := #[.int .i64 p.k, .int .i64 p.n, .string p.t]) (t := 60) (fr := (0, 0)) HN.out) (by simp [Value.oneCell']) (by omega) (by unfold maxLen; omega) (by omega) (by simp; omega) (w.heap.size + 2) (by simp) ?_)
    intro gg cap2 w2 hown2 hgrow hat hlt'
    have HF3 : Hid (Fr base [60] w w2) := (Fr.here HB2.out).trans (fr_grown HO2.out (by simp) hgrow)
    have HO3 : Hid (Own w2 base (.slice (some ⟨gg, 0, none⟩) (0 + 1) cap2) ([] ++ [p])) := own_snoc_of p rfl (by simpa using hown2)
    clear hown2 hgrow hat
    go_wp2
    go_ret
    exact ⟨_, rfl, HO3.out, HF3.out⟩

set_option maxRecDepth 100000 in
set_option maxHeartbeats 4000000 in
theorem push_snocA {base : Nat} (w : World) (v : Value) (r : List Pt) (q p : Pt) (hb : base ≤ w.heap.size) (O : Own w base v (r ++ [q])) (hsp : some' p) (h : q.k ≠ p.k) (h2 : (p.k == 2) = false) (hl : r.length ≤ 100000000) :
    Calls Tryd.prog 33 #[v, .agg #[.int .i64 p.k, .int .i64 p.n, .string p.t]] w fun e w' => ∃ v', e = .returned v' ∧ Own w' base v' ((r ++ [q]) ++ [p]) ∧ Fr base [60] w w' := by
  obtain ⟨i0, hi0, hz0, hz1, hz2⟩ := info_parts Tryd.info60
  obtain ⟨g, cap, rfl, hgb, hgl, c0, c1, c2, cf, hown⟩ := own_snoc60 O
  have hgk : (q.k == p.k) = false := by simp [h]
  have hgne : g ≠ w.heap.size := by omega
  have hz := some_cases hsp
  have HO : Hid (w.ownsRow base 60 3 (.slice (some ⟨g, 0, none⟩) (r.length + 1) cap) (r.length + 1) (cellsOf (r ++ [q]))) := hown
  have hw0 : Hid (Below w.heap.size w (w.alloc (.cells #[.int .i64 p.k, .int .i64 p.n, .string p.t] 60))) := (Below.refl _ _).alloc (Nat.le_refl _) _
  clear O hown hsp h
  have hi0' : (0 : Int) ≤ (r.length : Int) := Int.natCast_nonneg _
  have hi1' : (r.length : Int) < (r.length : Int) + 1 := by omega
  have hn0 : ((r.length : Int) + 1 == 0) = false := by simp; omega
  rcases hz with hz | ⟨hz, hz'⟩
  all_goals
    go_enter Tryd.func33, Tryd.ntmps33
    go_wp2
    go_quiet (fail)
    have hb0 : Below w.heap.size w ((w.alloc (.cells #[.int .i64 p.k, .int .i64 p.n, .string p.t] 60)).drewN nq) := below_drewN hw0.out _
    have HB2 : Hid (Below w.heap.size w (((w.alloc (.cells #[.int .i64 p.k, .int .i64 p.n, .string p.t] 60)).drewN nq).alloc (.cells #[.int .i64 p.k, .int .i64 p.n, .string p.t] 60))) := hb0.alloc (by simp) _
    have HO2 : Hid ((((w.alloc (.cells #[.int .i64 p.k, .int .i64 p.n, .string p.t] 60)).drewN nq).alloc (.cells #[.int .i64 p.k, .int .i64 p.n, .string p.t] 60)).ownsRow base 60 3 (.slice (some ⟨g, 0, none⟩) (r.length + 1) cap) (r.length + 1) (cellsOf (r ++ [q]))) := own_here HO.out HB2.out
    have HN : Hid ((((w.alloc (.cells #[.int .i64 p.k, .int .i64 p.n, .string p.t] 60)).drewN nq).alloc (.cells #[.int .i64 p.k, .int .i64 p.n, .string p.t] 60)).heap[w.heap.size + 1]? = some (.cells #[.int .i64 p.k, .int .i64 p.n, .string p.t] 60)) := by have h := heap_alloc_new ((w.alloc (.cells #[.int .i64 p.k, .int .i64 p.n, .string p.t] 60)).drewN nq) (.cells #[.int .i64 p.k, .int .i64 p.n, .string p.t] 60); rw [show ((w.alloc (.cells #[.int .i64 p.k, .int .i64 p.n, .string p.t] 60)).drewN nq).heap.size = w.heap.size + 1 by simp] at h; exact h
    clear hb0
    go_wp2_with (at_builtin; refine wpList_append_lies _ rfl _ _ _ rfl base 60 i0 _ 3 32 Tryd.underlying22 hi0 hz0 hz1 hz2 rfl (by omega) _ (r.length + 1) (cellsOf (r ++ [q])) rfl HO2.out ⟨w.heap.size + 1, 0, none⟩ 1 1 [.int .i64 p.k, .int .i64 p.n, .string p.t] rfl rfl (World.news_of_block (cs := #[.int .i64 p.k, .int .i64 p.n, .string p.t]) (t := 60) (fr := (0, 0)) HN.out) (by simp [Value.oneCell']) (by omega) (by unfold maxLen; omega) (by omega) (by simp; omega) (w.heap.size + 2) (by simp) ?_)
    intro gg cap2 w2 hown2 hgrow hat hlt'
    have HF3 : Hid (Fr base [60] w w2) := (Fr.here HB2.out).trans (fr_grown HO2.out (by simp) hgrow)
    have HO3 : Hid (Own w2 base (.slice (some ⟨gg, 0, none⟩) ((r.length + 1) + 1) cap2) ((r ++ [q]) ++ [p])) := own_snoc_of (n := r.length + 1) p (by simp) hown2
    clear hown2 hgrow hat
    go_wp2
    go_ret
    exact ⟨_, rfl, HO3.out, HF3.out⟩

set_option maxRecDepth 100000 in
set_option maxHeartbeats 4000000 in
theorem push_snocB {base : Nat} (w : World) (v : Value) (r : List Pt) (q : Pt) (pn : Int) (pt : ByteArray) (hb : base ≤ w.heap.size) (O : Own w base v (r ++ [q])) (hsp : some' ⟨2, pn, pt⟩) (h : q.k ≠ 2) (h3 : (q.k == 3) = false) (hl : r.length ≤ 100000000) :
    Calls Tryd.prog 33 #[v, .agg #[.int .i64 2, .int .i64 pn, .string pt]] w fun e w' => ∃ v', e = .returned v' ∧ Own w' base v' ((r ++ [q]) ++ [(⟨2, pn, pt⟩ : Pt)]) ∧ Fr base [60] w w' := by
  obtain ⟨i0, hi0, hz0, hz1, hz2⟩ := info_parts Tryd.info60
  obtain ⟨g, cap, rfl, hgb, hgl, c0, c1, c2, cf, hown⟩ := own_snoc60 O
  have hgk : (q.k == 2) = false := by simp [h]
  have hgne : g ≠ w.heap.size := by omega
  have hz : ((pn == 0) = false) ∨ ((pn == 0) = true ∧ pt.toList.isEmpty = false) := some_cases hsp
  have HO : Hid (w.ownsRow base 60 3 (.slice (some ⟨g, 0, none⟩) (r.length + 1) cap) (r.length + 1) (cellsOf (r ++ [q]))) := hown
  have hw0 : Hid (Below w.heap.size w (w.alloc (.cells #[.int .i64 2, .int .i64 pn, .string pt] 60))) := (Below.refl _ _).alloc (Nat.le_refl _) _
  clear O hown hsp h
  have hi0' : (0 : Int) ≤ (r.length : Int) := Int.natCast_nonneg _
  have hi1' : (r.length : Int) < (r.length : Int) + 1 := by omega
  have hn0 : ((r.length : Int) + 1 == 0) = false := by simp; omega
  rcases hz with hz | ⟨hz, hz'⟩
  all_goals
    go_enter Tryd.func33, Tryd.ntmps33
    go_wp2
    go_quiet (fail)
    have hb0 : Below w.heap.size w ((w.alloc (.cells #[.int .i64 2, .int .i64 pn, .string pt] 60)).drewN nq) := below_drewN hw0.out _
    have HB2 : Hid (Below w.heap.size w (((w.alloc (.cells #[.int .i64 2, .int .i64 pn, .string pt] 60)).drewN nq).alloc (.cells #[.int .i64 2, .int .i64 pn, .string pt] 60))) := hb0.alloc (by simp) _
    have HO2 : Hid ((((w.alloc (.cells #[.int .i64 2, .int .i64 pn, .string pt] 60)).drewN nq).alloc (.cells #[.int .i64 2, .int .i64 pn, .string pt] 60)).ownsRow base 60 3 (.slice (some ⟨g, 0, none⟩) (r.length + 1) cap) (r.length + 1) (cellsOf (r ++ [q]))) := own_here HO.out HB2.out
    have HN : Hid ((((w.alloc (.cells #[.int .i64 2, .int .i64 pn, .string pt] 60)).drewN nq).alloc (.cells #[.int .i64 2, .int .i64 pn, .string pt] 60)).heap[w.heap.size + 1]? = some (.cells #[.int .i64 2, .int .i64 pn, .string pt] 60)) := by have h := heap_alloc_new ((w.alloc (.cells #[.int .i64 2, .int .i64 pn, .string pt] 60)).drewN nq) (.cells #[.int .i64 2, .int .i64 pn, .string pt] 60); rw [show ((w.alloc (.cells #[.int .i64 2, .int .i64 pn, .string pt] 60)).drewN nq).heap.size = w.heap.size + 1 by simp] at h; exact h
    clear hb0
    go_wp2_with (at_builtin; refine wpList_append_lies _ rfl _ _ _ rfl base 60 i0 _ 3 32 Tryd.underlying22 hi0 hz0 hz1 hz2 rfl (by omega) _ (r.length + 1) (cellsOf (r ++ [q])) rfl HO2.out ⟨w.heap.size + 1, 0, none⟩ 1 1 [.int .i64 2, .int .i64 pn, .string pt] rfl rfl (World.news_of_block (cs := #[.int .i64 2, .int .i64 pn, .string pt]) (t := 60) (fr := (0, 0)) HN.out) (by simp [Value.oneCell']) (by omega) (by unfold maxLen; omega) (by omega) (by simp; omega) (w.heap.size + 2) (by simp) ?_)
    intro gg cap2 w2 hown2 hgrow hat hlt'
    have HF3 : Hid (Fr base [60] w w2) := (Fr.here HB2.out).trans (fr_grown HO2.out (by simp) hgrow)
    have HO3 : Hid (Own w2 base (.slice (some ⟨gg, 0, none⟩) ((r.length + 1) + 1) cap2) ((r ++ [q]) ++ [(⟨2, pn, pt⟩ : Pt)])) := own_snoc_of (n := r.length + 1) ⟨2, pn, pt⟩ (by simp) hown2
    clear hown2 hgrow hat
    go_wp2
    go_ret
    exact ⟨_, rfl, HO3.out, HF3.out⟩
end Go.Proofs.YtdbepogafbagpaaDoor
