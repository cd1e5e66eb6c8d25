import Derived.Test.YtdlolnahbgecjaaDoorShort
import Derived.Deep.QuietTactic
import Derived.BigQuiet
import Derived.BigRegion
namespace Go.Proofs.YtdlolnahbgecjaaDoor
open Go.RowKit
set_option linter.unusedVariables false

theorem Tryd.info60 : (Tryd.prog.info? 60).map (fun i => (i.zero, i.size, i.bytes)) = some (some (.agg #[.int .i64 0, .int .i64 0, .string ByteArray.empty]), 3, 32) := by kernel_rfl

/-- the slice value v, of the call's own memory, holds the parts l (of the reference) -/
def Own (w : World) (base : Nat) (v : Value) (l : List Pt) : Prop := w.ownsRow base 60 3 v l.length (cellsOf l)
theorem own_snoc60 {w : World} {base : Nat} {v : Value} {r : List Pt} {q : Pt} (h : Own w base v (r ++ [q])) : ∃ g cap, v = .slice (some ⟨g, 0, none⟩) (r.length + 1) cap ∧ base ≤ g ∧ g < w.heap.size ∧
    w.cell? ⟨g, r.length * 3, none⟩ = some (.int .i64 q.k) ∧ w.cell? ⟨g, r.length * 3 + 1, none⟩ = some (.int .i64 q.n) ∧ w.cell? ⟨g, r.length * 3 + 2, none⟩ = some (.string q.t) ∧ (∀ j, w.frozen? ⟨g, j, none⟩ = false) ∧ w.ownsRow base 60 3 (.slice (some ⟨g, 0, none⟩) (r.length + 1) cap) (r.length + 1) (cellsOf (r ++ [q])) := by
  have hl : (r ++ [q]).length = r.length + 1 := by simp
  have h' : w.ownsRow base 60 3 v (r ++ [q]).length (cellsOf (r ++ [q])) := h
  rcases h'.2 with ⟨_, h0⟩ | ⟨g, cap, cur, rfl, hb, hg, _⟩
  · omega
  · have ha := h'
    rw [hl] at ha ⊢
    have hc := cellsOf_get (r ++ [q]) r.length (by omega)
    rw [nth_last] at hc
    exact ⟨g, cap, rfl, hb, (Array.getElem?_eq_some_iff.1 hg).1, (ha.cellAt _ (by omega)).trans hc.1, (ha.cellAt _ (by omega)).trans hc.2.1, (ha.cellAt _ (by omega)).trans hc.2.2, ha.frozenAt, ha⟩
theorem cells_lastT (r : List Pt) (q : Pt) (t : ByteArray) : (cellsOf (r ++ [q])).set (r.length * 3 + 2) (.string t) = cellsOf (r ++ [⟨q.k, q.n, t⟩]) := by
  rw [cellsOf_append, cellsOf_append, List.set_append, if_neg (by rw [cellsOf_length]; omega), cellsOf_length]
  congr 1
  rw [show r.length * 3 + 2 - r.length * 3 = 2 by omega]
  rfl
theorem addS' (a b : ByteArray) (h : a.size + b.size ≤ 100000000) : ∀ w, (Op.stringOp .add a b).run Tryd.prog w = .ok (.string (a ++ b)) w := fun w => run_string_add_sum (w := w) a b (by omega)
theorem Own.of {w : World} {base n : Nat} {v : Value} {l : List Pt} (h : w.ownsRow base 60 3 v n (cellsOf l)) (hn : n = l.length) : Own w base v l := by subst hn; exact h

theorem own_here {w w' : World} {base e size n : Nat} {v : Value} {xs : List Value} (h : w.ownsRow base e size v n xs) (hb : Below w.heap.size w w') : w'.ownsRow base e size v n xs := ownsRow_wr (S := fun _ => False) h (Wr.here hb) (fun _ _ => id)
/-- the row v is grown to v': nothing else is written, and v' lies where v lay or in new memory -/
def Grow (v v' : Value) (w w' : World) : Prop := Wr (fun k => some k = v.ownBlock) w w' ∧ ∀ k, v'.ownBlock = some k → v.ownBlock = some k ∨ w.heap.size ≤ k
theorem Grow.wr {v v' : Value} {w w' : World} (h : Grow v v' w w') : Wr (fun k => some k = v.ownBlock) w w' := h.1
theorem wr_grown {v : Value} {w w' : World} (hg : w.grownBy w' v.ownBlock) : Wr (fun k => some k = v.ownBlock) w w' := Wr.grown hg (fun k hk => hk.symm)
theorem Grow.below {v v' : Value} {w w' : World} (h : Grow v v' w w') {base e size n : Nat} {xs : List Value} (ho : w.ownsRow base e size v n xs) {B : Nat} (hB : B ≤ base) (hs : B ≤ w.heap.size) : Below B w w' :=
  h.1.below (fun k hk e => by have := ownsRow_block ho k e.symm; omega) hs
theorem grow_at {V : Value} {gg n cap k H B : Nat} (hk : (Value.slice (some ⟨gg, 0, none⟩) n cap).ownBlock = some k) (hat : V.ownBlock = some gg ∨ gg = H) (hB : B ≤ H) : V.ownBlock = some k ∨ B ≤ k := by
  have : gg = k := by simpa [Value.ownBlock] using hk
  subst this
  rcases hat with h | h
  · exact Or.inl h
  · right; omega
/-- two stores into the last part of a row -/
theorem own_last {w : World} {base g cap : Nat} {r : List Pt} {q : Pt} (h : w.ownsRow base 60 3 (.slice (some ⟨g, 0, none⟩) (r.length + 1) cap) (r.length + 1) (cellsOf (r ++ [q]))) (n : Int) (t : ByteArray) :
    Own ((w.setCell ⟨g, r.length * 3 + 1, none⟩ (.int .i64 n)).setCell ⟨g, r.length * 3 + 2, none⟩ (.string t)) base (.slice (some ⟨g, 0, none⟩) (r.length + 1) cap) (r ++ [⟨q.k, n, t⟩]) ∧ Wr (fun k => some k = (Value.slice (some ⟨g, 0, none⟩) (r.length + 1) cap).ownBlock) w ((w.setCell ⟨g, r.length * 3 + 1, none⟩ (.int .i64 n)).setCell ⟨g, r.length * 3 + 2, none⟩ (.string t)) := by
  obtain ⟨h1, g1⟩ := h.stored (r.length * 3 + 1) (.int .i64 n)
  rw [cells_last] at h1
  obtain ⟨h2, g2⟩ := h1.stored (r.length * 3 + 2) (.string t)
  rw [cells_lastT] at h2
  exact ⟨Own.of h2 (by simp), (wr_grown g1).trans (wr_grown g2)⟩

set_option maxRecDepth 100000 in
set_option maxHeartbeats 4000000 in
theorem push_same {base : Nat} (w : World) (v : Value) (r : List Pt) (q p : Pt) (hb : base ≤ w.heap.size) (O : Own w base v (r ++ [q])) (hsp : some' p) (h : q.k = p.k) (hl : r.length ≤ 100000000) (h0 : 0 ≤ q.n) (h1 : 0 ≤ p.n) (hs : q.n + p.n ≤ 9223372036854775807) (ht : q.t.size + p.t.size ≤ 100000000) :
    Calls Tryd.prog 33 #[v, .agg #[.int .i64 p.k, .int .i64 p.n, .string p.t]] w fun e w' => ∃ v', e = .returned v' ∧ Own w' base v' (r ++ [⟨q.k, q.n + p.n, q.t ++ p.t⟩]) ∧ Grow v v' w w' := by
  obtain ⟨g, cap, rfl, hgb, hgl, c0, c1, c2, cf, hown⟩ := own_snoc60 O
  have hgk : (q.k == p.k) = true := by simp [h]
  have hgne : g ≠ w.heap.size := by omega
  have hz : ((p.n == 0) = false) ∨ ((p.n == 0) = true ∧ p.t.toList.isEmpty = false) := by
    by_cases e : p.n = 0
    · right
      refine ⟨by simp [e], ?_⟩
      by_cases e2 : p.t.toList.isEmpty = true
      · exfalso
        apply hsp
        refine ⟨e, ?_⟩
        rw [List.isEmpty_iff, ByteArray.toList_eq] at e2
        show p.t.data.size = 0
        rw [← Array.length_toList, e2]; rfl
      · simpa using e2
    · left; simp [e]
  have ha := addS' q.t p.t ht
  have HO : Hid (w.ownsRow base 60 3 (.slice (some ⟨g, 0, none⟩) (r.length + 1) cap) (r.length + 1) (cellsOf (r ++ [q]))) := hown
  have HP : Hid (q.k = p.k) := h
  clear O hown hsp h
  have hi0 : (0 : Int) ≤ (r.length : Int) := Int.natCast_nonneg _
  have hi1 : (r.length : Int) < (r.length : Int) + 1 := by omega
  rcases hz with hz | ⟨hz, hz2⟩
  all_goals
    go_enter Tryd.func33, Tryd.ntmps33
    go_wp2
    go_quiet (fail)
    go_wp2
    go_region
    go_wp2
    go_region
    go_wp2
    have hbw : Below w.heap.size w ((w.alloc (.cells #[.int .i64 p.k, .int .i64 p.n, .string p.t] 60)).drewN (nq + 1)) := below_drewN ((Below.refl _ _).alloc (Nat.le_refl _) _) _
    obtain ⟨hO, hF⟩ := own_last (own_here HO.out hbw) (q.n + p.n) (q.t ++ p.t)
    go_ret
    exact ⟨_, rfl, hO.drew, ((Wr.here hbw).trans hF).trans (Wr.here (Below.refl _ _).drew), fun k hk => Or.inl hk⟩
end Go.Proofs.YtdlolnahbgecjaaDoor
namespace Go.Proofs.YtdlolnahbgecjaaDoor
open Go.RowKit
set_option linter.unusedVariables false

theorem some_cases {p : Pt} (hsp : some' p) : ((p.n == 0) = false) ∨ ((p.n == 0) = true ∧ p.t.toList.isEmpty = false) := by
  by_cases e : p.n = 0
  · right
    refine ⟨by simp [e], ?_⟩
    by_cases e2 : p.t.toList.isEmpty = true
    · exfalso
      apply hsp
      refine ⟨e, ?_⟩
      rw [List.isEmpty_iff, ByteArray.toList_eq] at e2
      show p.t.data.size = 0
      rw [← Array.length_toList, e2]; rfl
    · simpa using e2
  · left; simp [e]
theorem own_slice60 {w : World} {base n : Nat} {v : Value} {xs : List Value} (h : w.ownsRow base 60 3 v n xs) : ∃ ao cap, v = .slice ao n cap := by
  rcases h.2 with ⟨hv, h0⟩ | ⟨g, cap, cur, hv, _⟩
  · exact ⟨none, 0, by rw [hv, h0]⟩
  · exact ⟨_, _, hv⟩
theorem own_snoc_of {w : World} {base n : Nat} {v : Value} {out : List Pt} (q : Pt) (hn : n = out.length) (h : w.ownsRow base 60 3 v (n + 1) (cellsOf out ++ [.int .i64 q.k, .int .i64 q.n, .string q.t])) : Own w base v (out ++ [q]) := by
  subst hn
  unfold Own
  rw [List.length_append, cellsOf_append]; exact h

set_option maxRecDepth 100000 in
set_option maxHeartbeats 4000000 in
theorem push_nil {base : Nat} (w : World) (v : Value) (p : Pt) (hb : base ≤ w.heap.size) (O : Own w base v []) (hsp : some' p) :
    Calls Tryd.prog 33 #[v, .agg #[.int .i64 p.k, .int .i64 p.n, .string p.t]] w fun e w' => ∃ v', e = .returned v' ∧ Own w' base v' [p] ∧ Grow v v' w w' := by
  obtain ⟨i0, hi0, hz0, hz1, hz2⟩ := info_parts Tryd.info60
  obtain ⟨ao, cap, rfl⟩ := own_slice60 O
  have hz := some_cases hsp
  have HO : Hid (w.ownsRow base 60 3 (.slice ao 0 cap) 0 (cellsOf [])) := O
  have hw0 : Hid (Below w.heap.size w (w.alloc (.cells #[.int .i64 p.k, .int .i64 p.n, .string p.t] 60))) := (Below.refl _ _).alloc (Nat.le_refl _) _
  clear O hsp
  rcases hz with hz | ⟨hz, hz'⟩
  all_goals
    go_enter Tryd.func33, Tryd.ntmps33
    go_wp2
    go_quiet (fail)
    have hb0 : Below w.heap.size w ((w.alloc (.cells #[.int .i64 p.k, .int .i64 p.n, .string p.t] 60)).drewN nq) := below_drewN hw0.out _
    have HB2 : Hid (Below w.heap.size w (((w.alloc (.cells #[.int .i64 p.k, .int .i64 p.n, .string p.t] 60)).drewN nq).alloc (.cells #[.int .i64 p.k, .int .i64 p.n, .string p.t] 60))) := hb0.alloc (by simp) _
    have HO2 : Hid ((((w.alloc (.cells #[.int .i64 p.k, .int .i64 p.n, .string p.t] 60)).drewN nq).alloc (.cells #[.int .i64 p.k, .int .i64 p.n, .string p.t] 60)).ownsRow base 60 3 (.slice ao 0 cap) 0 (cellsOf [])) := own_here HO.out HB2.out
    have HN : Hid ((((w.alloc (.cells #[.int .i64 p.k, .int .i64 p.n, .string p.t] 60)).drewN nq).alloc (.cells #[.int .i64 p.k, .int .i64 p.n, .string p.t] 60)).heap[w.heap.size + 1]? = some (.cells #[.int .i64 p.k, .int .i64 p.n, .string p.t] 60)) := by have h := heap_alloc_new ((w.alloc (.cells #[.int .i64 p.k, .int .i64 p.n, .string p.t] 60)).drewN nq) (.cells #[.int .i64 p.k, .int .i64 p.n, .string p.t] 60); rw [show ((w.alloc (.cells #[.int .i64 p.k, .int .i64 p.n, .string p.t] 60)).drewN nq).heap.size = w.heap.size + 1 by simp] at h; exact h
    clear hb0
    go_wp2_with (at_builtin; refine wpList_append_lies _ rfl _ _ _ rfl base 60 i0 _ 3 32 Tryd.underlying22 hi0 hz0 hz1 hz2 rfl (by omega) _ 0 (cellsOf []) rfl HO2.out ⟨w.heap.size + 1, 0, none⟩ 1 1 [.int .i64 p.k, .int .i64 p.n, .string p.t] rfl rfl (World.news_of_block (cs := #[.int .i64 p.k, .int .i64 p.n, .string p.t]) (t := 60) (fr := (0, 0)) HN.out) (by simp [Value.oneCell']) (by omega) (by unfold maxLen; omega) (by omega) (by simp; omega) (w.heap.size + 2) (by simp) ?_)
    intro gg cap2 w2 hown2 hgrow hat hlt'
    have HF3 : Hid (Grow (.slice ao 0 cap) (.slice (some ⟨gg, 0, none⟩) (0 + 1) cap2) w w2) := ⟨(Wr.here HB2.out).trans (wr_grown hgrow), fun k hk => grow_at hk hat (by omega)⟩
    have HO3 : Hid (Own w2 base (.slice (some ⟨gg, 0, none⟩) (0 + 1) cap2) ([] ++ [p])) := own_snoc_of p rfl (by simpa using hown2)
    clear hown2 hgrow hat
    go_wp2
    go_ret
    exact ⟨_, rfl, HO3.out, HF3.out⟩

set_option maxRecDepth 100000 in
set_option maxHeartbeats 4000000 in
theorem push_snocA {base : Nat} (w : World) (v : Value) (r : List Pt) (q p : Pt) (hb : base ≤ w.heap.size) (O : Own w base v (r ++ [q])) (hsp : some' p) (h : q.k ≠ p.k) (h2 : (p.k == 2) = false) (hl : r.length ≤ 100000000) :
    Calls Tryd.prog 33 #[v, .agg #[.int .i64 p.k, .int .i64 p.n, .string p.t]] w fun e w' => ∃ v', e = .returned v' ∧ Own w' base v' ((r ++ [q]) ++ [p]) ∧ Grow v v' w w' := by
  obtain ⟨i0, hi0, hz0, hz1, hz2⟩ := info_parts Tryd.info60
  obtain ⟨g, cap, rfl, hgb, hgl, c0, c1, c2, cf, hown⟩ := own_snoc60 O
  have hgk : (q.k == p.k) = false := by simp [h]
  have hgne : g ≠ w.heap.size := by omega
  have hz := some_cases hsp
  have HO : Hid (w.ownsRow base 60 3 (.slice (some ⟨g, 0, none⟩) (r.length + 1) cap) (r.length + 1) (cellsOf (r ++ [q]))) := hown
  have hw0 : Hid (Below w.heap.size w (w.alloc (.cells #[.int .i64 p.k, .int .i64 p.n, .string p.t] 60))) := (Below.refl _ _).alloc (Nat.le_refl _) _
  clear O hown hsp h
  have hi0' : (0 : Int) ≤ (r.length : Int) := Int.natCast_nonneg _
  have hi1' : (r.length : Int) < (r.length : Int) + 1 := by omega
  have hn0 : ((r.length : Int) + 1 == 0) = false := by simp; omega
  rcases hz with hz | ⟨hz, hz'⟩
  all_goals
    go_enter Tryd.func33, Tryd.ntmps33
    go_wp2
    go_quiet (fail)
    have hb0 : Below w.heap.size w ((w.alloc (.cells #[.int .i64 p.k, .int .i64 p.n, .string p.t] 60)).drewN nq) := below_drewN hw0.out _
    have HB2 : Hid (Below w.heap.size w (((w.alloc (.cells #[.int .i64 p.k, .int .i64 p.n, .string p.t] 60)).drewN nq).alloc (.cells #[.int .i64 p.k, .int .i64 p.n, .string p.t] 60))) := hb0.alloc (by simp) _
    have HO2 : Hid ((((w.alloc (.cells #[.int .i64 p.k, .int .i64 p.n, .string p.t] 60)).drewN nq).alloc (.cells #[.int .i64 p.k, .int .i64 p.n, .string p.t] 60)).ownsRow base 60 3 (.slice (some ⟨g, 0, none⟩) (r.length + 1) cap) (r.length + 1) (cellsOf (r ++ [q]))) := own_here HO.out HB2.out
    have HN : Hid ((((w.alloc (.cells #[.int .i64 p.k, .int .i64 p.n, .string p.t] 60)).drewN nq).alloc (.cells #[.int .i64 p.k, .int .i64 p.n, .string p.t] 60)).heap[w.heap.size + 1]? = some (.cells #[.int .i64 p.k, .int .i64 p.n, .string p.t] 60)) := by have h := heap_alloc_new ((w.alloc (.cells #[.int .i64 p.k, .int .i64 p.n, .string p.t] 60)).drewN nq) (.cells #[.int .i64 p.k, .int .i64 p.n, .string p.t] 60); rw [show ((w.alloc (.cells #[.int .i64 p.k, .int .i64 p.n, .string p.t] 60)).drewN nq).heap.size = w.heap.size + 1 by simp] at h; exact h
    clear hb0
    go_wp2_with (at_builtin; refine wpList_append_lies _ rfl _ _ _ rfl base 60 i0 _ 3 32 Tryd.underlying22 hi0 hz0 hz1 hz2 rfl (by omega) _ (r.length + 1) (cellsOf (r ++ [q])) rfl HO2.out ⟨w.heap.size + 1, 0, none⟩ 1 1 [.int .i64 p.k, .int .i64 p.n, .string p.t] rfl rfl (World.news_of_block (cs := #[.int .i64 p.k, .int .i64 p.n, .string p.t]) (t := 60) (fr := (0, 0)) HN.out) (by simp [Value.oneCell']) (by omega) (by unfold maxLen; omega) (by omega) (by simp; omega) (w.heap.size + 2) (by simp) ?_)
    intro gg cap2 w2 hown2 hgrow hat hlt'
    have HF3 : Hid (Grow (.slice (some ⟨g, 0, none⟩) (r.length + 1) cap) (.slice (some ⟨gg, 0, none⟩) ((r.length + 1) + 1) cap2) w w2) := ⟨(Wr.here HB2.out).trans (wr_grown hgrow), fun k hk => grow_at hk hat (by omega)⟩
    have HO3 : Hid (Own w2 base (.slice (some ⟨gg, 0, none⟩) ((r.length + 1) + 1) cap2) ((r ++ [q]) ++ [p])) := own_snoc_of (n := r.length + 1) p (by simp) hown2
    clear hown2 hgrow hat
    go_wp2
    go_ret
    exact ⟨_, rfl, HO3.out, HF3.out⟩

set_option maxRecDepth 100000 in
set_option maxHeartbeats 4000000 in
theorem push_snocB {base : Nat} (w : World) (v : Value) (r : List Pt) (q : Pt) (pn : Int) (pt : ByteArray) (hb : base ≤ w.heap.size) (O : Own w base v (r ++ [q])) (hsp : some' ⟨2, pn, pt⟩) (h : q.k ≠ 2) (h3 : (q.k == 3) = false) (hl : r.length ≤ 100000000) :
    Calls Tryd.prog 33 #[v, .agg #[.int .i64 2, .int .i64 pn, .string pt]] w fun e w' => ∃ v', e = .returned v' ∧ Own w' base v' ((r ++ [q]) ++ [(⟨2, pn, pt⟩ : Pt)]) ∧ Grow v v' w w' := by
  obtain ⟨i0, hi0, hz0, hz1, hz2⟩ := info_parts Tryd.info60
  obtain ⟨g, cap, rfl, hgb, hgl, c0, c1, c2, cf, hown⟩ := own_snoc60 O
  have hgk : (q.k == 2) = false := by simp [h]
  have hgne : g ≠ w.heap.size := by omega
  have hz : ((pn == 0) = false) ∨ ((pn == 0) = true ∧ pt.toList.isEmpty = false) := some_cases hsp
  have HO : Hid (w.ownsRow base 60 3 (.slice (some ⟨g, 0, none⟩) (r.length + 1) cap) (r.length + 1) (cellsOf (r ++ [q]))) := hown
  have hw0 : Hid (Below w.heap.size w (w.alloc (.cells #[.int .i64 2, .int .i64 pn, .string pt] 60))) := (Below.refl _ _).alloc (Nat.le_refl _) _
  clear O hown hsp h
  have hi0' : (0 : Int) ≤ (r.length : Int) := Int.natCast_nonneg _
  have hi1' : (r.length : Int) < (r.length : Int) + 1 := by omega
  have hn0 : ((r.length : Int) + 1 == 0) = false := by simp; omega
  rcases hz with hz | ⟨hz, hz'⟩
  all_goals
    go_enter Tryd.func33, Tryd.ntmps33
    go_wp2
    go_quiet (fail)
    have hb0 : Below w.heap.size w ((w.alloc (.cells #[.int .i64 2, .int .i64 pn, .string pt] 60)).drewN nq) := below_drewN hw0.out _
    have HB2 : Hid (Below w.heap.size w (((w.alloc (.cells #[.int .i64 2, .int .i64 pn, .string pt] 60)).drewN nq).alloc (.cells #[.int .i64 2, .int .i64 pn, .string pt] 60))) := hb0.alloc (by simp) _
    have HO2 : Hid ((((w.alloc (.cells #[.int .i64 2, .int .i64 pn, .string pt] 60)).drewN nq).alloc (.cells #[.int .i64 2, .int .i64 pn, .string pt] 60)).ownsRow base 60 3 (.slice (some ⟨g, 0, none⟩) (r.length + 1) cap) (r.length + 1) (cellsOf (r ++ [q]))) := own_here HO.out HB2.out
    have HN : Hid ((((w.alloc (.cells #[.int .i64 2, .int .i64 pn, .string pt] 60)).drewN nq).alloc (.cells #[.int .i64 2, .int .i64 pn, .string pt] 60)).heap[w.heap.size + 1]? = some (.cells #[.int .i64 2, .int .i64 pn, .string pt] 60)) := by have h := heap_alloc_new ((w.alloc (.cells #[.int .i64 2, .int .i64 pn, .string pt] 60)).drewN nq) (.cells #[.int .i64 2, .int .i64 pn, .string pt] 60); rw [show ((w.alloc (.cells #[.int .i64 2, .int .i64 pn, .string pt] 60)).drewN nq).heap.size = w.heap.size + 1 by simp] at h; exact h
    clear hb0
    go_wp2_with (at_builtin; refine wpList_append_lies _ rfl _ _ _ rfl base 60 i0 _ 3 32 Tryd.underlying22 hi0 hz0 hz1 hz2 rfl (by omega) _ (r.length + 1) (cellsOf (r ++ [q])) rfl HO2.out ⟨w.heap.size + 1, 0, none⟩ 1 1 [.int .i64 2, .int .i64 pn, .string pt] rfl rfl (World.news_of_block (cs := #[.int .i64 2, .int .i64 pn, .string pt]) (t := 60) (fr := (0, 0)) HN.out) (by simp [Value.oneCell']) (by omega) (by unfold maxLen; omega) (by omega) (by simp; omega) (w.heap.size + 2) (by simp) ?_)
    intro gg cap2 w2 hown2 hgrow hat hlt'
    have HF3 : Hid (Grow (.slice (some ⟨g, 0, none⟩) (r.length + 1) cap) (.slice (some ⟨gg, 0, none⟩) ((r.length + 1) + 1) cap2) w w2) := ⟨(Wr.here HB2.out).trans (wr_grown hgrow), fun k hk => grow_at hk hat (by omega)⟩
    have HO3 : Hid (Own w2 base (.slice (some ⟨gg, 0, none⟩) ((r.length + 1) + 1) cap2) ((r ++ [q]) ++ [(⟨2, pn, pt⟩ : Pt)])) := own_snoc_of (n := r.length + 1) ⟨2, pn, pt⟩ (by simp) hown2
    clear hown2 hgrow hat
    go_wp2
    go_ret
    exact ⟨_, rfl, HO3.out, HF3.out⟩
end Go.Proofs.YtdlolnahbgecjaaDoor
namespace Go.Proofs.YtdlolnahbgecjaaDoor
open Go.RowKit
set_option linter.unusedVariables false

theorem own_cells60 {w : World} {base : Nat} {v : Value} {l : List Pt} (h : Own w base v l) (hl : 0 < l.length) : ∃ g cap, v = .slice (some ⟨g, 0, none⟩) l.length cap ∧ base ≤ g ∧ g < w.heap.size ∧
    (∀ i, i < l.length → w.cell? ⟨g, i * 3, none⟩ = some (.int .i64 (nth l i).k) ∧ w.cell? ⟨g, i * 3 + 1, none⟩ = some (.int .i64 (nth l i).n) ∧ w.cell? ⟨g, i * 3 + 2, none⟩ = some (.string (nth l i).t)) ∧ (∀ j, w.frozen? ⟨g, j, none⟩ = false) ∧ w.ownsRow base 60 3 (.slice (some ⟨g, 0, none⟩) l.length cap) l.length (cellsOf l) := by
  have h' : w.ownsRow base 60 3 v l.length (cellsOf l) := h
  rcases h'.2 with ⟨_, h0⟩ | ⟨g, cap, cur, rfl, hb, hg, _⟩
  · omega
  · refine ⟨g, cap, rfl, hb, (Array.getElem?_eq_some_iff.1 hg).1, ?_, h'.frozenAt, h'⟩
    intro i hi
    have hc := cellsOf_get l i hi
    exact ⟨(h'.cellAt _ (by omega)).trans hc.1, (h'.cellAt _ (by omega)).trans hc.2.1, (h'.cellAt _ (by omega)).trans hc.2.2⟩

theorem cells_lastK (r : List Pt) (q : Pt) (k : Int) : (cellsOf (r ++ [q])).set (r.length * 3) (.int .i64 k) = cellsOf (r ++ [⟨k, q.n, q.t⟩]) := by
  rw [cellsOf_append, cellsOf_append, List.set_append, if_neg (by rw [cellsOf_length]; omega), cellsOf_length]
  congr 1
  rw [show r.length * 3 - r.length * 3 = 0 by omega]
  rfl
/-- a whole part is stored over the last one of a row -/
theorem own_put {w : World} {base g cap : Nat} {r : List Pt} {q : Pt} (h : w.ownsRow base 60 3 (.slice (some ⟨g, 0, none⟩) (r.length + 1) cap) (r.length + 1) (cellsOf (r ++ [q]))) (k n : Int) (t : ByteArray) :
    (((w.setCell ⟨g, r.length * 3, none⟩ (.int .i64 k)).setCell ⟨g, r.length * 3 + 1, none⟩ (.int .i64 n)).setCell ⟨g, r.length * 3 + 2, none⟩ (.string t)).ownsRow base 60 3 (.slice (some ⟨g, 0, none⟩) (r.length + 1) cap) (r.length + 1) (cellsOf (r ++ [⟨k, n, t⟩])) ∧ Wr (fun k => some k = (Value.slice (some ⟨g, 0, none⟩) (r.length + 1) cap).ownBlock) w (((w.setCell ⟨g, r.length * 3, none⟩ (.int .i64 k)).setCell ⟨g, r.length * 3 + 1, none⟩ (.int .i64 n)).setCell ⟨g, r.length * 3 + 2, none⟩ (.string t)) := by
  obtain ⟨h0, g0⟩ := h.stored (r.length * 3) (.int .i64 k)
  rw [cells_lastK] at h0
  obtain ⟨h1, g1⟩ := h0.stored (r.length * 3 + 1) (.int .i64 n)
  rw [cells_last] at h1
  obtain ⟨h2, g2⟩ := h1.stored (r.length * 3 + 2) (.string t)
  rw [cells_lastT] at h2
  exact ⟨h2, ((wr_grown g0).trans (wr_grown g1)).trans (wr_grown g2)⟩
theorem heap_alloc_two (w : World) (o o' : Obj) : ((w.alloc o').alloc o).heap[w.heap.size + 1]? = some o := by
  have h := heap_alloc_new (w.alloc o') o
  rw [show (w.alloc o').heap.size = w.heap.size + 1 by simp] at h
  exact h

set_option maxRecDepth 100000 in
set_option maxHeartbeats 4000000 in
theorem push_swap1 {base : Nat} (w : World) (v : Value) (qn pn : Int) (qt pt : ByteArray) (hb : base ≤ w.heap.size) (O : Own w base v [⟨3, qn, qt⟩]) (hsp : some' ⟨2, pn, pt⟩) :
    Calls Tryd.prog 33 #[v, .agg #[.int .i64 2, .int .i64 pn, .string pt]] w fun e w' => ∃ v', e = .returned v' ∧ Own w' base v' [⟨2, pn, pt⟩, ⟨3, qn, qt⟩] ∧ Grow v v' w w' := by
  obtain ⟨i0, hi0, hz0, hz1, hz2⟩ := info_parts Tryd.info60
  obtain ⟨g, cap, rfl, hgb, hgl, hcells, cf, hown⟩ := own_cells60 O (by simp)
  obtain ⟨c0, c1, c2⟩ := hcells 0 (by simp)
  change w.cell? ⟨g, 0, none⟩ = some (.int .i64 3) at c0
  change w.cell? ⟨g, 1, none⟩ = some (.int .i64 qn) at c1
  change w.cell? ⟨g, 2, none⟩ = some (.string qt) at c2
  have hgne : g ≠ w.heap.size := by omega
  have hz : ((pn == 0) = false) ∨ ((pn == 0) = true ∧ pt.toList.isEmpty = false) := some_cases hsp
  have HO : Hid (w.ownsRow base 60 3 (.slice (some ⟨g, 0, none⟩) 1 cap) 1 (cellsOf [⟨3, qn, qt⟩])) := hown
  clear O hown hsp hcells
  show Calls Tryd.prog 33 #[.slice (some ⟨g, 0, none⟩) 1 cap, .agg #[.int .i64 2, .int .i64 pn, .string pt]] w _
  rcases hz with hz | ⟨hz, hz'⟩
  all_goals
    go_enter Tryd.func33, Tryd.ntmps33
    go_wp2
    go_quiet (fail)
    have hw0 : Below w.heap.size w ((w.alloc (.cells #[.int .i64 2, .int .i64 pn, .string pt] 60)).drewN nq) := below_drewN ((Below.refl _ _).alloc (Nat.le_refl _) _) _
    have hO1 : ((w.alloc (.cells #[.int .i64 2, .int .i64 pn, .string pt] 60)).drewN nq).ownsRow base 60 3 (.slice (some ⟨g, 0, none⟩) (([] : List Pt).length + 1) cap) (([] : List Pt).length + 1) (cellsOf ([] ++ [⟨3, qn, qt⟩])) := own_here HO.out hw0
    obtain ⟨hO2, hF2⟩ := own_put hO1 2 pn pt
    have hsz : (((((w.alloc (.cells #[.int .i64 2, .int .i64 pn, .string pt] 60)).drewN nq).setCell ⟨g, 0, none⟩ (.int .i64 2)).setCell ⟨g, 1, none⟩ (.int .i64 pn)).setCell ⟨g, 2, none⟩ (.string pt)).heap.size = w.heap.size + 1 := by simp
    have hF2' : Wr (fun k => some k = (Value.slice (some ⟨g, 0, none⟩) 1 cap).ownBlock) w (((((w.alloc (.cells #[.int .i64 2, .int .i64 pn, .string pt] 60)).drewN nq).setCell ⟨g, 0, none⟩ (.int .i64 2)).setCell ⟨g, 1, none⟩ (.int .i64 pn)).setCell ⟨g, 2, none⟩ (.string pt)) := (Wr.here hw0).trans hF2
    have hB3 : Below ((((((w.alloc (.cells #[.int .i64 2, .int .i64 pn, .string pt] 60)).drewN nq).setCell ⟨g, 0, none⟩ (.int .i64 2)).setCell ⟨g, 1, none⟩ (.int .i64 pn)).setCell ⟨g, 2, none⟩ (.string pt)).heap.size) (((((w.alloc (.cells #[.int .i64 2, .int .i64 pn, .string pt] 60)).drewN nq).setCell ⟨g, 0, none⟩ (.int .i64 2)).setCell ⟨g, 1, none⟩ (.int .i64 pn)).setCell ⟨g, 2, none⟩ (.string pt)) (((((((w.alloc (.cells #[.int .i64 2, .int .i64 pn, .string pt] 60)).drewN nq).setCell ⟨g, 0, none⟩ (.int .i64 2)).setCell ⟨g, 1, none⟩ (.int .i64 pn)).setCell ⟨g, 2, none⟩ (.string pt)).alloc (.cells #[.int .i64 3, .int .i64 qn, .string qt] 60)).alloc (.cells #[.int .i64 3, .int .i64 qn, .string qt] 60)) := ((Below.refl _ _).alloc (Nat.le_refl _) _).alloc (by simp) _
    have HF3 : Hid (Wr (fun k => some k = (Value.slice (some ⟨g, 0, none⟩) 1 cap).ownBlock) w (((((((w.alloc (.cells #[.int .i64 2, .int .i64 pn, .string pt] 60)).drewN nq).setCell ⟨g, 0, none⟩ (.int .i64 2)).setCell ⟨g, 1, none⟩ (.int .i64 pn)).setCell ⟨g, 2, none⟩ (.string pt)).alloc (.cells #[.int .i64 3, .int .i64 qn, .string qt] 60)).alloc (.cells #[.int .i64 3, .int .i64 qn, .string qt] 60))) := hF2'.trans (Wr.here hB3)
    have HO3 : Hid ((((((((w.alloc (.cells #[.int .i64 2, .int .i64 pn, .string pt] 60)).drewN nq).setCell ⟨g, 0, none⟩ (.int .i64 2)).setCell ⟨g, 1, none⟩ (.int .i64 pn)).setCell ⟨g, 2, none⟩ (.string pt)).alloc (.cells #[.int .i64 3, .int .i64 qn, .string qt] 60)).alloc (.cells #[.int .i64 3, .int .i64 qn, .string qt] 60)).ownsRow base 60 3 (.slice (some ⟨g, 0, none⟩) 1 cap) 1 (cellsOf [⟨2, pn, pt⟩])) := own_here hO2 hB3
    have HN : Hid ((((((((w.alloc (.cells #[.int .i64 2, .int .i64 pn, .string pt] 60)).drewN nq).setCell ⟨g, 0, none⟩ (.int .i64 2)).setCell ⟨g, 1, none⟩ (.int .i64 pn)).setCell ⟨g, 2, none⟩ (.string pt)).alloc (.cells #[.int .i64 3, .int .i64 qn, .string qt] 60)).alloc (.cells #[.int .i64 3, .int .i64 qn, .string qt] 60)).heap[w.heap.size + 2]? = some (.cells #[.int .i64 3, .int .i64 qn, .string qt] 60)) := by have h := heap_alloc_two (((((w.alloc (.cells #[.int .i64 2, .int .i64 pn, .string pt] 60)).drewN nq).setCell ⟨g, 0, none⟩ (.int .i64 2)).setCell ⟨g, 1, none⟩ (.int .i64 pn)).setCell ⟨g, 2, none⟩ (.string pt)) (.cells #[.int .i64 3, .int .i64 qn, .string qt] 60) (.cells #[.int .i64 3, .int .i64 qn, .string qt] 60); rw [hsz] at h; exact h
    clear hw0 hO1 hO2 hF2 hsz hF2' hB3
    go_wp2_with (at_builtin; refine wpList_append_lies _ rfl _ _ _ rfl base 60 i0 _ 3 32 Tryd.underlying22 hi0 hz0 hz1 hz2 rfl (by omega) _ 1 (cellsOf [⟨2, pn, pt⟩]) rfl HO3.out ⟨w.heap.size + 2, 0, none⟩ 1 1 [.int .i64 3, .int .i64 qn, .string qt] rfl rfl (World.news_of_block (cs := #[.int .i64 3, .int .i64 qn, .string qt]) (t := 60) (fr := (0, 0)) HN.out) (by simp [Value.oneCell']) (by omega) (by unfold maxLen; omega) (by omega) (by simp; omega) (w.heap.size + 3) (by simp) ?_)
    intro gg cap2 w2 hown2 hgrow hat hlt'
    have HF4 : Hid (Grow (.slice (some ⟨g, 0, none⟩) 1 cap) (.slice (some ⟨gg, 0, none⟩) (1 + 1) cap2) w w2) := ⟨HF3.out.trans (wr_grown hgrow), fun k hk => grow_at hk hat (by omega)⟩
    have HO4 : Hid (Own w2 base (.slice (some ⟨gg, 0, none⟩) (1 + 1) cap2) ([⟨2, pn, pt⟩] ++ [⟨3, qn, qt⟩])) := own_snoc_of (n := 1) ⟨3, qn, qt⟩ (by simp) hown2
    clear hown2 hgrow hat
    go_wp2
    go_ret
    exact ⟨_, rfl, HO4.out, HF4.out⟩
end Go.Proofs.YtdlolnahbgecjaaDoor
namespace Go.Proofs.YtdlolnahbgecjaaDoor
open Go.RowKit
set_option linter.unusedVariables false

theorem own_two {w : World} {base : Nat} {v : Value} {r : List Pt} {q2 q : Pt} (h : Own w base v ((r ++ [q2]) ++ [q])) : ∃ g cap, v = .slice (some ⟨g, 0, none⟩) ((r.length + 1) + 1) cap ∧ base ≤ g ∧ g < w.heap.size ∧
    (w.cell? ⟨g, r.length * 3, none⟩ = some (.int .i64 q2.k) ∧ w.cell? ⟨g, r.length * 3 + 1, none⟩ = some (.int .i64 q2.n) ∧ w.cell? ⟨g, r.length * 3 + 2, none⟩ = some (.string q2.t)) ∧
    (w.cell? ⟨g, (r.length + 1) * 3, none⟩ = some (.int .i64 q.k) ∧ w.cell? ⟨g, (r.length + 1) * 3 + 1, none⟩ = some (.int .i64 q.n) ∧ w.cell? ⟨g, (r.length + 1) * 3 + 2, none⟩ = some (.string q.t)) ∧ (∀ j, w.frozen? ⟨g, j, none⟩ = false) ∧ w.ownsRow base 60 3 (.slice (some ⟨g, 0, none⟩) ((r.length + 1) + 1) cap) ((r.length + 1) + 1) (cellsOf ((r ++ [q2]) ++ [q])) := by
  have hl : ((r ++ [q2]) ++ [q]).length = (r.length + 1) + 1 := by simp
  obtain ⟨g, cap, hv, hb, hg, hc, hf, ho⟩ := own_cells60 h (by omega)
  rw [hl] at hv ho
  have a := hc r.length (by omega)
  have b := hc (r.length + 1) (by omega)
  rw [show nth ((r ++ [q2]) ++ [q]) r.length = q2 by simp [nth]] at a
  rw [show nth ((r ++ [q2]) ++ [q]) (r.length + 1) = q by simp [nth]] at b
  exact ⟨g, cap, hv, hb, hg, a, b, hf, ho⟩

theorem stopHere {p : Prop} (h : Hid p) : p := h.out

set_option maxRecDepth 100000 in
set_option maxHeartbeats 4000000 in
theorem push_swap3 {base : Nat} (w : World) (v : Value) (r : List Pt) (q2 : Pt) (qn pn : Int) (qt pt : ByteArray) (hb : base ≤ w.heap.size) (O : Own w base v ((r ++ [q2]) ++ [⟨3, qn, qt⟩])) (h2 : (q2.k == 2) = false) (hl : r.length ≤ 100000000) (hsp : some' ⟨2, pn, pt⟩) :
    Calls Tryd.prog 33 #[v, .agg #[.int .i64 2, .int .i64 pn, .string pt]] w fun e w' => ∃ v', e = .returned v' ∧ Own w' base v' (((r ++ [q2]) ++ [⟨2, pn, pt⟩]) ++ [⟨3, qn, qt⟩]) ∧ Grow v v' w w' := by
  obtain ⟨i0, hi0, hz0, hz1, hz2⟩ := info_parts Tryd.info60
  obtain ⟨g, cap, rfl, hgb, hgl, ⟨d0, d1, d2⟩, ⟨c0, c1, c2⟩, cf, hown⟩ := own_two O
  change w.cell? ⟨g, (r.length + 1) * 3, none⟩ = some (.int .i64 3) at c0
  change w.cell? ⟨g, (r.length + 1) * 3 + 1, none⟩ = some (.int .i64 qn) at c1
  change w.cell? ⟨g, (r.length + 1) * 3 + 2, none⟩ = some (.string qt) at c2
  have hi0' : (0 : Int) ≤ (r.length : Int) := Int.natCast_nonneg _
  have hn0 : ((r.length : Int) + 1 + 1 == 0) = false := by simp; omega
  have hn00 : (0 : Int) < (r.length : Int) + 1 + 1 := by omega
  have hm2 : (r.length : Int) + 1 + 1 - 2 = (r.length : Int) := by omega
  have hn1 : (1 : Int) < (r.length : Int) + 1 + 1 := by omega
  have hi1' : (r.length : Int) < (r.length : Int) + 1 + 1 := by omega
  have hi2' : (r.length : Int) + 1 < (r.length : Int) + 1 + 1 := by omega
  have hgne : g ≠ w.heap.size := by omega
  have hz : ((pn == 0) = false) ∨ ((pn == 0) = true ∧ pt.toList.isEmpty = false) := some_cases hsp
  have HO : Hid (w.ownsRow base 60 3 (.slice (some ⟨g, 0, none⟩) ((r.length + 1) + 1) cap) ((r.length + 1) + 1) (cellsOf ((r ++ [q2]) ++ [⟨3, qn, qt⟩]))) := hown
  clear O hown hsp
  rcases hz with hz | ⟨hz, hz'⟩
  all_goals
    go_enter Tryd.func33, Tryd.ntmps33
    go_wp2
    go_quiet (fail)
    have hw0 : Below w.heap.size w ((w.alloc (.cells #[.int .i64 2, .int .i64 pn, .string pt] 60)).drewN nq) := below_drewN ((Below.refl _ _).alloc (Nat.le_refl _) _) _
    have hO1 : ((w.alloc (.cells #[.int .i64 2, .int .i64 pn, .string pt] 60)).drewN nq).ownsRow base 60 3 (.slice (some ⟨g, 0, none⟩) ((r.length + 1) + 1) cap) ((r.length + 1) + 1) (cellsOf ((r ++ [q2]) ++ [⟨3, qn, qt⟩])) := own_here HO.out hw0
    have hrl : (r ++ [q2]).length = r.length + 1 := by simp
    rw [← hrl] at hO1
    obtain ⟨hO2, hF2⟩ := own_put hO1 2 pn pt
    rw [hrl] at hO2 hF2
    have hsz : (((((w.alloc (.cells #[.int .i64 2, .int .i64 pn, .string pt] 60)).drewN nq).setCell ⟨g, (r.length + 1) * 3, none⟩ (.int .i64 2)).setCell ⟨g, (r.length + 1) * 3 + 1, none⟩ (.int .i64 pn)).setCell ⟨g, (r.length + 1) * 3 + 2, none⟩ (.string pt)).heap.size = w.heap.size + 1 := by simp
    have hF2' : Wr (fun k => some k = (Value.slice (some ⟨g, 0, none⟩) ((r.length + 1) + 1) cap).ownBlock) w (((((w.alloc (.cells #[.int .i64 2, .int .i64 pn, .string pt] 60)).drewN nq).setCell ⟨g, (r.length + 1) * 3, none⟩ (.int .i64 2)).setCell ⟨g, (r.length + 1) * 3 + 1, none⟩ (.int .i64 pn)).setCell ⟨g, (r.length + 1) * 3 + 2, none⟩ (.string pt)) := (Wr.here hw0).trans hF2
    have hB3 : Below ((((((w.alloc (.cells #[.int .i64 2, .int .i64 pn, .string pt] 60)).drewN nq).setCell ⟨g, (r.length + 1) * 3, none⟩ (.int .i64 2)).setCell ⟨g, (r.length + 1) * 3 + 1, none⟩ (.int .i64 pn)).setCell ⟨g, (r.length + 1) * 3 + 2, none⟩ (.string pt)).heap.size) (((((w.alloc (.cells #[.int .i64 2, .int .i64 pn, .string pt] 60)).drewN nq).setCell ⟨g, (r.length + 1) * 3, none⟩ (.int .i64 2)).setCell ⟨g, (r.length + 1) * 3 + 1, none⟩ (.int .i64 pn)).setCell ⟨g, (r.length + 1) * 3 + 2, none⟩ (.string pt)) (((((((w.alloc (.cells #[.int .i64 2, .int .i64 pn, .string pt] 60)).drewN nq).setCell ⟨g, (r.length + 1) * 3, none⟩ (.int .i64 2)).setCell ⟨g, (r.length + 1) * 3 + 1, none⟩ (.int .i64 pn)).setCell ⟨g, (r.length + 1) * 3 + 2, none⟩ (.string pt)).alloc (.cells #[.int .i64 3, .int .i64 qn, .string qt] 60)).alloc (.cells #[.int .i64 3, .int .i64 qn, .string qt] 60)) := ((Below.refl _ _).alloc (Nat.le_refl _) _).alloc (by simp) _
    have HF3 : Hid (Wr (fun k => some k = (Value.slice (some ⟨g, 0, none⟩) ((r.length + 1) + 1) cap).ownBlock) w (((((((w.alloc (.cells #[.int .i64 2, .int .i64 pn, .string pt] 60)).drewN nq).setCell ⟨g, (r.length + 1) * 3, none⟩ (.int .i64 2)).setCell ⟨g, (r.length + 1) * 3 + 1, none⟩ (.int .i64 pn)).setCell ⟨g, (r.length + 1) * 3 + 2, none⟩ (.string pt)).alloc (.cells #[.int .i64 3, .int .i64 qn, .string qt] 60)).alloc (.cells #[.int .i64 3, .int .i64 qn, .string qt] 60))) := hF2'.trans (Wr.here hB3)
    have HO3 : Hid ((((((((w.alloc (.cells #[.int .i64 2, .int .i64 pn, .string pt] 60)).drewN nq).setCell ⟨g, (r.length + 1) * 3, none⟩ (.int .i64 2)).setCell ⟨g, (r.length + 1) * 3 + 1, none⟩ (.int .i64 pn)).setCell ⟨g, (r.length + 1) * 3 + 2, none⟩ (.string pt)).alloc (.cells #[.int .i64 3, .int .i64 qn, .string qt] 60)).alloc (.cells #[.int .i64 3, .int .i64 qn, .string qt] 60)).ownsRow base 60 3 (.slice (some ⟨g, 0, none⟩) ((r.length + 1) + 1) cap) ((r.length + 1) + 1) (cellsOf ((r ++ [q2]) ++ [⟨2, pn, pt⟩]))) := own_here hO2 hB3
    have HN : Hid ((((((((w.alloc (.cells #[.int .i64 2, .int .i64 pn, .string pt] 60)).drewN nq).setCell ⟨g, (r.length + 1) * 3, none⟩ (.int .i64 2)).setCell ⟨g, (r.length + 1) * 3 + 1, none⟩ (.int .i64 pn)).setCell ⟨g, (r.length + 1) * 3 + 2, none⟩ (.string pt)).alloc (.cells #[.int .i64 3, .int .i64 qn, .string qt] 60)).alloc (.cells #[.int .i64 3, .int .i64 qn, .string qt] 60)).heap[w.heap.size + 2]? = some (.cells #[.int .i64 3, .int .i64 qn, .string qt] 60)) := by have h := heap_alloc_two (((((w.alloc (.cells #[.int .i64 2, .int .i64 pn, .string pt] 60)).drewN nq).setCell ⟨g, (r.length + 1) * 3, none⟩ (.int .i64 2)).setCell ⟨g, (r.length + 1) * 3 + 1, none⟩ (.int .i64 pn)).setCell ⟨g, (r.length + 1) * 3 + 2, none⟩ (.string pt)) (.cells #[.int .i64 3, .int .i64 qn, .string qt] 60) (.cells #[.int .i64 3, .int .i64 qn, .string qt] 60); rw [hsz] at h; exact h
    clear hw0 hO1 hO2 hF2 hsz hF2' hB3
    go_wp2_with (at_builtin; refine wpList_append_lies _ rfl _ _ _ rfl base 60 i0 _ 3 32 Tryd.underlying22 hi0 hz0 hz1 hz2 rfl (by omega) (.slice (some ⟨g, 0, none⟩) ((r.length + 1) + 1) cap) ((r.length + 1) + 1) (cellsOf ((r ++ [q2]) ++ [⟨2, pn, pt⟩])) rfl HO3.out ⟨w.heap.size + 2, 0, none⟩ 1 1 [.int .i64 3, .int .i64 qn, .string qt] rfl rfl (World.news_of_block (cs := #[.int .i64 3, .int .i64 qn, .string qt]) (t := 60) (fr := (0, 0)) HN.out) (by simp [Value.oneCell']) (by omega) (by unfold maxLen; omega) (by omega) (by simp; omega) (w.heap.size + 3) (by simp) ?_)
    intro gg cap2 w2 hown2 hgrow hat hlt'
    have HF4 : Hid (Grow (.slice (some ⟨g, 0, none⟩) ((r.length + 1) + 1) cap) (.slice (some ⟨gg, 0, none⟩) (((r.length + 1) + 1) + 1) cap2) w w2) := ⟨HF3.out.trans (wr_grown hgrow), fun k hk => grow_at hk hat (by omega)⟩
    have HO4 : Hid (Own w2 base (.slice (some ⟨gg, 0, none⟩) (((r.length + 1) + 1) + 1) cap2) (((r ++ [q2]) ++ [⟨2, pn, pt⟩]) ++ [⟨3, qn, qt⟩])) := own_snoc_of (n := (r.length + 1) + 1) ⟨3, qn, qt⟩ (by simp) (by have h := hown2; rw [show r ++ [q2, (⟨2, pn, pt⟩ : Pt)] = (r ++ [q2]) ++ [⟨2, pn, pt⟩] by simp] at h; exact h)
    clear hown2 hgrow hat
    go_wp2
    go_ret
    exact ⟨_, rfl, HO4.out, HF4.out⟩

theorem cells_sndT (r : List Pt) (q2 q : Pt) (t : ByteArray) : (cellsOf ((r ++ [q2]) ++ [q])).set (r.length * 3 + 2) (.string t) = cellsOf ((r ++ [⟨q2.k, q2.n, t⟩]) ++ [q]) := by
  rw [cellsOf_append, cellsOf_append (r ++ [_]), List.set_append, if_pos (by rw [cellsOf_length]; simp; omega), cells_lastT]
set_option maxRecDepth 100000 in
set_option maxHeartbeats 4000000 in
theorem push_swap2 {base : Nat} (w : World) (v : Value) (r : List Pt) (an : Int) (at' : ByteArray) (qn pn : Int) (qt pt : ByteArray) (hb : base ≤ w.heap.size) (O : Own w base v ((r ++ [⟨2, an, at'⟩]) ++ [⟨3, qn, qt⟩])) (hl : r.length ≤ 100000000) (hsp : some' ⟨2, pn, pt⟩) (ht : at'.size + pt.size ≤ 100000000) :
    Calls Tryd.prog 33 #[v, .agg #[.int .i64 2, .int .i64 pn, .string pt]] w fun e w' => ∃ v', e = .returned v' ∧ Own w' base v' ((r ++ [⟨2, an, at' ++ pt⟩]) ++ [⟨3, qn, qt⟩]) ∧ Grow v v' w w' := by
  obtain ⟨g, cap, rfl, hgb, hgl, ⟨d0, d1, d2⟩, ⟨c0, c1, c2⟩, cf, hown⟩ := own_two O
  change w.cell? ⟨g, r.length * 3, none⟩ = some (.int .i64 2) at d0
  change w.cell? ⟨g, r.length * 3 + 1, none⟩ = some (.int .i64 an) at d1
  change w.cell? ⟨g, r.length * 3 + 2, none⟩ = some (.string at') at d2
  change w.cell? ⟨g, (r.length + 1) * 3, none⟩ = some (.int .i64 3) at c0
  change w.cell? ⟨g, (r.length + 1) * 3 + 1, none⟩ = some (.int .i64 qn) at c1
  change w.cell? ⟨g, (r.length + 1) * 3 + 2, none⟩ = some (.string qt) at c2
  have hi0' : (0 : Int) ≤ (r.length : Int) := Int.natCast_nonneg _
  have hn0 : ((r.length : Int) + 1 + 1 == 0) = false := by simp; omega
  have hn00 : (0 : Int) < (r.length : Int) + 1 + 1 := by omega
  have hm2 : (r.length : Int) + 1 + 1 - 2 = (r.length : Int) := by omega
  have hn1 : (1 : Int) < (r.length : Int) + 1 + 1 := by omega
  have hi1' : (r.length : Int) < (r.length : Int) + 1 + 1 := by omega
  have hi2' : (r.length : Int) + 1 < (r.length : Int) + 1 + 1 := by omega
  have hgne : g ≠ w.heap.size := by omega
  have hgne1 : g ≠ w.heap.size + 1 := by omega
  have ha := addS' at' pt ht
  have hz : ((pn == 0) = false) ∨ ((pn == 0) = true ∧ pt.toList.isEmpty = false) := some_cases hsp
  have HO : Hid (w.ownsRow base 60 3 (.slice (some ⟨g, 0, none⟩) ((r.length + 1) + 1) cap) ((r.length + 1) + 1) (cellsOf ((r ++ [⟨2, an, at'⟩]) ++ [⟨3, qn, qt⟩]))) := hown
  clear O hown hsp
  rcases hz with hz | ⟨hz, hz'⟩
  all_goals
    go_enter Tryd.func33, Tryd.ntmps33
    go_wp2
    go_quiet (fail)
    go_wp2
    go_region
    go_wp2
    have hw0 : Below w.heap.size w ((w.alloc (.cells #[.int .i64 2, .int .i64 pn, .string pt] 60)).drewN nq) := below_drewN ((Below.refl _ _).alloc (Nat.le_refl _) _) _
    have hO1 := own_here HO.out hw0
    obtain ⟨h1, g1⟩ := hO1.stored (r.length * 3 + 2) (.string (at' ++ pt))
    rw [cells_sndT] at h1
    have hF : Wr (fun k => some k = (Value.slice (some ⟨g, 0, none⟩) ((r.length + 1) + 1) cap).ownBlock) w (((w.alloc (.cells #[.int .i64 2, .int .i64 pn, .string pt] 60)).drewN nq).setCell ⟨g, r.length * 3 + 2, none⟩ (.string (at' ++ pt))) := (Wr.here hw0).trans (wr_grown g1)
    have hB3 : Below (((w.alloc (.cells #[.int .i64 2, .int .i64 pn, .string pt] 60)).drewN nq).setCell ⟨g, r.length * 3 + 2, none⟩ (.string (at' ++ pt))).heap.size (((w.alloc (.cells #[.int .i64 2, .int .i64 pn, .string pt] 60)).drewN nq).setCell ⟨g, r.length * 3 + 2, none⟩ (.string (at' ++ pt))) (((((w.alloc (.cells #[.int .i64 2, .int .i64 pn, .string pt] 60)).drewN nq).setCell ⟨g, r.length * 3 + 2, none⟩ (.string (at' ++ pt))).alloc (.cells #[.int .i64 3, .int .i64 qn, .string qt] 60)).drew) := ((Below.refl _ _).alloc (Nat.le_refl _) _).drew
    go_ret
    exact ⟨_, rfl, Own.of (own_here h1 hB3) (by simp), hF.trans (Wr.here hB3), fun k hk => Or.inl hk⟩
end Go.Proofs.YtdlolnahbgecjaaDoor
namespace Go.Proofs.YtdlolnahbgecjaaDoor
open Go.RowKit
set_option linter.unusedVariables false

def textL : List Pt → Nat
  | [] => 0
  | p :: r => p.t.size + textL r
theorem textL_append (a b : List Pt) : textL (a ++ b) = textL a + textL b := by
  induction a with
  | nil => simp [textL]
  | cons p r ih => simp only [List.cons_append, textL, ih]; omega
theorem okP_some {p : Pt} (h : okP p) : some' p := by
  rintro ⟨a, b⟩
  rcases h with ⟨_, h, _⟩ | ⟨_, _, h⟩ <;> omega
theorem okP_nn {p : Pt} (h : okP p) : 0 ≤ p.n := by
  rcases h with ⟨_, h, _⟩ | ⟨_, h, _⟩ <;> omega

/-- what is asked of a list in short: its numbers, and how much it holds -/
structure POk (l : List Pt) (S : Int) (L A : Nat) : Prop where
  ok : ∀ q ∈ l, okP q
  sum : sumL l ≤ S
  len : l.length ≤ L
  txt : textL l ≤ A

theorem snoc_two (l : List Pt) : l = [] ∨ (∃ q, l = [q]) ∨ ∃ r q2 q, l = (r ++ [q2]) ++ [q] := by
  rcases snoc_cases l with rfl | ⟨r, q, rfl⟩
  · exact Or.inl rfl
  · rcases snoc_cases r with rfl | ⟨r, q2, rfl⟩
    · exact Or.inr (Or.inl ⟨q, rfl⟩)
    · exact Or.inr (Or.inr ⟨r, q2, q, rfl⟩)
theorem okP_same {q p : Pt} (hq : okP q) (hp : okP p) (h : q.k = p.k) : okP ⟨q.k, q.n + p.n, q.t ++ p.t⟩ := by
  rcases hq with ⟨a, b, c⟩ | ⟨a, b, c⟩
  · rcases hp with ⟨a', b', c'⟩ | ⟨a', b', c'⟩
    · exact Or.inl ⟨a, by simp; omega, by show q.t ++ p.t = _; rw [c, c']; rfl⟩
    · omega
  · rcases hp with ⟨a', b', c'⟩ | ⟨a', b', c'⟩
    · omega
    · exact Or.inr ⟨a, by simp; omega, by show 0 < (q.t ++ p.t).size; rw [ByteArray.size_append]; omega⟩
theorem POk.push {l : List Pt} {S : Int} {L A : Nat} {p : Pt} (h : POk l S L A) (hp : okP p) : POk (pushP l p) (S + p.n) (L + 1) (A + p.t.size) := by
  have hs := okP_some hp
  have h0 := okP_nn hp
  obtain ⟨h1, h2, h3, h4⟩ := h
  rcases snoc_cases l with rfl | ⟨r, q, rfl⟩
  · rw [pushP_nil hs]
    exact ⟨by simpa using hp, by simp [sumL] at h2 ⊢; omega, by simp, by simp [textL]⟩
  · have hq := h1 q (by simp)
    have hr : ∀ x ∈ r, okP x := fun x hx => h1 x (by simp [hx])
    simp only [sumL_append, textL_append, List.length_append, sumL, textL, List.length_cons, List.length_nil] at h2 h3 h4
    by_cases e : q.k = p.k
    · rw [pushP_same hs e]
      refine ⟨?_, ?_, ?_, ?_⟩
      · intro x hx
        rcases List.mem_append.1 hx with hx | hx
        · exact hr x hx
        · rw [List.mem_singleton] at hx; subst hx; exact okP_same hq hp e
      · simp only [sumL_append, sumL]; omega
      · simp; omega
      · simp only [textL_append, textL, ByteArray.size_append]; omega
    · by_cases e2 : p.k ≠ 2 ∨ q.k ≠ 3
      · rw [pushP_snoc hs e e2]
        refine ⟨?_, ?_, ?_, ?_⟩
        · intro x hx
          rcases List.mem_append.1 hx with hx | hx
          · exact h1 x hx
          · rw [List.mem_singleton] at hx; subst hx; exact hp
        · simp only [sumL_append, sumL]; omega
        · simp; omega
        · simp only [textL_append, textL]; omega
      · have e3 : p.k = 2 := Decidable.byContradiction fun x => e2 (Or.inl x)
        have e4 : q.k = 3 := Decidable.byContradiction fun x => e2 (Or.inr x)
        have hpn : p.n = 0 := by rcases hp with ⟨a, _, _⟩ | ⟨_, b, _⟩ <;> omega
        rcases snoc_cases r with rfl | ⟨r, q2, rfl⟩
        · simp only [List.nil_append]
          rw [pushP_swap1 hs e3 e4]
          refine ⟨?_, ?_, ?_, ?_⟩
          · intro x hx
            simp only [List.mem_cons, List.not_mem_nil, or_false] at hx
            rcases hx with hx | hx <;> subst hx <;> assumption
          · simp only [sumL] at h2 ⊢; omega
          · simp at h3 ⊢; omega
          · simp only [textL] at h4 ⊢; omega
        · have hq2 := hr q2 (by simp)
          have hr' : ∀ x ∈ r, okP x := fun x hx => hr x (by simp [hx])
          simp only [sumL_append, textL_append, List.length_append, sumL, textL, List.length_cons, List.length_nil] at h2 h3 h4
          rw [show r ++ [q2] ++ [q] = r ++ [q2, q] by simp]
          by_cases e5 : q2.k = 2
          · rw [pushP_swap2 hs e3 e4 e5]
            refine ⟨?_, ?_, ?_, ?_⟩
            · intro x hx
              simp only [List.mem_append, List.mem_cons, List.not_mem_nil, or_false] at hx
              rcases hx with hx | hx | hx
              · exact hr' x hx
              · subst hx
                have := okP_same hq2 hp (by omega)
                rw [hpn, Int.add_zero] at this; exact this
              · subst hx; exact hq
            · simp only [sumL_append, sumL]; omega
            · simp; omega
            · simp only [textL_append, textL, ByteArray.size_append]; omega
          · rw [pushP_swap3 hs e3 e4 e5]
            refine ⟨?_, ?_, ?_, ?_⟩
            · intro x hx
              simp only [List.mem_append, List.mem_cons, List.not_mem_nil, or_false] at hx
              rcases hx with (hx | hx) | hx | hx
              · exact hr' x hx
              · subst hx; exact hq2
              · subst hx; exact hp
              · subst hx; exact hq
            · simp only [sumL_append, sumL]; omega
            · simp; omega
            · simp only [textL_append, textL]; omega

theorem sumL_mem {l : List Pt} (h : ∀ q ∈ l, 0 ≤ q.n) {q : Pt} (hq : q ∈ l) : q.n ≤ sumL l := by
  induction l with
  | nil => cases hq
  | cons p r ih =>
    have h1 := h p (by simp)
    have h2 := sumL_nn (fun x hx => h x (List.mem_cons_of_mem _ hx))
    simp only [sumL]
    rcases List.mem_cons.1 hq with rfl | hq
    · omega
    · have := ih (fun x hx => h x (List.mem_cons_of_mem _ hx)) hq; omega
theorem textL_mem {l : List Pt} {q : Pt} (hq : q ∈ l) : q.t.size ≤ textL l := by
  induction l with
  | nil => cases hq
  | cons p r ih =>
    simp only [textL]
    rcases List.mem_cons.1 hq with rfl | hq
    · omega
    · have := ih hq; omega

theorem push_any {base : Nat} (w : World) (v : Value) (l : List Pt) (p : Pt) (S : Int) (L A : Nat) (hb : base ≤ w.heap.size) (O : Own w base v l) (hp : okP p) (h : POk l S L A) (hS : S + p.n ≤ 9223372036854775807) (hL : L ≤ 100000000) (hA : A + p.t.size ≤ 100000000) :
    Calls Tryd.prog 33 #[v, .agg #[.int .i64 p.k, .int .i64 p.n, .string p.t]] w fun e w' => ∃ v', e = .returned v' ∧ Own w' base v' (pushP l p) ∧ Grow v v' w w' := by
  have hs := okP_some hp
  have h0 := okP_nn hp
  have hnn : ∀ q ∈ l, 0 ≤ q.n := fun q hq => okP_nn (h.ok q hq)
  have h2 := h.sum
  have h3 := h.len
  have h4 := h.txt
  rcases snoc_cases l with rfl | ⟨r, q, rfl⟩
  · rw [pushP_nil hs]; exact push_nil w v p hb O hs
  · have hqn := sumL_mem hnn (q := q) (by simp)
    have hqt := textL_mem (l := r ++ [q]) (q := q) (by simp)
    have hrl : r.length ≤ 100000000 := by simp at h3; omega
    by_cases e : q.k = p.k
    · rw [pushP_same hs e]
      exact push_same w v r q p hb O hs e hrl (hnn q (by simp)) h0 (by omega) (by omega)
    · by_cases e2 : p.k = 2
      · obtain ⟨pk, pn, pt⟩ := p
        simp only at e2
        subst e2
        by_cases e3 : q.k = 3
        · obtain ⟨qk, qn, qt⟩ := q
          simp only at e3
          subst e3
          rcases snoc_cases r with rfl | ⟨r, q2, rfl⟩
          · simp only [List.nil_append] at O ⊢
            rw [pushP_swap1 hs rfl rfl]
            exact push_swap1 w v qn pn qt pt hb O hs
          · have hrl' : r.length ≤ 100000000 := by simp at hrl; omega
            by_cases e4 : q2.k = 2
            · have hq2 := textL_mem (l := r ++ [q2] ++ [⟨3, qn, qt⟩]) (q := q2) (by simp)
              obtain ⟨ak, an, at'⟩ := q2
              simp only at e4
              subst e4
              have hh := push_swap2 w v r an at' qn pn qt pt hb O hrl' hs (by simp only at hA hq2; omega)
              rw [show r ++ [(⟨2, an, at'⟩ : Pt)] ++ [⟨3, qn, qt⟩] = r ++ [⟨2, an, at'⟩, ⟨3, qn, qt⟩] by simp, pushP_swap2 (q2 := ⟨2, an, at'⟩) (q := ⟨3, qn, qt⟩) hs rfl rfl rfl]
              rw [show r ++ [(⟨2, an, at' ++ pt⟩ : Pt)] ++ [⟨3, qn, qt⟩] = r ++ [⟨2, an, at' ++ pt⟩, ⟨3, qn, qt⟩] by simp] at hh
              exact hh
            · have hh := push_swap3 w v r q2 qn pn qt pt hb O (by simp [e4]) hrl' hs
              rw [show r ++ [q2] ++ [(⟨3, qn, qt⟩ : Pt)] = r ++ [q2, ⟨3, qn, qt⟩] by simp, pushP_swap3 (q := ⟨3, qn, qt⟩) hs rfl rfl e4]
              rw [show r ++ [q2] ++ [(⟨2, pn, pt⟩ : Pt)] ++ [⟨3, qn, qt⟩] = r ++ [q2] ++ [⟨2, pn, pt⟩, ⟨3, qn, qt⟩] by simp] at hh
              exact hh
        · rw [pushP_snoc hs e (Or.inr e3)]
          exact push_snocB w v r q pn pt hb O hs e (by simp [e3]) hrl
      · rw [pushP_snoc hs e (Or.inl e2)]
        exact push_snocA w v r q p hb O hs e (by simp [e2]) hrl
end Go.Proofs.YtdlolnahbgecjaaDoor
