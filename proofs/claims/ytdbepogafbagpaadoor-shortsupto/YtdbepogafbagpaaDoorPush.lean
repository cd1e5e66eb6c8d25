import Derived.Test.YtdbepogafbagpaaDoorShort
import Derived.Deep.QuietTactic
import Derived.BigQuiet
import Derived.BigRegion
namespace Go.Proofs.YtdbepogafbagpaaDoor
open Go.RowKit
set_option linter.unusedVariables false

theorem Tryd.info60 : (Tryd.prog.info? 60).map (fun i => (i.zero, i.size, i.bytes)) = some (some (.agg #[.int .i64 0, .int .i64 0, .string ByteArray.empty]), 3, 32) := by kernel_rfl

/-- the slice value v, of the call's own memory, holds the parts l (of the reference) -/
def Own (w : World) (base : Nat) (v : Value) (l : List Pt) : Prop := w.ownsRow base 60 3 v l.length (cellsOf l)
theorem own_snoc60 {w : World} {base : Nat} {v : Value} {r : List Pt} {q : Pt} (h : Own w base v (r ++ [q])) : ∃ g cap, v = .slice (some ⟨g, 0, none⟩) (r.length + 1) cap ∧ base ≤ g ∧ g < w.heap.size ∧
    w.cell? ⟨g, r.length * 3, none⟩ = some (.int .i64 q.k) ∧ w.cell? ⟨g, r.length * 3 + 1, none⟩ = some (.int .i64 q.n) ∧ w.cell? ⟨g, r.length * 3 + 2, none⟩ = some (.string q.t) ∧ (∀ j, w.frozen? ⟨g, j, none⟩ = false) ∧ w.ownsRow base 60 3 (.slice (some ⟨g, 0, none⟩) (r.length + 1) cap) (r.length + 1) (cellsOf (r ++ [q])) := by
  have hl : (r ++ [q]).length = r.length + 1 := by simp
  have h' : w.ownsRow base 60 3 v (r ++ [q]).length (cellsOf (r ++ [q])) := h
  rcases h'.2 with ⟨_, h0⟩ | ⟨g, cap, cur, rfl, hb, hg, _⟩
  · omega
  · have ha := h'
    rw [hl] at ha ⊢
    have hc := cellsOf_get (r ++ [q]) r.length (by omega)
    rw [nth_last] at hc
    exact ⟨g, cap, rfl, hb, (Array.getElem?_eq_some_iff.1 hg).1, (ha.cellAt _ (by omega)).trans hc.1, (ha.cellAt _ (by omega)).trans hc.2.1, (ha.cellAt _ (by omega)).trans hc.2.2, ha.frozenAt, ha⟩
theorem cells_lastT (r : List Pt) (q : Pt) (t : ByteArray) : (cellsOf (r ++ [q])).set (r.length * 3 + 2) (.string t) = cellsOf (r ++ [⟨q.k, q.n, t⟩]) := by
  rw [cellsOf_append, cellsOf_append, List.set_append, if_neg (by rw [cellsOf_length]; omega), cellsOf_length]
  congr 1
  rw [show r.length * 3 + 2 - r.length * 3 = 2 by omega]
  rfl
theorem addS' (a b : ByteArray) (h : a.size + b.size ≤ 100000000) : ∀ w, (Op.stringOp .add a b).run Tryd.prog w = .ok (.string (a ++ b)) w := fun w => run_string_add_sum (w := w) a b (by omega)
theorem Own.of {w : World} {base n : Nat} {v : Value} {l : List Pt} (h : w.ownsRow base 60 3 v n (cellsOf l)) (hn : n = l.length) : Own w base v l := by subst hn; exact h

theorem own_here {w w' : World} {base e size n : Nat} {v : Value} {xs : List Value} (h : w.ownsRow base e size v n xs) (hb : Below w.heap.size w w') : w'.ownsRow base e size v n xs := ownsRow_wr (S := fun _ => False) h (Wr.here hb) (fun _ _ => id)
/-- two stores into the last part of a row -/
theorem own_last {w : World} {base g cap : Nat} {r : List Pt} {q : Pt} (h : w.ownsRow base 60 3 (.slice (some ⟨g, 0, none⟩) (r.length + 1) cap) (r.length + 1) (cellsOf (r ++ [q]))) (n : Int) (t : ByteArray) :
    Own ((w.setCell ⟨g, r.length * 3 + 1, none⟩ (.int .i64 n)).setCell ⟨g, r.length * 3 + 2, none⟩ (.string t)) base (.slice (some ⟨g, 0, none⟩) (r.length + 1) cap) (r ++ [⟨q.k, n, t⟩]) ∧ Fr base [60] w ((w.setCell ⟨g, r.length * 3 + 1, none⟩ (.int .i64 n)).setCell ⟨g, r.length * 3 + 2, none⟩ (.string t)) := by
  obtain ⟨h1, g1⟩ := h.stored (r.length * 3 + 1) (.int .i64 n)
  rw [cells_last] at h1
  obtain ⟨h2, g2⟩ := h1.stored (r.length * 3 + 2) (.string t)
  rw [cells_lastT] at h2
  exact ⟨Own.of h2 (by simp), (fr_grown h (by simp) g1).trans (fr_grown h1 (by simp) g2)⟩

set_option maxRecDepth 100000 in
set_option maxHeartbeats 4000000 in
theorem push_same {base : Nat} (w : World) (v : Value) (r : List Pt) (q p : Pt) (hb : base ≤ w.heap.size) (O : Own w base v (r ++ [q])) (hsp : some' p) (h : q.k = p.k) (hl : r.length ≤ 100000000) (h0 : 0 ≤ q.n) (h1 : 0 ≤ p.n) (hs : q.n + p.n ≤ 9223372036854775807) (ht : q.t.size + p.t.size ≤ 100000000) :
    Calls Tryd.prog 33 #[v, .agg #[.int .i64 p.k, .int .i64 p.n, .string p.t]] w fun e w' => ∃ v', e = .returned v' ∧ Own w' base v' (r ++ [⟨q.k, q.n + p.n, q.t ++ p.t⟩]) ∧ Fr base [60] w w' := by
  obtain ⟨g, cap, rfl, hgb, hgl, c0, c1, c2, cf, hown⟩ := own_snoc60 O
  have hgk : (q.k == p.k) = true := by simp [h]
  have hgne : g ≠ w.heap.size := by omega
  have hz : ((p.n == 0) = false) ∨ ((p.n == 0) = true ∧ p.t.toList.isEmpty = false) := by
    by_cases e : p.n = 0
    · right
      refine ⟨by simp [e], ?_⟩
      by_cases e2 : p.t.toList.isEmpty = true
      · exfalso
        apply hsp
        refine ⟨e, ?_⟩
        rw [List.isEmpty_iff, ByteArray.toList_eq] at e2
        show p.t.data.size = 0
        rw [← Array.length_toList, e2]; rfl
      · simpa using e2
    · left; simp [e]
  have ha := addS' q.t p.t ht
  have HO : Hid (w.ownsRow base 60 3 (.slice (some ⟨g, 0, none⟩) (r.length + 1) cap) (r.length + 1) (cellsOf (r ++ [q]))) := hown
  have HP : Hid (q.k = p.k) := h
  clear O hown hsp h
  have hi0 : (0 : Int) ≤ (r.length : Int) := Int.natCast_nonneg _
  have hi1 : (r.length : Int) < (r.length : Int) + 1 := by omega
  rcases hz with hz | ⟨hz, hz2⟩
  all_goals
    go_enter Tryd.func33, Tryd.ntmps33
    go_wp2
    go_quiet (fail)
    go_wp2
    go_region
    go_wp2
    go_region
    go_wp2
    have hbw : Below w.heap.size w ((w.alloc (.cells #[.int .i64 p.k, .int .i64 p.n, .string p.t] 60)).drewN (nq + 1)) := below_drewN ((Below.refl _ _).alloc (Nat.le_refl _) _) _
    obtain ⟨hO, hF⟩ := own_last (own_here HO.out hbw) (q.n + p.n) (q.t ++ p.t)
    go_ret
    exact ⟨_, rfl, hO.drew, ((Fr.here hbw).trans hF).trans (Fr.here (Below.refl _ _).drew)⟩
end Go.Proofs.YtdbepogafbagpaaDoor
