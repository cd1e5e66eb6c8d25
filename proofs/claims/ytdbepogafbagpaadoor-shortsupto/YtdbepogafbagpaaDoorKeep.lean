import Derived.Test.YtdbepogafbagpaaDoorSettle
namespace Go.Proofs.YtdbepogafbagpaaDoor
open Go.RowKit
set_option linter.unusedVariables false

theorem cells_last (r : List Pt) (q : Pt) (n : Int) : (cellsOf (r ++ [q])).set (r.length * 3 + 1) (.int .i64 n) = cellsOf (r ++ [⟨q.k, n, q.t⟩]) := by
  rw [cellsOf_append, cellsOf_append, List.set_append, if_neg (by rw [cellsOf_length]; omega), cellsOf_length]
  congr 1
  rw [show r.length * 3 + 1 - r.length * 3 = 1 by omega]
  rfl
theorem nth_last (r : List Pt) (q : Pt) : nth (r ++ [q]) r.length = q := by simp [nth]

theorem row_slice {w : World} {base n : Nat} {v : Value} {xs : List Value} (h : w.ownsRow base 61 3 v n xs) : ∃ ao cap, v = .slice ao n cap := by
  rcases h.2 with ⟨hv, h0⟩ | ⟨g, cap, cur, hv, _⟩
  · exact ⟨none, 0, by rw [hv, h0]⟩
  · exact ⟨_, _, hv⟩
/-- the row of a list that is not empty -/
theorem own_snoc {w : World} {base : Nat} {v : Value} {r : List Pt} {q : Pt} (h : w.ownsRow base 61 3 v (r ++ [q]).length (cellsOf (r ++ [q]))) : ∃ g cap, v = .slice (some ⟨g, 0, none⟩) (r.length + 1) cap ∧ base ≤ g ∧ g < w.heap.size ∧
    w.cell? ⟨g, r.length * 3, none⟩ = some (.int .i64 q.k) ∧ w.cell? ⟨g, r.length * 3 + 1, none⟩ = some (.int .i64 q.n) ∧ w.cell? ⟨g, r.length * 3 + 2, none⟩ = some (.string q.t) ∧ ∀ j, w.frozen? ⟨g, j, none⟩ = false := by
  have hl : (r ++ [q]).length = r.length + 1 := by simp
  rcases h.2 with ⟨_, h0⟩ | ⟨g, cap, cur, rfl, hb, hg, _⟩
  · omega
  · have ha := h
    rw [hl] at ha ⊢
    have hc := cellsOf_get (r ++ [q]) r.length (by omega)
    rw [nth_last] at hc
    exact ⟨g, cap, rfl, hb, (Array.getElem?_eq_some_iff.1 hg).1, (ha.cellAt _ (by omega)).trans hc.1, (ha.cellAt _ (by omega)).trans hc.2.1, (ha.cellAt _ (by omega)).trans hc.2.2, ha.frozenAt⟩

set_option maxRecDepth 100000 in
set_option maxHeartbeats 4000000 in
theorem keep_any (base wb : Nat) (w : World) (s : WS) (outv p bufv : Value) (n : Int) (W : Wt base wb w s outv p bufv) (hd : 0 ≤ s.drop) (hl : s.out.length ≤ 100000000) (hn : 0 ≤ n) (hsum : ∀ r q, settleP s = r ++ [q] → q.k = 1 → 0 ≤ q.n ∧ q.n + n ≤ 9223372036854775807) :
    Calls Tryd.prog 63 #[.pointer (some ⟨wb, 0, none⟩), .int .i64 n] w fun e w' => e = .returned (.tuple #[]) ∧ ∃ outv' p' bufv', Wt base wb w' (keepP s n) outv' p' bufv' ∧ Fr base [107, 61, 5] w w' := by
  obtain ⟨i0, hi0, hz0, hz1, hz2⟩ := info_parts Tryd.info61
  have HS : Hid (Calls Tryd.prog 65 #[.pointer (some ⟨wb, 0, none⟩)] w fun e w' => e = .returned (.tuple #[]) ∧ ∃ outv' p' bufv', Wt base wb w' ⟨settleP s, ⟨#[]⟩, 0⟩ outv' p' bufv' ∧ Fr base [107, 61, 5] w w') := settle_any base wb w s outv p bufv W hd hl
  have hll : (settleP s).length ≤ 100000002 := by
    rw [settle_parts, List.length_append, List.length_append]; unfold addPart dropPart; split <;> split <;> simp <;> omega
  have hbb := W.bb
  have hkp : keepP s n = ⟨keepL (settleP s) n, ⟨#[]⟩, 0⟩ := rfl
  rw [hkp]
  have HBW := W.bw
  clear W hkp
  generalize settleP s = L at *
  rcases snoc_cases L with hL | ⟨r, q, hL⟩
  · subst hL
    rw [keepL_nil]
    clear hsum
    go_enter Tryd.func63, Tryd.ntmps63
    go_wp2_with (go_at_call 65; refine HS.out.mono ?_)
    rintro e w1 ⟨rfl, outv1, p1, bufv1, W1, F1⟩
    obtain ⟨ao, cap, hov⟩ := row_slice W1.out
    subst hov
    have HW1 : Hid (Wt base wb w1 ⟨[], ⟨#[]⟩, 0⟩ (.slice ao 0 cap) p1 bufv1) := W1
    have HF1 : Hid (Fr base [107, 61, 5] w w1) := F1
    have HB1 : Hid (Blk w1 wb #[.slice ao 0 cap, p1, bufv1, .int .i64 0] 107) := W1.blk
    have HO1 : Hid (w1.ownsRow base 61 3 (.slice ao 0 cap) 0 (cellsOf [])) := W1.out
    have d0 : w1.cell? ⟨wb, 0, none⟩ = some (.slice ao 0 cap) := W1.blk.cell 0 rfl
    have hfar := own_ne W1.out W1.blk (by decide)
    have hbc := W1.bw
    have hwc := W1.blk.lt
    clear W1 F1
    go_wp2_with (at_builtin; refine wpList_append_lies _ rfl _ _ _ rfl base 61 i0 _ 3 32 Tryd.underlying26 hi0 hz0 hz1 hz2 rfl (by omega) _ 0 (cellsOf []) rfl (HO1.out.alloc _) ⟨w1.heap.size, 0, none⟩ 1 1 [.int .i64 1, .int .i64 n, .string ⟨#[]⟩] rfl rfl (World.news_of_block (cs := #[.int .i64 1, .int .i64 n, .string ⟨#[]⟩]) (t := 61) (fr := (0, 0)) (heap_alloc_new w1 _)) (by simp [Value.oneCell']) (by omega) (by unfold maxLen; omega) (by omega) (by simp; omega) (w1.heap.size + 1) (by simp) ?_)
    intro gg cap2 w2 hown2 hgrow hat hlt'
    have HB2 : Hid (Blk w2 wb #[.slice ao 0 cap, p1, bufv1, .int .i64 0] 107) := (hgrow.block wb (by simp; omega) (fun e => hfar e.symm)).trans (HB1.out.alloc _)
    have e0 : w2.cell? ⟨wb, 0, none⟩ = some (.slice ao 0 cap) := HB2.out.cell 0 rfl
    have f0 := HB2.out.free 0
    have hw3 := wr_set w2 wb 0 (.slice (some ⟨gg, 0, none⟩) (0 + 1) cap2)
    have HB3 : Hid (Blk (w2.setCell ⟨wb, 0, none⟩ (.slice (some ⟨gg, 0, none⟩) (0 + 1) cap2)) wb #[.slice (some ⟨gg, 0, none⟩) (0 + 1) cap2, p1, bufv1, .int .i64 0] 107) := HB2.out.set 0 _
    have HO3 : Hid ((w2.setCell ⟨wb, 0, none⟩ (.slice (some ⟨gg, 0, none⟩) (0 + 1) cap2)).ownsRow base 61 3 (.slice (some ⟨gg, 0, none⟩) (0 + 1) cap2) ([] ++ [(⟨1, n, ⟨#[]⟩⟩ : Pt)]).length (cellsOf ([] ++ [(⟨1, n, ⟨#[]⟩⟩ : Pt)]))) := ownsRow_wr (by have h := owns_snoc (n := 0) (out := []) ⟨1, n, ⟨#[]⟩⟩ (by simpa using hown2); exact h) hw3 (fun k hk (e : k = wb) => own_ne hown2 HB2.out (by decide) (by rw [hk, e]))
    have HF3 : Hid (Fr base [107, 61, 5] w (w2.setCell ⟨wb, 0, none⟩ (.slice (some ⟨gg, 0, none⟩) (0 + 1) cap2))) := by
      have f2 : Fr base [107, 61, 5] w1 (w1.alloc (.cells #[.int .i64 1, .int .i64 n, .string ⟨#[]⟩] 61)) := Fr.here ((Below.refl _ _).alloc (Nat.le_refl _) _)
      have f3 := fr_grown (ts := [107, 61, 5]) (HO1.out.alloc (.cells #[.int .i64 1, .int .i64 n, .string ⟨#[]⟩] 61)) (by simp) hgrow
      exact ((HF1.out.trans f2).trans f3).trans (fr_blk HB2.out (by simp) hbb hw3)
    have HBuf : Hid ((w2.setCell ⟨wb, 0, none⟩ (.slice (some ⟨gg, 0, none⟩) (0 + 1) cap2)).ownsRow base 5 1 bufv1 0 []) := by
      have h1 : w2.ownsRow base 5 1 bufv1 0 [] := ownsRow_wr (HW1.out.buf.alloc _) (Wr.grown (S := fun k => some k = (Value.slice ao 0 cap).ownBlock) hgrow (fun k hk => hk.symm)) (fun k hk h => own_apart HW1.out.buf HW1.out.out (by decide) k hk h.symm)
      exact ownsRow_wr h1 hw3 (fun k hk (e : k = wb) => own_ne HW1.out.buf HW1.out.blk (by decide) (by rw [hk, e]))
    clear hown2 hgrow hat d0 hw3
    go_wp2
    go_end0
    exact ⟨rfl, _, p1, bufv1, ⟨HB3.out, HW1.out.p, HO3.out, HBuf.out, hbb, Nat.le_trans HBW HF3.out.size⟩, HF3.out⟩
  · subst hL
    have hrl : r.length ≤ 100000002 := by simp at hll; omega
    by_cases hq : q.k = 1
    · rw [keepL_same hq]
      obtain ⟨hq0, hq1⟩ := hsum r q rfl hq
      have hqb : (q.k == 1) = true := by simp [hq]
      clear hsum hq
      go_enter Tryd.func63, Tryd.ntmps63
      go_wp2_with (go_at_call 65; refine HS.out.mono ?_)
      rintro e w1 ⟨rfl, outv1, p1, bufv1, W1, F1⟩
      obtain ⟨g, cap, hov, hgb, hgl, c0, c1, c2, cf⟩ := own_snoc W1.out
      subst hov
      have HW1 : Hid (Wt base wb w1 ⟨r ++ [q], ⟨#[]⟩, 0⟩ (.slice (some ⟨g, 0, none⟩) (r.length + 1) cap) p1 bufv1) := W1
      have HF1 : Hid (Fr base [107, 61, 5] w w1) := F1
      have d0 : w1.cell? ⟨wb, 0, none⟩ = some (.slice (some ⟨g, 0, none⟩) (r.length + 1) cap) := W1.blk.cell 0 rfl
      have hne : g ≠ wb := fun e => own_ne W1.out W1.blk (by decide) (by rw [e]; rfl)
      have HO1 : Hid (w1.ownsRow base 61 3 (.slice (some ⟨g, 0, none⟩) (r.length + 1) cap) (r.length + 1) (cellsOf (r ++ [q]))) := by have h := W1.out; rw [show (r ++ [q]).length = r.length + 1 by simp] at h; exact h
      obtain ⟨hst, hgr⟩ := HO1.out.stored (r.length * 3 + 1) (.int .i64 (q.n + n))
      rw [cells_last] at hst
      have hwg : Wr (fun k => some k = (Value.slice (some ⟨g, 0, none⟩) (r.length + 1) cap).ownBlock) w1 (w1.setCell ⟨g, r.length * 3 + 1, none⟩ (.int .i64 (q.n + n))) := Wr.grown hgr (fun k hk => hk.symm)
      have HW2 : Hid (Wt base wb (w1.setCell ⟨g, r.length * 3 + 1, none⟩ (.int .i64 (q.n + n))) ⟨r ++ [⟨q.k, q.n + n, q.t⟩], ⟨#[]⟩, 0⟩ (.slice (some ⟨g, 0, none⟩) (r.length + 1) cap) p1 bufv1) :=
        ⟨W1.blk.wr hwg (fun h => own_ne W1.out W1.blk (by decide) h.symm), W1.p, by show World.ownsRow _ base 61 3 _ (r ++ [_]).length _; rw [show (r ++ [(⟨q.k, q.n + n, q.t⟩ : Pt)]).length = r.length + 1 by simp]; exact hst, ownsRow_wr W1.buf hwg (fun k hk h => own_apart W1.buf W1.out (by decide) k hk h.symm), W1.bb, Nat.le_trans W1.bw hwg.size⟩
      have HF2 : Hid (Fr base [107, 61, 5] w (w1.setCell ⟨g, r.length * 3 + 1, none⟩ (.int .i64 (q.n + n)))) := F1.trans (fr_own W1.out (by simp) hwg)
      clear W1 F1 hst hgr hwg
      go_wp2
      exact bodyPost_ret (v := .tuple #[]) (by simp [results, Tryd.results63, go_sem]) rfl ⟨rfl, _, p1, bufv1, HW2.out, HF2.out⟩
    · rw [keepL_snoc hq]
      have hqb : (q.k == 1) = false := by simp [hq]
      clear hsum hq
      go_enter Tryd.func63, Tryd.ntmps63
      go_wp2_with (go_at_call 65; refine HS.out.mono ?_)
      rintro e w1 ⟨rfl, outv1, p1, bufv1, W1, F1⟩
      obtain ⟨g, cap, hov, hgb, hgl, c0, c1, c2, cf⟩ := own_snoc W1.out
      subst hov
      have HW1 : Hid (Wt base wb w1 ⟨r ++ [q], ⟨#[]⟩, 0⟩ (.slice (some ⟨g, 0, none⟩) (r.length + 1) cap) p1 bufv1) := W1
      have HF1 : Hid (Fr base [107, 61, 5] w w1) := F1
      have HB1 : Hid (Blk w1 wb #[.slice (some ⟨g, 0, none⟩) (r.length + 1) cap, p1, bufv1, .int .i64 0] 107) := W1.blk
      have d0 : w1.cell? ⟨wb, 0, none⟩ = some (.slice (some ⟨g, 0, none⟩) (r.length + 1) cap) := W1.blk.cell 0 rfl
      have HO1 : Hid (w1.ownsRow base 61 3 (.slice (some ⟨g, 0, none⟩) (r.length + 1) cap) (r.length + 1) (cellsOf (r ++ [q]))) := by have h := W1.out; rw [show (r ++ [q]).length = r.length + 1 by simp] at h; exact h
      have hfar := own_ne W1.out W1.blk (by decide)
      have hbc := W1.bw
      have hwc := W1.blk.lt
      clear W1 F1 hgb hgl
      go_wp2_with (at_builtin; refine wpList_append_lies _ rfl _ _ _ rfl base 61 i0 _ 3 32 Tryd.underlying26 hi0 hz0 hz1 hz2 rfl (by omega) _ (r.length + 1) (cellsOf (r ++ [q])) rfl (HO1.out.alloc _) ⟨w1.heap.size, 0, none⟩ 1 1 [.int .i64 1, .int .i64 n, .string ⟨#[]⟩] rfl rfl (World.news_of_block (cs := #[.int .i64 1, .int .i64 n, .string ⟨#[]⟩]) (t := 61) (fr := (0, 0)) (heap_alloc_new w1 _)) (by simp [Value.oneCell']) (by omega) (by unfold maxLen; omega) (by omega) (by simp; omega) (w1.heap.size + 1) (by simp) ?_)
      intro gg cap2 w2 hown2 hgrow hat hlt'
      have HB2 : Hid (Blk w2 wb #[.slice (some ⟨g, 0, none⟩) (r.length + 1) cap, p1, bufv1, .int .i64 0] 107) := (hgrow.block wb (by simp; omega) (fun e => hfar e.symm)).trans (HB1.out.alloc _)
      have e0 : w2.cell? ⟨wb, 0, none⟩ = some (.slice (some ⟨g, 0, none⟩) (r.length + 1) cap) := HB2.out.cell 0 rfl
      have f0 := HB2.out.free 0
      have hw3 := wr_set w2 wb 0 (.slice (some ⟨gg, 0, none⟩) ((r.length + 1) + 1) cap2)
      have HB3 : Hid (Blk (w2.setCell ⟨wb, 0, none⟩ (.slice (some ⟨gg, 0, none⟩) ((r.length + 1) + 1) cap2)) wb #[.slice (some ⟨gg, 0, none⟩) ((r.length + 1) + 1) cap2, p1, bufv1, .int .i64 0] 107) := HB2.out.set 0 _
      have HO3 : Hid ((w2.setCell ⟨wb, 0, none⟩ (.slice (some ⟨gg, 0, none⟩) ((r.length + 1) + 1) cap2)).ownsRow base 61 3 (.slice (some ⟨gg, 0, none⟩) ((r.length + 1) + 1) cap2) ((r ++ [q]) ++ [(⟨1, n, ⟨#[]⟩⟩ : Pt)]).length (cellsOf ((r ++ [q]) ++ [(⟨1, n, ⟨#[]⟩⟩ : Pt)]))) := ownsRow_wr (by have h := owns_snoc (n := 0) (out := (r ++ [q])) ⟨1, n, ⟨#[]⟩⟩ (by simpa using hown2); exact h) hw3 (fun k hk (e : k = wb) => own_ne hown2 HB2.out (by decide) (by rw [hk, e]))
      have HF3 : Hid (Fr base [107, 61, 5] w (w2.setCell ⟨wb, 0, none⟩ (.slice (some ⟨gg, 0, none⟩) ((r.length + 1) + 1) cap2))) := by
        have f2 : Fr base [107, 61, 5] w1 (w1.alloc (.cells #[.int .i64 1, .int .i64 n, .string ⟨#[]⟩] 61)) := Fr.here ((Below.refl _ _).alloc (Nat.le_refl _) _)
        have f3 := fr_grown (ts := [107, 61, 5]) (HO1.out.alloc (.cells #[.int .i64 1, .int .i64 n, .string ⟨#[]⟩] 61)) (by simp) hgrow
        exact ((HF1.out.trans f2).trans f3).trans (fr_blk HB2.out (by simp) hbb hw3)
      have HBuf : Hid ((w2.setCell ⟨wb, 0, none⟩ (.slice (some ⟨gg, 0, none⟩) ((r.length + 1) + 1) cap2)).ownsRow base 5 1 bufv1 0 []) := by
        have h1 : w2.ownsRow base 5 1 bufv1 0 [] := ownsRow_wr (HW1.out.buf.alloc _) (Wr.grown (S := fun k => some k = (Value.slice (some ⟨g, 0, none⟩) (r.length + 1) cap).ownBlock) hgrow (fun k hk => hk.symm)) (fun k hk h => own_apart HW1.out.buf HW1.out.out (by decide) k hk h.symm)
        exact ownsRow_wr h1 hw3 (fun k hk (e : k = wb) => own_ne HW1.out.buf HW1.out.blk (by decide) (by rw [hk, e]))
      clear hown2 hgrow hat d0 hw3
      go_wp2
      go_end0
      exact ⟨rfl, _, p1, bufv1, ⟨HB3.out, HW1.out.p, HO3.out, HBuf.out, hbb, Nat.le_trans HBW HF3.out.size⟩, HF3.out⟩
end Go.Proofs.YtdbepogafbagpaaDoor
