import Derived.Test.YtdlolnahbgecjaaDoorWtr
import Derived.Deep.RegionLaw
import Derived.Test.YtdlolnahbgecjaaDoorFitsWalk
namespace Go.Proofs.YtdlolnahbgecjaaDoor
open Go.RowKit
set_option linter.unusedVariables false

def addPart (a : ByteArray) : List Pt := if a.size = 0 then [] else [⟨2, 0, a⟩]
def dropPart (d : Int) : List Pt := if d = 0 then [] else [⟨3, d, ⟨#[]⟩⟩]
theorem settle_parts (s : WS) : settleP s = s.out ++ addPart s.add ++ dropPart s.drop := rfl

theorem fr_own {w w' : World} {base e size n : Nat} {v : Value} {xs : List Value} {ts : List TypeId} (h : w.ownsRow base e size v n xs) (he : e ∈ ts) (hw : Wr (fun k => some k = v.ownBlock) w w') : Fr base ts w w' :=
  Fr.of_wr hw (fun k hk => by
    obtain ⟨h1, h2⟩ := own_kind h k hk
    exact ⟨h1, fun o ho => by obtain ⟨cs, t, fr, e', ht⟩ := h2 o ho; exact ⟨cs, t, fr, e', by rw [ht]; exact he⟩⟩)
theorem fr_grown {w w' : World} {base e size n : Nat} {v : Value} {xs : List Value} {ts : List TypeId} (h : w.ownsRow base e size v n xs) (he : e ∈ ts) (hg : w.grownBy w' v.ownBlock) : Fr base ts w w' :=
  fr_own h he (Wr.grown hg (fun k hk => hk.symm))
theorem fr_blk {w w' : World} {base b : Nat} {cs : Array Value} {t : TypeId} {ts : List TypeId} (h : Blk w b cs t) (ht : t ∈ ts) (hb : base ≤ b) (hw : Wr (fun k => k = b) w w') : Fr base ts w w' :=
  Fr.of_wr hw (by
    rintro k rfl
    exact ⟨hb, fun o ho => by obtain ⟨cs, t', fr, e, ht'⟩ := blk_kind h o ho; exact ⟨cs, t', fr, e, by rw [ht']; exact ht⟩⟩)
theorem wr_set (w : World) (b i : Nat) (u : Value) : Wr (fun k => k = b) w (w.setCell ⟨b, i, none⟩ u) := (Wr.refl (fun k => k = b) w).set (Or.inl rfl) i u

/-- what a writer's row holds behind an append of one part -/
theorem owns_snoc {w : World} {base n : Nat} {v : Value} {out : List Pt} (q : Pt) (h : w.ownsRow base 61 3 v (out.length + 1) (cellsOf out ++ [.int .i64 q.k, .int .i64 q.n, .string q.t])) : w.ownsRow base 61 3 v (out ++ [q]).length (cellsOf (out ++ [q])) := by
  rw [List.length_append, cellsOf_append]; exact h

theorem buf_slice {w : World} {base n : Nat} {v : Value} {xs : List Value} (h : w.ownsRow base 5 1 v n xs) : ∃ ao cap, v = .slice ao n cap := by
  rcases h.2 with ⟨hv, h0⟩ | ⟨g, cap, cur, hv, _⟩
  · exact ⟨none, 0, by rw [hv, h0]⟩
  · exact ⟨_, _, hv⟩

set_option maxRecDepth 100000 in
set_option maxHeartbeats 4000000 in
theorem settle_any (base wb : Nat) (w : World) (s : WS) (outv p bufv : Value) (W : Wt base wb w s outv p bufv) (hd : 0 ≤ s.drop) (hl : s.out.length ≤ 100000000) :
    Calls Tryd.prog 65 #[.pointer (some ⟨wb, 0, none⟩)] w fun e w' => e = .returned (.tuple #[]) ∧ ∃ outv' p' bufv', Wt base wb w' ⟨settleP s, ⟨#[]⟩, 0⟩ outv' p' bufv' ∧ Fr base [107, 61, 5] w w' := by
  obtain ⟨i0, hi0, hz0, hz1, hz2⟩ := info_parts Tryd.info61
  obtain ⟨ao, cap, hbv⟩ := buf_slice W.buf
  subst hbv
  have c0 : w.cell? ⟨wb, 0, none⟩ = some outv := W.blk.cell 0 rfl
  have hbw := W.bw
  have hwl := W.blk.lt
  have HW : Hid (Wt base wb w s outv p (.slice ao s.add.size cap)) := W
  clear W
  go_enter Tryd.func65, Tryd.ntmps65
  go_upto_if 6 with (go_at_call 75; refine (len_any wb 1 107 #[outv, p, .slice ao s.add.size cap, .int .i64 s.drop] ao s.add.size cap w HW.out.blk rfl).mono ?_; rintro e w' ⟨rfl, hww⟩; obtain rfl := hww.symm)
  go_cut [7] (fun u wx => ∃ outv' p' bufv', Wt base wb wx ⟨s.out ++ addPart s.add, ⟨#[]⟩, s.drop⟩ outv' p' bufv' ∧ Fr base [107, 61, 5] w wx)
  case first =>
    by_cases ha : s.add.size = 0
    · have ha' : ((s.add.size : Nat) : Int) ≤ 0 := by omega
      have fin : Hid (Wt base wb w ⟨s.out ++ addPart s.add, ⟨#[]⟩, s.drop⟩ outv p (.slice ao s.add.size cap)) := by
        have h := HW.out
        have e : s.add = ⟨#[]⟩ := empty_of ha
        refine ⟨h.blk, h.p, ?_, ?_, h.bb, h.bw⟩
        · show w.ownsRow base 61 3 outv (s.out ++ addPart s.add).length (cellsOf (s.out ++ addPart s.add))
          rw [show addPart s.add = [] by unfold addPart; rw [if_pos ha], List.append_nil]; exact h.out
        · have := h.buf; rw [e] at this ⊢; exact this
      clear ha
      go_wp2
      go_meet
      case rel => exact ⟨outv, p, _, fin.out, Fr.refl _ _ _⟩
    · have ha' : 0 < ((s.add.size : Nat) : Int) := by omega
      have hap : addPart s.add = [⟨2, 0, s.add⟩] := by unfold addPart; rw [if_neg ha]
      have HAP : Hid (addPart s.add = [⟨2, 0, s.add⟩]) := hap
      have hpos : 0 < s.add.size := by omega
      have hfar := own_ne HW.out.out HW.out.blk (by decide)
      clear hap ha
      go_wp2_with fail
      go_region_law
        (first | ((refine step_append_lies _ (by rfl) _ _ _ (by rfl) base 61 i0 _ 3 32 Tryd.underlying26 hi0 hz0 hz1 hz2 rfl (by omega) outv s.out.length (cellsOf s.out) (by rfl) (HO1.out.alloc _) ⟨w1.heap.size, 0, none⟩ 1 1 [.int .i64 2, .int .i64 0, .string s.add] (by rfl) (by rfl) (World.news_of_block (cs := #[.int .i64 2, .int .i64 0, .string s.add]) (t := 61) (fr := (0, 0)) (heap_alloc_new w1 _)) (by simp [Value.oneCell']) (by omega) (by unfold maxLen; omega) (by omega) (by simp; omega) (w1.heap.size + 1) (by simp) ?_; intro gg cap2 w2 hown2 hgrow hat hlt'; have HB2 : Hid (Blk w2 wb #[outv, p, .slice ao s.add.size cap, .int .i64 s.drop] 107) := (hgrow.block wb (by simp; omega) (fun e => hfar e.symm)).trans (HB1.out.alloc _); have e0 : w2.cell? ⟨wb, 0, none⟩ = some outv := HB2.out.cell 0 rfl; have f0 := HB2.out.free 0)) | (go_simp; go_at_call 46; refine (string_at wb 1 107 base #[outv, p, .slice ao s.add.size cap, .int .i64 s.drop] (.slice ao s.add.size cap) s.add w.drew HW.out.blk.drew rfl (by exact HW.out.buf.drew) hpos).mono ?_; rintro e w1 ⟨rfl, hW1⟩; have HB1 : Hid (Blk w1 wb #[outv, p, .slice ao s.add.size cap, .int .i64 s.drop] 107) := HW.out.blk.drew.wr hW1 (fun h => own_ne HW.out.buf HW.out.blk (by decide) h.symm); have HO1 : Hid (w1.ownsRow base 61 3 outv s.out.length (cellsOf s.out)) := ownsRow_wr HW.out.out.drew hW1 (fun k hk h => own_apart HW.out.out HW.out.buf (by decide) k hk h.symm); have d0 : w1.cell? ⟨wb, 0, none⟩ = some outv := HB1.out.cell 0 rfl; have hs1 : w.heap.size ≤ w1.heap.size := hW1.size; have hl1 := HB1.out.lt))
      all_goals
        have HB3 : Hid (Blk (w2.setCell ⟨wb, 0, none⟩ (.slice (some ⟨gg, 0, none⟩) (s.out.length + 1) cap2)) wb #[.slice (some ⟨gg, 0, none⟩) (s.out.length + 1) cap2, p, .slice ao s.add.size cap, .int .i64 s.drop] 107) := HB2.out.set 0 _
        have HO3 : Hid ((w2.setCell ⟨wb, 0, none⟩ (.slice (some ⟨gg, 0, none⟩) (s.out.length + 1) cap2)).ownsRow base 61 3 (.slice (some ⟨gg, 0, none⟩) (s.out.length + 1) cap2) (s.out ++ [(⟨2, 0, s.add⟩ : Pt)]).length (cellsOf (s.out ++ [(⟨2, 0, s.add⟩ : Pt)]))) := ownsRow_setCell_other (owns_snoc (n := 0) ⟨2, 0, s.add⟩ hown2) (own_ne hown2 HB2.out (by decide)) _
        have HF3 : Hid (Fr base [107, 61, 5] w (w2.setCell ⟨wb, 0, none⟩ (.slice (some ⟨gg, 0, none⟩) (s.out.length + 1) cap2))) := by
          have f1 : Fr base [107, 61, 5] w w1 := (Fr.here (Below.refl _ _).drew).trans (fr_own (w := w.drew) HW.out.buf.drew (by simp) hW1)
          have f2 : Fr base [107, 61, 5] w1 (w1.alloc (.cells #[.int .i64 2, .int .i64 0, .string s.add] 61)) := Fr.here ((Below.refl _ _).alloc (Nat.le_refl _) _)
          have f3 := fr_grown (ts := [107, 61, 5]) (HO1.out.alloc (.cells #[.int .i64 2, .int .i64 0, .string s.add] 61)) (by simp) hgrow
          exact ((f1.trans f2).trans f3).trans (fr_blk HB2.out (by simp) HW.out.bb (wr_set w2 wb 0 _))
        clear hown2 hgrow hat hW1 d0 e0 f0
        go_wp2_with (go_at_call 76; refine (reset_any wb 1 107 #[.slice (some ⟨gg, 0, none⟩) (s.out.length + 1) cap2, p, .slice ao s.add.size cap, .int .i64 s.drop] p ao s.add.size cap _ HB3.out rfl HW.out.p rfl).mono ?_; rintro e w4 ⟨rfl, hB4, hW4⟩)
        go_meet
        case rel =>
          refine ⟨.slice (some ⟨gg, 0, none⟩) (s.out.length + 1) cap2, .pointer none, .slice none 0 0, ⟨hB4, Or.inl rfl, ?_, World.ownsRow_nil _ _ _ _, HW.out.bb, Nat.le_trans HW.out.bw (Nat.le_trans HF3.out.size hW4.size)⟩, HF3.out.trans (fr_blk HB3.out (by simp) HW.out.bb hW4)⟩
          show w4.ownsRow base 61 3 _ (s.out ++ addPart s.add).length (cellsOf (s.out ++ addPart s.add))
          rw [HAP.out]
          exact ownsRow_wr HO3.out hW4 (fun k hk (e : k = wb) => own_ne HO3.out HB3.out (by decide) (by rw [hk, e]))
  case rest =>
    obtain ⟨outv1, p1, bufv1, W1, F1⟩ := hcut
    have HW1 : Hid (Wt base wb wc ⟨s.out ++ addPart s.add, ⟨#[]⟩, s.drop⟩ outv1 p1 bufv1) := W1
    have HF1 : Hid (Fr base [107, 61, 5] w wc) := F1
    have d0 : wc.cell? ⟨wb, 0, none⟩ = some outv1 := W1.blk.cell 0 rfl
    have d3 : wc.cell? ⟨wb, 3, none⟩ = some (.int .i64 s.drop) := W1.blk.cell 3 rfl
    have hbc := W1.bw
    have hwc := W1.blk.lt
    have hll : (s.out ++ addPart s.add).length ≤ 100000001 := by
      rw [List.length_append]; unfold addPart; split <;> simp <;> omega
    clear W1 F1 c0
    by_cases hdz : s.drop = 0
    · have HDZ : Hid (dropPart s.drop = [] ∧ s.drop = 0) := ⟨by unfold dropPart; rw [if_pos hdz], hdz⟩
      have hd0 : s.drop ≤ 0 := by omega
      clear hdz
      go_wp2
      go_end0
      refine ⟨rfl, outv1, p1, bufv1, ?_, HF1.out⟩
      have h := HW1.out
      rw [settle_parts, HDZ.out.1, List.append_nil]
      rw [HDZ.out.2] at h
      exact h
    · have hdp : 0 < s.drop := by omega
      have HDP : Hid (dropPart s.drop = [⟨3, s.drop, ⟨#[]⟩⟩]) := by show _ = _; unfold dropPart; rw [if_neg hdz]
      have hfar := own_ne HW1.out.out HW1.out.blk (by decide)
      have HO1 : Hid (wc.ownsRow base 61 3 outv1 (s.out ++ addPart s.add).length (cellsOf (s.out ++ addPart s.add))) := HW1.out.out
      clear hdz
      generalize hol : s.out ++ addPart s.add = ol at *
      have HOL : Hid (s.out ++ addPart s.add = ol) := hol
      clear hol
      go_wp2_with fail
      go_region_law
        (refine step_append_lies _ (by rfl) _ _ _ (by rfl) base 61 i0 _ 3 32 Tryd.underlying26 hi0 hz0 hz1 hz2 rfl (by omega) outv1 ol.length (cellsOf ol) (by rfl) ((HO1.out.alloc _).drew) ⟨wc.heap.size, 0, none⟩ 1 1 [.int .i64 3, .int .i64 s.drop, .string ⟨#[]⟩] (by rfl) (by rfl) (World.news_of_block (cs := #[.int .i64 3, .int .i64 s.drop, .string ⟨#[]⟩]) (t := 61) (fr := (0, 0)) (heap_alloc_new wc _)) (by simp [Value.oneCell']) (by omega) (by unfold maxLen; omega) (by omega) (by simp; omega) (wc.heap.size + 1) (by simp) ?_; intro gg cap2 w2 hown2 hgrow hat hlt'; have HB2 : Hid (Blk w2 wb #[outv1, p1, bufv1, .int .i64 s.drop] 107) := (hgrow.block wb (by simp; omega) (fun e => hfar e.symm)).trans (HW1.out.blk.alloc _); have e0 : w2.cell? ⟨wb, 0, none⟩ = some outv1 := HB2.out.cell 0 rfl; have f0 := HB2.out.free 0; have e3 : w2.cell? ⟨wb, 3, none⟩ = some (.int .i64 s.drop) := HB2.out.cell 3 rfl; have f3 := HB2.out.free 3)
      all_goals
        have HB3 : Hid (Blk ((w2.setCell ⟨wb, 0, none⟩ (.slice (some ⟨gg, 0, none⟩) (ol.length + 1) cap2)).setCell ⟨wb, 3, none⟩ (.int .i64 0)) wb #[.slice (some ⟨gg, 0, none⟩) (ol.length + 1) cap2, p1, bufv1, .int .i64 0] 107) := (HB2.out.set 0 _).set 3 _
        have HF3 : Hid (Fr base [107, 61, 5] w ((w2.setCell ⟨wb, 0, none⟩ (.slice (some ⟨gg, 0, none⟩) (ol.length + 1) cap2)).setCell ⟨wb, 3, none⟩ (.int .i64 0)) ∧ Wr (fun k => k = wb) w2 ((w2.setCell ⟨wb, 0, none⟩ (.slice (some ⟨gg, 0, none⟩) (ol.length + 1) cap2)).setCell ⟨wb, 3, none⟩ (.int .i64 0))) := by
          have f2 : Fr base [107, 61, 5] wc (wc.alloc (.cells #[.int .i64 3, .int .i64 s.drop, .string ⟨#[]⟩] 61)).drew := Fr.here ((Below.refl _ _).alloc (Nat.le_refl _) _).drew
          have f3 := fr_grown (ts := [107, 61, 5]) ((HO1.out.alloc (.cells #[.int .i64 3, .int .i64 s.drop, .string ⟨#[]⟩] 61)).drew) (by simp) hgrow
          have hw := (wr_set w2 wb 0 (.slice (some ⟨gg, 0, none⟩) (ol.length + 1) cap2)).set (Or.inl rfl) 3 (.int .i64 0)
          exact ⟨((HF1.out.trans f2).trans f3).trans (fr_blk HB2.out (by simp) HW.out.bb hw), hw⟩
        have HO3 : Hid (((w2.setCell ⟨wb, 0, none⟩ (.slice (some ⟨gg, 0, none⟩) (ol.length + 1) cap2)).setCell ⟨wb, 3, none⟩ (.int .i64 0)).ownsRow base 61 3 (.slice (some ⟨gg, 0, none⟩) (ol.length + 1) cap2) (ol ++ [(⟨3, s.drop, ⟨#[]⟩⟩ : Pt)]).length (cellsOf (ol ++ [(⟨3, s.drop, ⟨#[]⟩⟩ : Pt)]))) := ownsRow_wr (owns_snoc (n := 0) ⟨3, s.drop, ⟨#[]⟩⟩ hown2) HF3.out.2 (fun k hk (e : k = wb) => own_ne hown2 HB2.out (by decide) (by rw [hk, e]))
        have HBuf : Hid (((w2.setCell ⟨wb, 0, none⟩ (.slice (some ⟨gg, 0, none⟩) (ol.length + 1) cap2)).setCell ⟨wb, 3, none⟩ (.int .i64 0)).ownsRow base 5 1 bufv1 0 []) := by
          have h1 : w2.ownsRow base 5 1 bufv1 0 [] := ownsRow_wr (HW1.out.buf.alloc _).drew (Wr.grown (S := fun k => some k = outv1.ownBlock) hgrow (fun k hk => hk.symm)) (fun k hk h => own_apart HW1.out.buf HO1.out (by decide) k hk h.symm)
          exact ownsRow_wr h1 HF3.out.2 (fun k hk (e : k = wb) => own_ne HW1.out.buf HW1.out.blk (by decide) (by rw [hk, e]))
        clear hown2 hgrow hat d0 d3
        go_wp2
        go_end0
        refine ⟨rfl, .slice (some ⟨gg, 0, none⟩) (ol.length + 1) cap2, p1, bufv1, ⟨HB3.out, HW1.out.p, ?_, HBuf.out, HW.out.bb, Nat.le_trans HW.out.bw HF3.out.1.size⟩, HF3.out.1⟩
        show World.ownsRow _ base 61 3 _ (settleP s).length (cellsOf (settleP s))
        rw [settle_parts, HDP.out, HOL.out]
        exact HO3.out
end Go.Proofs.YtdlolnahbgecjaaDoor
namespace Go.Proofs.YtdlolnahbgecjaaDoor
open Go.RowKit
set_option linter.unusedVariables false

theorem cells_last (r : List Pt) (q : Pt) (n : Int) : (cellsOf (r ++ [q])).set (r.length * 3 + 1) (.int .i64 n) = cellsOf (r ++ [⟨q.k, n, q.t⟩]) := by
  rw [cellsOf_append, cellsOf_append, List.set_append, if_neg (by rw [cellsOf_length]; omega), cellsOf_length]
  congr 1
  rw [show r.length * 3 + 1 - r.length * 3 = 1 by omega]
  rfl
theorem nth_last (r : List Pt) (q : Pt) : nth (r ++ [q]) r.length = q := by simp [nth]

theorem row_slice {w : World} {base n : Nat} {v : Value} {xs : List Value} (h : w.ownsRow base 61 3 v n xs) : ∃ ao cap, v = .slice ao n cap := by
  rcases h.2 with ⟨hv, h0⟩ | ⟨g, cap, cur, hv, _⟩
  · exact ⟨none, 0, by rw [hv, h0]⟩
  · exact ⟨_, _, hv⟩
/-- the row of a list that is not empty -/
theorem own_snoc {w : World} {base : Nat} {v : Value} {r : List Pt} {q : Pt} (h : w.ownsRow base 61 3 v (r ++ [q]).length (cellsOf (r ++ [q]))) : ∃ g cap, v = .slice (some ⟨g, 0, none⟩) (r.length + 1) cap ∧ base ≤ g ∧ g < w.heap.size ∧
    w.cell? ⟨g, r.length * 3, none⟩ = some (.int .i64 q.k) ∧ w.cell? ⟨g, r.length * 3 + 1, none⟩ = some (.int .i64 q.n) ∧ w.cell? ⟨g, r.length * 3 + 2, none⟩ = some (.string q.t) ∧ ∀ j, w.frozen? ⟨g, j, none⟩ = false := by
  have hl : (r ++ [q]).length = r.length + 1 := by simp
  rcases h.2 with ⟨_, h0⟩ | ⟨g, cap, cur, rfl, hb, hg, _⟩
  · omega
  · have ha := h
    rw [hl] at ha ⊢
    have hc := cellsOf_get (r ++ [q]) r.length (by omega)
    rw [nth_last] at hc
    exact ⟨g, cap, rfl, hb, (Array.getElem?_eq_some_iff.1 hg).1, (ha.cellAt _ (by omega)).trans hc.1, (ha.cellAt _ (by omega)).trans hc.2.1, (ha.cellAt _ (by omega)).trans hc.2.2, ha.frozenAt⟩

set_option maxRecDepth 100000 in
set_option maxHeartbeats 4000000 in
theorem keep_any (base wb : Nat) (w : World) (s : WS) (outv p bufv : Value) (n : Int) (W : Wt base wb w s outv p bufv) (hd : 0 ≤ s.drop) (hl : s.out.length ≤ 100000000) (hn : 0 ≤ n) (hsum : ∀ r q, settleP s = r ++ [q] → q.k = 1 → 0 ≤ q.n ∧ q.n + n ≤ 9223372036854775807) :
    Calls Tryd.prog 63 #[.pointer (some ⟨wb, 0, none⟩), .int .i64 n] w fun e w' => e = .returned (.tuple #[]) ∧ ∃ outv' p' bufv', Wt base wb w' (keepP s n) outv' p' bufv' ∧ Fr base [107, 61, 5] w w' := by
  obtain ⟨i0, hi0, hz0, hz1, hz2⟩ := info_parts Tryd.info61
  have HS : Hid (Calls Tryd.prog 65 #[.pointer (some ⟨wb, 0, none⟩)] w fun e w' => e = .returned (.tuple #[]) ∧ ∃ outv' p' bufv', Wt base wb w' ⟨settleP s, ⟨#[]⟩, 0⟩ outv' p' bufv' ∧ Fr base [107, 61, 5] w w') := settle_any base wb w s outv p bufv W hd hl
  have hll : (settleP s).length ≤ 100000002 := by
    rw [settle_parts, List.length_append, List.length_append]; unfold addPart dropPart; split <;> split <;> simp <;> omega
  have hbb := W.bb
  have hkp : keepP s n = ⟨keepL (settleP s) n, ⟨#[]⟩, 0⟩ := rfl
  rw [hkp]
  have HBW := W.bw
  clear W hkp
  generalize settleP s = L at *
  rcases snoc_cases L with hL | ⟨r, q, hL⟩
  · subst hL
    rw [keepL_nil]
    clear hsum
    go_enter Tryd.func63, Tryd.ntmps63
    go_wp2_with (go_at_call 65; refine HS.out.mono ?_)
    rintro e w1 ⟨rfl, outv1, p1, bufv1, W1, F1⟩
    obtain ⟨ao, cap, hov⟩ := row_slice W1.out
    subst hov
    have HW1 : Hid (Wt base wb w1 ⟨[], ⟨#[]⟩, 0⟩ (.slice ao 0 cap) p1 bufv1) := W1
    have HF1 : Hid (Fr base [107, 61, 5] w w1) := F1
    have HB1 : Hid (Blk w1 wb #[.slice ao 0 cap, p1, bufv1, .int .i64 0] 107) := W1.blk
    have HO1 : Hid (w1.ownsRow base 61 3 (.slice ao 0 cap) 0 (cellsOf [])) := W1.out
    have d0 : w1.cell? ⟨wb, 0, none⟩ = some (.slice ao 0 cap) := W1.blk.cell 0 rfl
    have hfar := own_ne W1.out W1.blk (by decide)
    have hbc := W1.bw
    have hwc := W1.blk.lt
    clear W1 F1
    go_wp2_with (at_builtin; refine wpList_append_lies _ rfl _ _ _ rfl base 61 i0 _ 3 32 Tryd.underlying26 hi0 hz0 hz1 hz2 rfl (by omega) _ 0 (cellsOf []) rfl (HO1.out.alloc _) ⟨w1.heap.size, 0, none⟩ 1 1 [.int .i64 1, .int .i64 n, .string ⟨#[]⟩] rfl rfl (World.news_of_block (cs := #[.int .i64 1, .int .i64 n, .string ⟨#[]⟩]) (t := 61) (fr := (0, 0)) (heap_alloc_new w1 _)) (by simp [Value.oneCell']) (by omega) (by unfold maxLen; omega) (by omega) (by simp; omega) (w1.heap.size + 1) (by simp) ?_)
    intro gg cap2 w2 hown2 hgrow hat hlt'
    have HB2 : Hid (Blk w2 wb #[.slice ao 0 cap, p1, bufv1, .int .i64 0] 107) := (hgrow.block wb (by simp; omega) (fun e => hfar e.symm)).trans (HB1.out.alloc _)
    have e0 : w2.cell? ⟨wb, 0, none⟩ = some (.slice ao 0 cap) := HB2.out.cell 0 rfl
    have f0 := HB2.out.free 0
    have hw3 := wr_set w2 wb 0 (.slice (some ⟨gg, 0, none⟩) (0 + 1) cap2)
    have HB3 : Hid (Blk (w2.setCell ⟨wb, 0, none⟩ (.slice (some ⟨gg, 0, none⟩) (0 + 1) cap2)) wb #[.slice (some ⟨gg, 0, none⟩) (0 + 1) cap2, p1, bufv1, .int .i64 0] 107) := HB2.out.set 0 _
    have HO3 : Hid ((w2.setCell ⟨wb, 0, none⟩ (.slice (some ⟨gg, 0, none⟩) (0 + 1) cap2)).ownsRow base 61 3 (.slice (some ⟨gg, 0, none⟩) (0 + 1) cap2) ([] ++ [(⟨1, n, ⟨#[]⟩⟩ : Pt)]).length (cellsOf ([] ++ [(⟨1, n, ⟨#[]⟩⟩ : Pt)]))) := ownsRow_wr (by have h := owns_snoc (n := 0) (out := []) ⟨1, n, ⟨#[]⟩⟩ (by simpa using hown2); exact h) hw3 (fun k hk (e : k = wb) => own_ne hown2 HB2.out (by decide) (by rw [hk, e]))
    have HF3 : Hid (Fr base [107, 61, 5] w (w2.setCell ⟨wb, 0, none⟩ (.slice (some ⟨gg, 0, none⟩) (0 + 1) cap2))) := by
      have f2 : Fr base [107, 61, 5] w1 (w1.alloc (.cells #[.int .i64 1, .int .i64 n, .string ⟨#[]⟩] 61)) := Fr.here ((Below.refl _ _).alloc (Nat.le_refl _) _)
      have f3 := fr_grown (ts := [107, 61, 5]) (HO1.out.alloc (.cells #[.int .i64 1, .int .i64 n, .string ⟨#[]⟩] 61)) (by simp) hgrow
      exact ((HF1.out.trans f2).trans f3).trans (fr_blk HB2.out (by simp) hbb hw3)
    have HBuf : Hid ((w2.setCell ⟨wb, 0, none⟩ (.slice (some ⟨gg, 0, none⟩) (0 + 1) cap2)).ownsRow base 5 1 bufv1 0 []) := by
      have h1 : w2.ownsRow base 5 1 bufv1 0 [] := ownsRow_wr (HW1.out.buf.alloc _) (Wr.grown (S := fun k => some k = (Value.slice ao 0 cap).ownBlock) hgrow (fun k hk => hk.symm)) (fun k hk h => own_apart HW1.out.buf HW1.out.out (by decide) k hk h.symm)
      exact ownsRow_wr h1 hw3 (fun k hk (e : k = wb) => own_ne HW1.out.buf HW1.out.blk (by decide) (by rw [hk, e]))
    clear hown2 hgrow hat d0 hw3
    go_wp2
    go_end0
    exact ⟨rfl, _, p1, bufv1, ⟨HB3.out, HW1.out.p, HO3.out, HBuf.out, hbb, Nat.le_trans HBW HF3.out.size⟩, HF3.out⟩
  · subst hL
    have hrl : r.length ≤ 100000002 := by simp at hll; omega
    by_cases hq : q.k = 1
    · rw [keepL_same hq]
      obtain ⟨hq0, hq1⟩ := hsum r q rfl hq
      have hqb : (q.k == 1) = true := by simp [hq]
      clear hsum hq
      go_enter Tryd.func63, Tryd.ntmps63
      go_wp2_with (go_at_call 65; refine HS.out.mono ?_)
      rintro e w1 ⟨rfl, outv1, p1, bufv1, W1, F1⟩
      obtain ⟨g, cap, hov, hgb, hgl, c0, c1, c2, cf⟩ := own_snoc W1.out
      subst hov
      have HW1 : Hid (Wt base wb w1 ⟨r ++ [q], ⟨#[]⟩, 0⟩ (.slice (some ⟨g, 0, none⟩) (r.length + 1) cap) p1 bufv1) := W1
      have HF1 : Hid (Fr base [107, 61, 5] w w1) := F1
      have d0 : w1.cell? ⟨wb, 0, none⟩ = some (.slice (some ⟨g, 0, none⟩) (r.length + 1) cap) := W1.blk.cell 0 rfl
      have hne : g ≠ wb := fun e => own_ne W1.out W1.blk (by decide) (by rw [e]; rfl)
      have HO1 : Hid (w1.ownsRow base 61 3 (.slice (some ⟨g, 0, none⟩) (r.length + 1) cap) (r.length + 1) (cellsOf (r ++ [q]))) := by have h := W1.out; rw [show (r ++ [q]).length = r.length + 1 by simp] at h; exact h
      obtain ⟨hst, hgr⟩ := HO1.out.stored (r.length * 3 + 1) (.int .i64 (q.n + n))
      rw [cells_last] at hst
      have hwg : Wr (fun k => some k = (Value.slice (some ⟨g, 0, none⟩) (r.length + 1) cap).ownBlock) w1 (w1.setCell ⟨g, r.length * 3 + 1, none⟩ (.int .i64 (q.n + n))) := Wr.grown hgr (fun k hk => hk.symm)
      have HW2 : Hid (Wt base wb (w1.setCell ⟨g, r.length * 3 + 1, none⟩ (.int .i64 (q.n + n))) ⟨r ++ [⟨q.k, q.n + n, q.t⟩], ⟨#[]⟩, 0⟩ (.slice (some ⟨g, 0, none⟩) (r.length + 1) cap) p1 bufv1) :=
        ⟨W1.blk.wr hwg (fun h => own_ne W1.out W1.blk (by decide) h.symm), W1.p, by show World.ownsRow _ base 61 3 _ (r ++ [_]).length _; rw [show (r ++ [(⟨q.k, q.n + n, q.t⟩ : Pt)]).length = r.length + 1 by simp]; exact hst, ownsRow_wr W1.buf hwg (fun k hk h => own_apart W1.buf W1.out (by decide) k hk h.symm), W1.bb, Nat.le_trans W1.bw hwg.size⟩
      have HF2 : Hid (Fr base [107, 61, 5] w (w1.setCell ⟨g, r.length * 3 + 1, none⟩ (.int .i64 (q.n + n)))) := F1.trans (fr_own W1.out (by simp) hwg)
      clear W1 F1 hst hgr hwg
      go_wp2
      exact bodyPost_ret (v := .tuple #[]) (by simp [results, Tryd.results63, go_sem]) rfl ⟨rfl, _, p1, bufv1, HW2.out, HF2.out⟩
    · rw [keepL_snoc hq]
      have hqb : (q.k == 1) = false := by simp [hq]
      clear hsum hq
      go_enter Tryd.func63, Tryd.ntmps63
      go_wp2_with (go_at_call 65; refine HS.out.mono ?_)
      rintro e w1 ⟨rfl, outv1, p1, bufv1, W1, F1⟩
      obtain ⟨g, cap, hov, hgb, hgl, c0, c1, c2, cf⟩ := own_snoc W1.out
      subst hov
      have HW1 : Hid (Wt base wb w1 ⟨r ++ [q], ⟨#[]⟩, 0⟩ (.slice (some ⟨g, 0, none⟩) (r.length + 1) cap) p1 bufv1) := W1
      have HF1 : Hid (Fr base [107, 61, 5] w w1) := F1
      have HB1 : Hid (Blk w1 wb #[.slice (some ⟨g, 0, none⟩) (r.length + 1) cap, p1, bufv1, .int .i64 0] 107) := W1.blk
      have d0 : w1.cell? ⟨wb, 0, none⟩ = some (.slice (some ⟨g, 0, none⟩) (r.length + 1) cap) := W1.blk.cell 0 rfl
      have HO1 : Hid (w1.ownsRow base 61 3 (.slice (some ⟨g, 0, none⟩) (r.length + 1) cap) (r.length + 1) (cellsOf (r ++ [q]))) := by have h := W1.out; rw [show (r ++ [q]).length = r.length + 1 by simp] at h; exact h
      have hfar := own_ne W1.out W1.blk (by decide)
      have hbc := W1.bw
      have hwc := W1.blk.lt
      clear W1 F1 hgb hgl
      go_wp2_with (at_builtin; refine wpList_append_lies _ rfl _ _ _ rfl base 61 i0 _ 3 32 Tryd.underlying26 hi0 hz0 hz1 hz2 rfl (by omega) _ (r.length + 1) (cellsOf (r ++ [q])) rfl (HO1.out.alloc _) ⟨w1.heap.size, 0, none⟩ 1 1 [.int .i64 1, .int .i64 n, .string ⟨#[]⟩] rfl rfl (World.news_of_block (cs := #[.int .i64 1, .int .i64 n, .string ⟨#[]⟩]) (t := 61) (fr := (0, 0)) (heap_alloc_new w1 _)) (by simp [Value.oneCell']) (by omega) (by unfold maxLen; omega) (by omega) (by simp; omega) (w1.heap.size + 1) (by simp) ?_)
      intro gg cap2 w2 hown2 hgrow hat hlt'
      have HB2 : Hid (Blk w2 wb #[.slice (some ⟨g, 0, none⟩) (r.length + 1) cap, p1, bufv1, .int .i64 0] 107) := (hgrow.block wb (by simp; omega) (fun e => hfar e.symm)).trans (HB1.out.alloc _)
      have e0 : w2.cell? ⟨wb, 0, none⟩ = some (.slice (some ⟨g, 0, none⟩) (r.length + 1) cap) := HB2.out.cell 0 rfl
      have f0 := HB2.out.free 0
      have hw3 := wr_set w2 wb 0 (.slice (some ⟨gg, 0, none⟩) ((r.length + 1) + 1) cap2)
      have HB3 : Hid (Blk (w2.setCell ⟨wb, 0, none⟩ (.slice (some ⟨gg, 0, none⟩) ((r.length + 1) + 1) cap2)) wb #[.slice (some ⟨gg, 0, none⟩) ((r.length + 1) + 1) cap2, p1, bufv1, .int .i64 0] 107) := HB2.out.set 0 _
      have HO3 : Hid ((w2.setCell ⟨wb, 0, none⟩ (.slice (some ⟨gg, 0, none⟩) ((r.length + 1) + 1) cap2)).ownsRow base 61 3 (.slice (some ⟨gg, 0, none⟩) ((r.length + 1) + 1) cap2) ((r ++ [q]) ++ [(⟨1, n, ⟨#[]⟩⟩ : Pt)]).length (cellsOf ((r ++ [q]) ++ [(⟨1, n, ⟨#[]⟩⟩ : Pt)]))) := ownsRow_wr (by have h := owns_snoc (n := 0) (out := (r ++ [q])) ⟨1, n, ⟨#[]⟩⟩ (by simpa using hown2); exact h) hw3 (fun k hk (e : k = wb) => own_ne hown2 HB2.out (by decide) (by rw [hk, e]))
      have HF3 : Hid (Fr base [107, 61, 5] w (w2.setCell ⟨wb, 0, none⟩ (.slice (some ⟨gg, 0, none⟩) ((r.length + 1) + 1) cap2))) := by
        have f2 : Fr base [107, 61, 5] w1 (w1.alloc (.cells #[.int .i64 1, .int .i64 n, .string ⟨#[]⟩] 61)) := Fr.here ((Below.refl _ _).alloc (Nat.le_refl _) _)
        have f3 := fr_grown (ts := [107, 61, 5]) (HO1.out.alloc (.cells #[.int .i64 1, .int .i64 n, .string ⟨#[]⟩] 61)) (by simp) hgrow
        exact ((HF1.out.trans f2).trans f3).trans (fr_blk HB2.out (by simp) hbb hw3)
      have HBuf : Hid ((w2.setCell ⟨wb, 0, none⟩ (.slice (some ⟨gg, 0, none⟩) ((r.length + 1) + 1) cap2)).ownsRow base 5 1 bufv1 0 []) := by
        have h1 : w2.ownsRow base 5 1 bufv1 0 [] := ownsRow_wr (HW1.out.buf.alloc _) (Wr.grown (S := fun k => some k = (Value.slice (some ⟨g, 0, none⟩) (r.length + 1) cap).ownBlock) hgrow (fun k hk => hk.symm)) (fun k hk h => own_apart HW1.out.buf HW1.out.out (by decide) k hk h.symm)
        exact ownsRow_wr h1 hw3 (fun k hk (e : k = wb) => own_ne HW1.out.buf HW1.out.blk (by decide) (by rw [hk, e]))
      clear hown2 hgrow hat d0 hw3
      go_wp2
      go_end0
      exact ⟨rfl, _, p1, bufv1, ⟨HB3.out, HW1.out.p, HO3.out, HBuf.out, hbb, Nat.le_trans HBW HF3.out.size⟩, HF3.out⟩
end Go.Proofs.YtdlolnahbgecjaaDoor
namespace Go.Proofs.YtdlolnahbgecjaaDoor
open Go.RowKit
set_option linter.unusedVariables false

theorem Wt.setDrop {base wb : Nat} {w : World} {s : WS} {outv p bufv : Value} (W : Wt base wb w s outv p bufv) (d : Int) : Wt base wb (w.setCell ⟨wb, 3, none⟩ (.int .i64 d)) ⟨s.out, s.add, d⟩ outv p bufv ∧ Fr base [107, 61, 5] w (w.setCell ⟨wb, 3, none⟩ (.int .i64 d)) := by
  have hw := wr_set w wb 3 (.int .i64 d)
  exact ⟨⟨W.blk.set 3 _, W.p, ownsRow_wr W.out hw (fun k hk (e : k = wb) => own_ne W.out W.blk (by decide) (by rw [hk, e])), ownsRow_wr W.buf hw (fun k hk (e : k = wb) => own_ne W.buf W.blk (by decide) (by rw [hk, e])), W.bb, Nat.le_trans W.bw hw.size⟩, fr_blk W.blk (by simp) W.bb hw⟩

set_option maxRecDepth 100000 in
set_option maxHeartbeats 4000000 in
theorem lay_any (base wb : Nat) (w : World) (s : WS) (outv p bufv : Value) (q : Pt) (W : Wt base wb w s outv p bufv) (hok : okPt q = true) (hd : 0 ≤ s.drop) (hl : s.out.length ≤ 100000000) (ha : s.add.size + q.t.size ≤ 100000000) (hdn : q.k = 3 → s.drop + q.n ≤ 9223372036854775807)
    (hsum : q.k = 1 → ∀ r x, settleP s = r ++ [x] → x.k = 1 → 0 ≤ x.n ∧ x.n + q.n ≤ 9223372036854775807) :
    Calls Tryd.prog 56 #[.pointer (some ⟨wb, 0, none⟩), .agg #[.int .i64 q.k, .int .i64 q.n, .string q.t]] w fun e w' => e = .returned (.tuple #[]) ∧ ∃ outv' p' bufv', Wt base wb w' (layP s q) outv' p' bufv' ∧ Fr base [107, 61, 5] w w' := by
  have HW : Hid (Wt base wb w s outv p bufv) := W
  have hw0 : Hid (Below w.heap.size w (w.alloc (.cells #[.int .i64 q.k, .int .i64 q.n, .string q.t] 61))) := (Below.refl _ _).alloc (Nat.le_refl _) _
  have hwl := W.blk.lt
  rcases ok_cases hok with ⟨h13, hn, hts⟩ | ⟨h2, hn, hts⟩
  · rcases h13 with h1 | h3
    · have HL : Hid (layP s q = keepP s q.n) := by show _ = _; unfold layP; rw [if_pos h1]
      rw [HL.out]
      have HK : Hid (∀ wx, Wt base wb wx s outv p bufv → Calls Tryd.prog 63 #[.pointer (some ⟨wb, 0, none⟩), .int .i64 q.n] wx fun e w' => e = .returned (.tuple #[]) ∧ ∃ outv' p' bufv', Wt base wb w' (keepP s q.n) outv' p' bufv' ∧ Fr base [107, 61, 5] wx w') := fun wx Wx => keep_any base wb wx s outv p bufv q.n Wx hd hl (by omega) (hsum h1)
      have k1 : (q.k == 1) = true := by simp [h1]
      clear W hok h1 hts hsum hdn
      go_enter Tryd.func56, Tryd.ntmps56
      go_wp2_with (go_at_call 63; refine (HK.out _ (HW.out.here hw0.out)).mono ?_; rintro e w1 ⟨rfl, o1, p1, b1, W1, F1⟩; have HW1 : Hid (Wt base wb w1 (keepP s q.n) o1 p1 b1) := W1; have HF1 := F1; clear W1)
      go_end0
      exact ⟨rfl, o1, p1, b1, HW1.out, (Fr.here hw0.out).trans HF1⟩
    · have HL : Hid (layP s q = ⟨s.out, s.add, s.drop + q.n⟩) := by show _ = _; unfold layP; rw [if_neg (by omega), if_neg (by omega)]
      rw [HL.out]
      have k1 : (q.k == 1) = false := by simp [h3]
      have k2 : (q.k == 2) = false := by simp [h3]
      have k3 : (q.k == 3) = true := by simp [h3]
      have hb := hdn h3
      have d3 : ∀ o, (w.alloc o).cell? ⟨wb, 3, none⟩ = some (.int .i64 s.drop) := fun o => (W.blk.alloc o).cell 3 rfl
      have f3 : ∀ o, (w.alloc o).frozen? ⟨wb, 3, none⟩ = false := fun o => (W.blk.alloc o).free 3
      clear W hok h3 hts hsum hdn
      go_enter Tryd.func56, Tryd.ntmps56
      go_wp2
      go_region
      go_wp2
      go_end0
      obtain ⟨D2, F2⟩ := HW.out.setDrop (s.drop + q.n)
      have hb := ((Below.refl _ (w.setCell ⟨wb, 3, none⟩ (.int .i64 (s.drop + q.n)))).alloc (Nat.le_refl _) (.cells #[.int .i64 q.k, .int .i64 q.n, .string q.t] 61)).drew
      exact ⟨rfl, outv, p, bufv, D2.here hb, F2.trans (Fr.here hb)⟩
  · have HL : Hid (layP s q = ⟨s.out, s.add ++ q.t, s.drop⟩) := by show _ = _; unfold layP; rw [if_neg (by omega), if_pos h2]
    rw [HL.out]
    have k1 : (q.k == 1) = false := by simp [h2]
    have k2 : (q.k == 2) = true := by simp [h2]
    have HA : Hid (s.add.size + q.t.size ≤ 140737488355328) := by show _ ≤ _; omega
    clear W hok h2 hts hsum hdn hn
    go_enter Tryd.func56, Tryd.ntmps56
    go_wp2
    go_region_with (go_at_call 45; refine (wt_write (HW.out.here (w' := (w.alloc (.cells #[.int .i64 q.k, .int .i64 q.n, .string q.t] 61)).drew) hw0.out.drew) q.t HA.out).mono ?_; rintro e w1 ⟨rfl, p1, b1, W1, F1⟩)
    have HW1 : Hid (Wt base wb w1 ⟨s.out, s.add ++ q.t, s.drop⟩ outv p1 b1) := W1
    have HF1 : Hid (Fr base [107, 61, 5] w w1) := (Fr.here hw0.out.drew).trans F1
    clear W1 F1
    go_wp2
    go_end0
    exact ⟨rfl, outv, p1, b1, HW1.out, HF1.out⟩

set_option maxRecDepth 100000 in
set_option maxHeartbeats 1000000 in
theorem change_any (base wb : Nat) (w : World) (s : WS) (outv p bufv : Value) (W : Wt base wb w s outv p bufv) (hd : 0 ≤ s.drop) (hl : s.out.length ≤ 100000000) :
    Calls Tryd.prog 57 #[.pointer (some ⟨wb, 0, none⟩)] w fun e w' => ∃ v, e = .returned v ∧ w'.ownsRow base 61 3 v (settleP s).length (cellsOf (settleP s)) ∧ Fr base [107, 61, 5] w w' := by
  have HS : Hid (Calls Tryd.prog 65 #[.pointer (some ⟨wb, 0, none⟩)] w fun e w' => e = .returned (.tuple #[]) ∧ ∃ outv' p' bufv', Wt base wb w' ⟨settleP s, ⟨#[]⟩, 0⟩ outv' p' bufv' ∧ Fr base [107, 61, 5] w w') := settle_any base wb w s outv p bufv W hd hl
  clear W
  go_enter Tryd.func57, Tryd.ntmps57
  go_wp2_with (go_at_call 65; refine HS.out.mono ?_)
  rintro e w1 ⟨rfl, o1, p1, b1, W1, F1⟩
  have HO : Hid (w1.ownsRow base 61 3 o1 (settleP s).length (cellsOf (settleP s))) := W1.out
  have d0 : w1.cell? ⟨wb, 0, none⟩ = some o1 := W1.blk.cell 0 rfl
  have HF1 : Hid (Fr base [107, 61, 5] w w1) := F1
  clear W1 F1
  go_wp2
  go_ret
  exact ⟨o1, rfl, HO.out, HF1.out⟩
end Go.Proofs.YtdlolnahbgecjaaDoor
namespace Go.Proofs.YtdlolnahbgecjaaDoor
open Go.RowKit
set_option linter.unusedVariables false

def sumL : List Pt → Int
  | [] => 0
  | p :: r => p.n + sumL r
theorem sumL_append (a b : List Pt) : sumL (a ++ b) = sumL a + sumL b := by
  induction a with
  | nil => simp [sumL]
  | cons p r ih => simp only [List.cons_append, sumL, ih]; omega
theorem sumL_nn {l : List Pt} (h : ∀ q ∈ l, 0 ≤ q.n) : 0 ≤ sumL l := by
  induction l with
  | nil => simp [sumL]
  | cons p r ih =>
    have h1 := h p (by simp)
    have h2 := ih (fun q hq => h q (by simp [hq]))
    simp only [sumL]; omega

/-- what is asked of a writer's state: its numbers, and how much it holds -/
structure WOk (s : WS) (S : Int) (L A : Nat) : Prop where
  nn : ∀ q ∈ s.out, 0 ≤ q.n
  drop : 0 ≤ s.drop
  sum : sumL s.out + s.drop ≤ S
  len : s.out.length ≤ L
  add : s.add.size ≤ A
  clean : clean s.out
theorem WOk.settle {s : WS} {S : Int} {L A : Nat} (h : WOk s S L A) : (∀ q ∈ settleP s, 0 ≤ q.n) ∧ sumL (settleP s) ≤ S ∧ (settleP s).length ≤ L + 2 := by
  have h1 := h.nn
  have h2 := h.drop
  have h3 := h.sum
  have h4 := h.len
  rw [settle_parts]
  refine ⟨?_, ?_, ?_⟩
  · intro q hq
    simp only [List.mem_append] at hq
    rcases hq with (hq | hq) | hq
    · exact h1 q hq
    · unfold addPart at hq; split at hq
      · cases hq
      · simp at hq; subst hq; exact Int.le_refl _
    · unfold dropPart at hq; split at hq
      · cases hq
      · simp at hq; subst hq; exact h2
  · rw [sumL_append, sumL_append]
    have e1 : sumL (addPart s.add) = 0 := by unfold addPart; split <;> simp [sumL]
    have e2 : sumL (dropPart s.drop) = s.drop := by
      unfold dropPart; split
      · rename_i h; simp [sumL, h]
      · simp [sumL]
    omega
  · rw [List.length_append, List.length_append]
    have e1 : (addPart s.add).length ≤ 1 := by unfold addPart; split <;> simp
    have e2 : (dropPart s.drop).length ≤ 1 := by unfold dropPart; split <;> simp
    omega
theorem keepL_facts {l : List Pt} {n : Int} (h : ∀ q ∈ l, 0 ≤ q.n) (hn : 0 ≤ n) : (∀ q ∈ keepL l n, 0 ≤ q.n) ∧ sumL (keepL l n) = sumL l + n ∧ (keepL l n).length ≤ l.length + 1 := by
  rcases snoc_cases l with rfl | ⟨r, q, rfl⟩
  · rw [keepL_nil]; simp [sumL, hn]
  · have hq := h q (by simp)
    by_cases e : q.k = 1
    · rw [keepL_same e]
      refine ⟨?_, ?_, by simp⟩
      · intro x hx
        simp only [List.mem_append, List.mem_singleton] at hx
        rcases hx with hx | hx
        · exact h x (by simp [hx])
        · subst hx; simp; omega
      · rw [sumL_append, sumL_append]; simp [sumL]; omega
    · rw [keepL_snoc e]
      refine ⟨?_, ?_, by simp⟩
      · intro x hx
        rw [List.mem_append] at hx
        rcases hx with hx | hx
        · exact h x hx
        · simp at hx; subst hx; exact hn
      · rw [sumL_append]; simp [sumL]
theorem WOk.lay {s : WS} {S : Int} {L A : Nat} {q : Pt} (h : WOk s S L A) (hok : okPt q = true) : WOk (layP s q) (S + q.n) (L + 3) (A + q.t.size) := by
  obtain ⟨s1, s2, s3⟩ := h.settle
  have h1 := h.nn
  have h2 := h.drop
  have h3 := h.sum
  have h4 := h.len
  have h5 := h.add
  rcases ok_cases hok with ⟨h13, hn, hts⟩ | ⟨hk, hn, hts⟩
  · rcases h13 with hk | hk
    · have e : layP s q = keepP s q.n := by unfold layP; rw [if_pos hk]
      rw [e]
      obtain ⟨k1, k2, k3⟩ := keepL_facts (n := q.n) s1 (by omega)
      exact ⟨k1, Int.le_refl _, by show sumL (keepL (settleP s) q.n) + 0 ≤ _; omega, by show (keepL (settleP s) q.n).length ≤ _; omega, by show 0 ≤ _; omega, clean_keep _ (settle_keep s h.clean) _⟩
    · have e : layP s q = ⟨s.out, s.add, s.drop + q.n⟩ := by unfold layP; rw [if_neg (by omega), if_neg (by omega)]
      rw [e]
      exact ⟨h1, by show 0 ≤ s.drop + q.n; omega, by show sumL s.out + (s.drop + q.n) ≤ _; omega, by show s.out.length ≤ _; omega, by show s.add.size ≤ _; omega, h.clean⟩
  · have e : layP s q = ⟨s.out, s.add ++ q.t, s.drop⟩ := by unfold layP; rw [if_neg (by omega), if_pos hk]
    rw [e]
    exact ⟨h1, h2, by show sumL s.out + s.drop ≤ _; omega, by show s.out.length ≤ _; omega, by show (s.add ++ q.t).size ≤ _; rw [ByteArray.size_append]; omega, h.clean⟩
theorem WOk.last {s : WS} {S : Int} {L A : Nat} (h : WOk s S L A) {r : List Pt} {x : Pt} (e : settleP s = r ++ [x]) : 0 ≤ x.n ∧ x.n ≤ S := by
  obtain ⟨s1, s2, s3⟩ := h.settle
  rw [e] at s1 s2
  rw [sumL_append] at s2
  have h1 := s1 x (by simp)
  have h2 := sumL_nn (l := r) (fun q hq => s1 q (by simp [hq]))
  simp [sumL] at s2
  omega

/-- lay at a state that is known to be in bounds -/
theorem lay_ok (base wb : Nat) (w : World) (s : WS) (outv p bufv : Value) (q : Pt) (S : Int) (L A : Nat) (W : Wt base wb w s outv p bufv) (h : WOk s S L A) (hok : okPt q = true) (hS : S + q.n ≤ 9223372036854775807) (hL : L ≤ 100000000) (hA : A + q.t.size ≤ 100000000) :
    Calls Tryd.prog 56 #[.pointer (some ⟨wb, 0, none⟩), .agg #[.int .i64 q.k, .int .i64 q.n, .string q.t]] w fun e w' => e = .returned (.tuple #[]) ∧ ∃ outv' p' bufv', Wt base wb w' (layP s q) outv' p' bufv' ∧ Fr base [107, 61, 5] w w' :=
  lay_any base wb w s outv p bufv q W hok h.drop (by have := h.len; omega) (by have := h.add; omega) (fun _ => by have := h.sum; have := sumL_nn h.nn; omega) (fun _ r x e _ => by have := h.last e; omega)

def layTo (ps : List Pt) : Nat → WS
  | 0 => ⟨[], ⟨#[]⟩, 0⟩
  | k + 1 => layP (layTo ps k) (nth ps k)
theorem layTo_ok {ps : List Pt} (hg : Good ps = true) : ∀ k, k ≤ ps.length → ∀ r, fromTo ps k = some r → WOk (layTo ps k) r (3 * k) (textTo ps k)
  | 0, _, r, h => by
    simp [fromTo] at h; subst h
    exact ⟨fun q hq => (by cases hq), Int.le_refl _, (by simp [layTo, sumL]), (by simp [layTo]), (by show 0 ≤ _; omega), trivial⟩
  | k + 1, hk, r, h => by
    obtain ⟨s, hs, e, _⟩ := fromTo_part h
    have := (layTo_ok hg k (by omega) s hs).lay (good_nth hg k (by omega))
    rw [e]
    exact this
theorem layTo_fold (ps : List Pt) : ∀ k, k ≤ ps.length → layTo ps k = (ps.take k).foldl layP ⟨[], ⟨#[]⟩, 0⟩
  | 0, _ => rfl
  | k + 1, hk => by rw [take_nth ps k (by omega), List.foldl_append, ← layTo_fold ps k (by omega)]; rfl
/-- a change in short -/
def shortL (ps : List Pt) : List Pt := ps.foldl pushP []
theorem ok_okP {p : Pt} (h : okPt p = true) : okP p := by
  rcases ok_cases h with ⟨a, b, c⟩ | h
  · exact Or.inl ⟨a, b, empty_of c⟩
  · exact Or.inr h
theorem layTo_short {ps : List Pt} (hg : Good ps = true) : settleP (layTo ps ps.length) = shortL ps := by
  rw [layTo_fold ps ps.length (Nat.le_refl _), List.take_length]
  have := (lay_all ps ⟨[], ⟨#[]⟩, 0⟩ trivial (Int.le_refl _) (fun p hp => ok_okP (by unfold Good at hg; exact List.all_eq_true.1 hg p hp))).1
  rw [this]
  rfl
end Go.Proofs.YtdlolnahbgecjaaDoor
namespace Go.Proofs.YtdlolnahbgecjaaDoor
open Go.RowKit
set_option linter.unusedVariables false

set_option maxRecDepth 100000 in
set_option maxHeartbeats 2000000 in
theorem eachLay_pos (base wb rb b off cap : Nat) (ps : List Pt) (L : Lst ps) (S : Int) (hf : fromTo ps ps.length = some S) (w : World) (ov p v : Value) (D : Wt base wb w ⟨[], ⟨#[]⟩, 0⟩ ov p v)
    (A : At w b off ps) (hb : b < base) (hbr : base ≤ rb) (R : Rd w rb (.slice (some ⟨b, off, none⟩) ps.length cap) 0 0) :
    Calls Tryd.prog 43 #[.pointer (some ⟨rb, 0, none⟩), .func (.func 56) #[.pointer (some ⟨wb, 0, none⟩)] #[]] w fun e w' => e = .returned (.tuple #[]) ∧ ∃ o' p' v', Wt base wb w' (layTo ps ps.length) o' p' v' ∧ Fr base [107, 61, 5, 110] w w' := by
  have hlen := L.len
  have htx := L.text
  have Hst : Hid (Wt base wb w ⟨[], ⟨#[]⟩, 0⟩ ov p v ∧ Rd w rb (.slice (some ⟨b, off, none⟩) ps.length cap) 0 0 ∧ At w b off ps) := ⟨D, R, A⟩
  clear D R A
  go_enter Tryd.func43, Tryd.ntmps43
  go_wp2
  go_loopg [4] ps.length (fun j u wr => ∃ k : Nat, k + j = ps.length ∧ ∃ o' p' v', Wt base wb wr (layTo ps k) o' p' v' ∧ Rd wr rb (.slice (some ⟨b, off, none⟩) ps.length cap) k 0 ∧ At wr b off ps ∧ Fr base [107, 61, 5, 110] w wr)
  case atStart => exact ⟨0, by omega, ov, p, v, Hst.out.1, Hst.out.2.1, Hst.out.2.2, Fr.refl _ _ _⟩
  case round =>
    obtain ⟨k, hk, o', p', v', D, R, A, W⟩ := hrel
    have HD : Hid (Wt base wb wr (layTo ps k) o' p' v') := D
    have HR : Hid (Rd wr rb (.slice (some ⟨b, off, none⟩) ps.length cap) k 0) := R
    have HA : Hid (At wr b off ps) := A
    have HW : Hid (Fr base [107, 61, 5, 110] w wr) := W
    have hbs : base ≤ wr.heap.size := D.bw
    have hbw : b < wr.heap.size := by omega
    have HK : Hid (k + gk = ps.length) := hk
    clear D R A W hk
    by_cases hlt : k < ps.length
    · have hok := good_nth L.good k hlt
      have hts := size_le_text ps k hlt
      have hz := psz_ok hok (L.num k) (by omega)
      obtain ⟨m, hm⟩ : ∃ m : Nat, (m : Int) = psz (nth ps k) := ⟨(psz (nth ps k)).toNat, by omega⟩
      have HC : Hid (cut (nth ps k) 0 m = nth ps k) := cut_full hok m hm
      have hkz := (ok_pos hok).2
      have HRest : Hid (∀ wx, At wx b off ps → b < wx.heap.size → Rd wx rb (.slice (some ⟨b, off, none⟩) ps.length cap) k 0 → Calls Tryd.prog 61 #[.pointer (some ⟨rb, 0, none⟩)] wx fun e w' => e = .returned (.agg #[.int .i64 (nth ps k).k, .int .i64 (nth ps k).n, .string (nth ps k).t]) ∧ Only rb wx w' ∧ Rd w' rb (.slice (some ⟨b, off, none⟩) ps.length cap) ((k : Int) + 1) 0) := fun wx Ax hbx Rx => by
        have := rest_any ps b off cap rb k 0 m wx Ax hbx hlt hlen Rx (by omega) hok (by simpa using hm) hz.2
        rwa [HC.out] at this
      have HKind : Hid (∀ wx, At wx b off ps → b < wx.heap.size → Rd wx rb (.slice (some ⟨b, off, none⟩) ps.length cap) k 0 → Calls Tryd.prog 60 #[.pointer (some ⟨rb, 0, none⟩)] wx fun e w' => e = .returned (.int .i64 (nth ps k).k) ∧ Below wx.heap.size wx w') := fun wx Ax hbx Rx => kind_in ps b off cap rb k 0 wx Ax hbx hlt Rx
      have HClos : Hid (∀ wx, Wt base wb wx (layTo ps k) o' p' v' → Calls Tryd.prog 56 #[.pointer (some ⟨wb, 0, none⟩), .agg #[.int .i64 (nth ps k).k, .int .i64 (nth ps k).n, .string (nth ps k).t]] wx fun e w' => e = .returned (.tuple #[]) ∧ ∃ o' p' v', Wt base wb w' (layTo ps (k + 1)) o' p' v' ∧ Fr base [107, 61, 5] wx w') := fun wx Dx => by
        obtain ⟨r1, hr1⟩ := fromTo_head hf (show k + 1 ≤ ps.length by omega)
        obtain ⟨r0, hr0, e1, hle⟩ := fromTo_part hr1
        have hWO := layTo_ok L.good k (by omega) r0 hr0
        have ht1 := textTo_le ps (show k ≤ ps.length by omega)
        exact lay_ok base wb wx (layTo ps k) o' p' v' (nth ps k) r0 (3 * k) (textTo ps k) Dx hWO hok (by omega) (by omega) (by omega)
      clear hm hz hts hok HC
      generalize nth ps k = q at *
      go_wp2_with fail
      refine (HKind.out wr HA.out hbw HR.out).mono ?_
      rintro e w1 ⟨rfl, hb1⟩
      have HA1 : Hid (At w1 b off ps) := HA.out.below hb1 (fun _ => hbw)
      have HR1 : Hid (Rd w1 rb (.slice (some ⟨b, off, none⟩) ps.length cap) k 0) := HR.out.below hb1 HR.out.lt
      have hbw1 : b < w1.heap.size := Nat.lt_of_lt_of_le hbw hb1.size
      go_wp2_with fail
      refine (HRest.out w1 HA1.out hbw1 HR1.out).mono ?_
      rintro e w2 ⟨rfl, ho, R2⟩
      have HR2 : Hid (Rd w2 rb (.slice (some ⟨b, off, none⟩) ps.length cap) ((k : Int) + 1) 0) := R2
      have hbR : Blk wr rb #[.slice (some ⟨b, off, none⟩) ps.length cap, .int .i64 k, .int .i64 0] 110 := HR.out
      have HW2 : Hid (Wr (fun x => x = rb) wr w2) := (Wr.here hb1).trans (Wr.only ho rfl)
      have HD2 : Hid (Wt base wb w2 (layTo ps k) o' p' v') :=
        ⟨HD.out.blk.wr HW2.out (HD.out.blk.ne hbR (by decide)), HD.out.p, ownsRow_wr HD.out.out HW2.out (fun x hx (e : x = rb) => own_ne HD.out.out hbR (by decide) (by rw [hx, e])), ownsRow_wr HD.out.buf HW2.out (fun x hx (e : x = rb) => own_ne HD.out.buf hbR (by decide) (by rw [hx, e])), HD.out.bb, Nat.le_trans HD.out.bw HW2.out.size⟩
      have HA2 : Hid (At w2 b off ps) := HA.out.wr HW2.out (fun _ => hbw) (by omega)
      have HF2 : Hid (Fr base [107, 61, 5, 110] wr w2) := Fr.of_wr HW2.out (by rintro x rfl; exact ⟨hbr, fun o ho => by obtain ⟨cs, t, fr, e, ht⟩ := blk_kind hbR o ho; exact ⟨cs, t, fr, e, by simp [ht]⟩⟩)
      clear R2 ho hb1 hbR
      go_wp2_with fail
      refine (HClos.out w2 HD2.out).mono ?_
      rintro e w3 ⟨rfl, o3, p3, v3, D3, F3⟩
      have hb2 : Hid (base ≤ w2.heap.size) := HD2.out.bw
      have fin : Hid (Wt base wb w3 (layTo ps (k + 1)) o3 p3 v3 ∧ Rd w3 rb (.slice (some ⟨b, off, none⟩) ps.length cap) ((k + 1 : Nat) : Int) 0 ∧ At w3 b off ps ∧ Fr base [107, 61, 5, 110] w w3) :=
        ⟨D3, Blk.fr HR2.out F3 (by decide), HA2.out.fr F3 hb2.out (fun _ => hb), (HW.out.trans HF2.out).trans (F3.mono (by simp +contextual))⟩
      clear D3 F3
      go_wp2
      go_roundg (gk - 1)
      case measure => have := HK.out; omega
      case rel => exact ⟨k + 1, by have := HK.out; omega, o3, p3, v3, fin.out⟩
    · have hke : Hid (ps.length ≤ k) := by have := HK.out; show _ ≤ _; omega
      have hkl : Hid (k = ps.length) := by have := HK.out; show _ = _; omega
      go_wp2_with (go_at_call 60; refine (kind_out ps.length (some ⟨b, off, none⟩) cap rb k 0 wr hke.out HR.out).mono ?_; rintro e w1 ⟨rfl, hb1⟩)
      go_end0
      refine ⟨rfl, o', p', v', ?_, HW.out.trans (Fr.here hb1)⟩
      have h := HD.out.here hb1
      rwa [hkl.out] at h

theorem eachLay_any (base wb rb b off cap : Nat) (ao : Option Addr) (ps : List Pt) (L : Lst ps) (S : Int) (hf : fromTo ps ps.length = some S) (w : World) (ov p v : Value) (D : Wt base wb w ⟨[], ⟨#[]⟩, 0⟩ ov p v)
    (hao : 0 < ps.length → ao = some ⟨b, off, none⟩) (A : At w b off ps) (hb : 0 < ps.length → b < base) (hbr : base ≤ rb) (R : Rd w rb (.slice ao ps.length cap) 0 0) :
    Calls Tryd.prog 43 #[.pointer (some ⟨rb, 0, none⟩), .func (.func 56) #[.pointer (some ⟨wb, 0, none⟩)] #[]] w fun e w' => e = .returned (.tuple #[]) ∧ ∃ o' p' v', Wt base wb w' (layTo ps ps.length) o' p' v' ∧ Fr base [107, 61, 5, 110] w w' := by
  rcases Nat.eq_zero_or_pos ps.length with hz | hz
  · refine (each_zero ps.length ao cap rb _ w hz R).mono ?_
    rintro e w1 ⟨rfl, hb1⟩
    refine ⟨rfl, ov, p, v, ?_, Fr.here hb1⟩
    rw [hz]
    exact D.here hb1
  · obtain rfl := hao hz
    exact eachLay_pos base wb rb b off cap ps L S hf w ov p v D A (hb hz) hbr R
end Go.Proofs.YtdlolnahbgecjaaDoor
namespace Go.Proofs.YtdlolnahbgecjaaDoor
open Go.RowKit
set_option linter.unusedVariables false

set_option maxRecDepth 100000 in
set_option maxHeartbeats 2000000 in
theorem shortened_any (ps : List Pt) (ao : Option Addr) (b off cap : Nat) (S : Int) (w : World) (L : Lst ps) (hf : fromTo ps ps.length = some S) (hao : 0 < ps.length → ao = some ⟨b, off, none⟩) (A : At w b off ps) (hb : 0 < ps.length → b < w.heap.size) :
    Calls Tryd.prog 40 #[.slice ao ps.length cap] w fun e w' => ∃ v, e = .returned v ∧ w'.ownsRow w.heap.size 61 3 v (shortL ps).length (cellsOf (shortL ps)) ∧ Below w.heap.size w w' := by
  have hw0 : Hid (Below w.heap.size w (w.alloc (.cells #[.slice none 0 0, .pointer none, .slice none 0 0, .int .i64 0] 107))) := (Below.refl _ _).alloc (Nat.le_refl _) _
  have HA : Hid (At w b off ps) := A
  have HAO : Hid (0 < ps.length → ao = some ⟨b, off, none⟩) := hao
  have HB : Hid (0 < ps.length → b < w.heap.size) := hb
  have HL : Hid (Lst ps) := L
  have HF : Hid (fromTo ps ps.length = some S) := hf
  have HO := layTo_ok L.good ps.length (Nat.le_refl _) S hf
  have HS : Hid (settleP (layTo ps ps.length) = shortL ps) := layTo_short L.good
  have hlen := L.len
  have H1 : Hid (0 ≤ (layTo ps ps.length).drop ∧ (layTo ps ps.length).out.length ≤ 100000000) := ⟨HO.drop, by have := HO.len; omega⟩
  clear A hao hb L hf HO
  go_enter Tryd.func40, Tryd.ntmps40
  go_wp2_with fail
  refine (read_any ao ps.length cap _).mono ?_
  rintro e w1 ⟨rfl, rfl⟩
  have hw1 : Below (w.alloc (.cells #[.slice none 0 0, .pointer none, .slice none 0 0, .int .i64 0] 107)).heap.size (w.alloc (.cells #[.slice none 0 0, .pointer none, .slice none 0 0, .int .i64 0] 107)) ((w.alloc (.cells #[.slice none 0 0, .pointer none, .slice none 0 0, .int .i64 0] 107)).alloc (.cells #[.slice ao ps.length cap, .int .i64 0, .int .i64 0] 110)) := (Below.refl _ _).alloc (Nat.le_refl _) _
  have HB1 : Hid (Below w.heap.size w ((w.alloc (.cells #[.slice none 0 0, .pointer none, .slice none 0 0, .int .i64 0] 107)).alloc (.cells #[.slice ao ps.length cap, .int .i64 0, .int .i64 0] 110))) := hw0.out.trans (hw1.mono (by simp))
  have HW1 : Hid (Wt w.heap.size w.heap.size ((w.alloc (.cells #[.slice none 0 0, .pointer none, .slice none 0 0, .int .i64 0] 107)).alloc (.cells #[.slice ao ps.length cap, .int .i64 0, .int .i64 0] 110)) ⟨[], ⟨#[]⟩, 0⟩ (.slice none 0 0) (.pointer none) (.slice none 0 0)) :=
    ⟨(Blk.new w _ 107).here hw1, Or.inl rfl, World.ownsRow_nil _ _ _ _, World.ownsRow_nil _ _ _ _, Nat.le_refl _, HB1.out.size⟩
  have HR1 : Hid (Rd ((w.alloc (.cells #[.slice none 0 0, .pointer none, .slice none 0 0, .int .i64 0] 107)).alloc (.cells #[.slice ao ps.length cap, .int .i64 0, .int .i64 0] 110)) (w.heap.size + 1) (.slice ao ps.length cap) 0 0) := Blk.new' _ 110 (by simp)
  clear hw1
  go_wp2_with fail
  refine (eachLay_any w.heap.size w.heap.size (w.heap.size + 1) b off cap ao ps HL.out S HF.out _ _ _ _ HW1.out HAO.out (HA.out.below HB1.out HB.out) HB.out (by omega) HR1.out).mono ?_
  rintro e w2 ⟨rfl, o2, p2, v2, W2, F2⟩
  have HW2 : Hid (Wt w.heap.size w.heap.size w2 (layTo ps ps.length) o2 p2 v2) := W2
  have HB2 : Hid (Below w.heap.size w w2) := HB1.out.trans (F2.below HB1.out.size)
  clear W2 F2
  go_wp2_with fail
  refine (change_any w.heap.size w.heap.size w2 (layTo ps ps.length) o2 p2 v2 HW2.out H1.out.1 H1.out.2).mono ?_
  rintro e w3 ⟨v3, rfl, hO3, F3⟩
  have fin : Hid (w3.ownsRow w.heap.size 61 3 v3 (shortL ps).length (cellsOf (shortL ps)) ∧ Below w.heap.size w w3) := by
    rw [HS.out] at hO3
    exact ⟨hO3, HB2.out.trans (F3.below HB2.out.size)⟩
  clear hO3 F3
  go_wp2
  go_ret
  exact ⟨v3, rfl, fin.out⟩

def shortErr (ps : List Pt) (f c : Addr) : Option Addr := if Good ps = false then some c else if From ps < 0 then some f else none
def shortCode (ps : List Pt) : Int := if Good ps = false then 1 else if From ps < 0 then 2 else 0
def shortOut (ps : List Pt) : List Pt := if shortCode ps = 0 then shortL ps else []
theorem short_num (ps : List Pt) (f c : Addr) (h : f ≠ c) : numOf f c (shortErr ps f c) = shortCode ps := by
  unfold shortErr shortCode
  split
  · simp [numOf]
  · split
    · simp [numOf, h]
    · simp [numOf]
theorem ownsRow_weak' {w : World} {base base' e size n : Nat} {v : Value} {xs : List Value} (h : w.ownsRow base e size v n xs) (hb : base' ≤ base) : w.ownsRow base' e size v n xs := by
  obtain ⟨h1, h2⟩ := h
  refine ⟨h1, ?_⟩
  rcases h2 with h2 | ⟨g, cap, cur, hv, hg, r⟩
  · exact Or.inl h2
  · exact Or.inr ⟨g, cap, cur, hv, by omega, r⟩
theorem shortErr_or (ps : List Pt) (f c : Addr) : shortErr ps f c = none ∨ shortErr ps f c = some f ∨ shortErr ps f c = some c := by
  unfold shortErr
  split
  · exact Or.inr (Or.inr rfl)
  · split
    · exact Or.inr (Or.inl rfl)
    · exact Or.inl rfl

set_option maxRecDepth 100000 in
set_option maxHeartbeats 2000000 in
theorem short_any {N : Nat} {f c : Addr} (ps : List Pt) (ao : Option Addr) (b off cap : Nat) (w : World) (E : Env N f c w) (A : Arg w ps ao b off) :
    Calls Tryd.prog 29 #[.slice ao ps.length cap] w fun e w' => ∃ r v, e = .returned (.tuple #[r, v]) ∧ w'.ownsRow w.heap.size 61 3 r (shortOut ps).length (cellsOf (shortOut ps)) ∧ ErrIs w' v (shortErr ps f c) ∧ Below w.heap.size w w' := by
  have HE : Hid (Env N f c w) := E
  cases hg : Good ps with
  | false =>
    have HO : Hid (shortOut ps = []) := by show _ = _; have hc : shortCode ps = 1 := by { unfold shortCode; rw [if_pos hg] }; unfold shortOut; rw [if_neg (by omega)]
    have HR : Hid (shortErr ps f c = some c) := by show _ = _; unfold shortErr; rw [if_pos hg]
    have HC : Hid (Calls Tryd.prog 36 #[.slice ao ps.length cap] w fun e w' => ∃ t' p', e = .returned (.iface t' p') ∧ ErrIs w' (.iface t' p') (some c) ∧ Below w.heap.size w w') := by
      refine (check_any ps ao b off cap w E A).mono ?_
      rw [hg]
      rintro e w1 ⟨v, rfl, ⟨d, hv⟩, hb⟩
      obtain ⟨t', p', rfl⟩ := hv.shape
      exact ⟨t', p', rfl, ⟨d, hv⟩, hb⟩
    clear E A hg
    rw [HO.out, HR.out]
    go_enter Tryd.func29, Tryd.ntmps29
    go_wp2_with (go_at_call 36; refine HC.out.mono ?_; rintro e w1 ⟨t', p', rfl, hv1, hb1⟩; have HV1 : Hid (ErrIs w1 (.iface t' p') (some c)) := hv1; clear hv1)
    go_ret2
    exact ⟨.slice none 0 0, .iface 76 (.pointer (some ⟨w1.heap.size, 0, none⟩)), rfl, World.ownsRow_nil _ _ _ _, errIs_wrap HV1.out rfl _, hb1.alloc hb1.size _⟩
  | true =>
    have HC : Hid (Calls Tryd.prog 36 #[.slice ao ps.length cap] w fun e w' => e = .returned .nilIface ∧ Below w.heap.size w w') := by
      refine (check_any ps ao b off cap w E A).mono ?_
      rw [hg]
      rintro e w1 ⟨v, rfl, rfl, hb⟩
      exact ⟨rfl, hb⟩
    have HL : Hid (Lst ps) := A.lst hg
    have HAr : Hid (Arg w ps ao b off) := A
    cases hf : fromTo ps ps.length with
    | none =>
      have hF : From ps = -1 := by unfold From; rw [hf]; rfl
      have HO : Hid (shortOut ps = []) := by show _ = _; have hc : shortCode ps = 2 := by { unfold shortCode; rw [if_neg (by simp [hg]), if_pos (by omega)] }; unfold shortOut; rw [if_neg (by omega)]
      have HR : Hid (shortErr ps f c = some f) := by show _ = _; unfold shortErr; rw [if_neg (by simp [hg]), if_pos (by omega)]
      have HS : Hid (∀ w1, Below w.heap.size w w1 → Calls Tryd.prog 37 #[.slice ao ps.length cap] w1 fun e w' => ∃ t' p', e = .returned (.tuple #[.int .i64 0, .int .i64 0, .iface t' p']) ∧ ErrIs w' (.iface t' p') (some f) ∧ Below w1.heap.size w1 w') := fun w1 hb1 => by
        refine (size_any ps ao b off cap w1 (E.here hb1) HL.out A.ao (A.cells.below hb1 A.lt) (fun h => Nat.lt_of_lt_of_le (A.lt h) hb1.size)).mono ?_
        rintro e w2 ⟨o, m, v, rfl, h | ⟨_, rfl, rfl, ⟨d, hv⟩⟩, hb⟩
        · rw [hf] at h; simp at h
        · obtain ⟨t', p', rfl⟩ := hv.shape
          exact ⟨t', p', rfl, ⟨d, hv⟩, hb⟩
      clear E A hg hf hF
      rw [HO.out, HR.out]
      go_enter Tryd.func29, Tryd.ntmps29
      go_wp2_with (first | (go_at_call 36; refine HC.out.mono ?_; rintro e w1 ⟨rfl, hb1⟩) | (go_at_call 37; refine (HS.out _ hb1).mono ?_; rintro e w2 ⟨t', p', rfl, hv2, hb2⟩; have HV2 : Hid (ErrIs w2 (.iface t' p') (some f)) := hv2; clear hv2))
      go_ret2
      exact ⟨.slice none 0 0, .iface 76 (.pointer (some ⟨w2.heap.size, 0, none⟩)), rfl, World.ownsRow_nil _ _ _ _, errIs_wrap HV2.out rfl _, (hb1.trans (hb2.mono hb1.size)).alloc (Nat.le_trans hb1.size hb2.size) _⟩
    | some s =>
      have hF : From ps = s := by unfold From; rw [hf]; rfl
      have hsb := made_bd (ps := ps) (fun i => by
          by_cases hi : i < ps.length
          · exact ⟨ok_n (good_nth hg i hi), (A.num i).2⟩
          · simp [nth, List.getD, List.getElem?_eq_none (by omega : ps.length ≤ i)]) _ _ hf
      have HO : Hid (shortOut ps = shortL ps) := by show _ = _; have hc : shortCode ps = 0 := by { unfold shortCode; rw [if_neg (by simp [hg]), if_neg (by omega)] }; unfold shortOut; rw [if_pos hc]
      have HR : Hid (shortErr ps f c = none) := by show _ = _; unfold shortErr; rw [if_neg (by simp [hg]), if_neg (by omega)]
      have HF : Hid (fromTo ps ps.length = some s) := hf
      have HS : Hid (∀ w1, Below w.heap.size w w1 → Calls Tryd.prog 37 #[.slice ao ps.length cap] w1 fun e w' => e = .returned (.tuple #[.int .i64 s, .int .i64 (madeTo ps ps.length), .nilIface]) ∧ Below w1.heap.size w1 w') := fun w1 hb1 => by
        refine (size_any ps ao b off cap w1 (E.here hb1) HL.out A.ao (A.cells.below hb1 A.lt) (fun h => Nat.lt_of_lt_of_le (A.lt h) hb1.size)).mono ?_
        rintro e w2 ⟨o, m, v, rfl, ⟨h, rfl, rfl⟩ | ⟨h, _⟩, hb⟩
        · rw [hf] at h; simp at h; subst h; exact ⟨rfl, hb⟩
        · rw [hf] at h; simp at h
      clear E A hg hf hF hsb
      rw [HO.out, HR.out]
      go_enter Tryd.func29, Tryd.ntmps29
      go_wp2_with (first | (go_at_call 36; refine HC.out.mono ?_; rintro e w1 ⟨rfl, hb1⟩) | (go_at_call 37; refine (HS.out _ hb1).mono ?_; rintro e w2 ⟨rfl, hb2⟩; have hbw : Below w.heap.size w w2 := hb1.trans (hb2.mono hb1.size)) | (go_at_call 40; refine (shortened_any ps ao b off cap s w2 HL.out HF.out HAr.out.ao (HAr.out.cells.below hbw HAr.out.lt) (fun h => Nat.lt_of_lt_of_le (HAr.out.lt h) hbw.size)).mono ?_; rintro e w3 ⟨v3, rfl, hO3, hb3⟩; have HO3 : Hid (w3.ownsRow w2.heap.size 61 3 v3 (shortL ps).length (cellsOf (shortL ps))) := hO3; clear hO3))
      go_ret2
      exact ⟨v3, .nilIface, rfl, ownsRow_weak' HO3.out hbw.size, rfl, hbw.trans (hb3.mono hbw.size)⟩

set_option maxRecDepth 100000 in
set_option maxHeartbeats 2000000 in
theorem shortF_any {N : Nat} {f c : Addr} (ps : List Pt) (ao : Option Addr) (b off cap : Nat) (w : World) (E : Env N f c w) (A : Arg w ps ao b off) :
    Calls Tryd.prog 14 #[.slice ao ps.length cap] w fun e w' => ∃ r, e = .returned (.tuple #[r, .int .i64 (shortCode ps)]) ∧ w'.ownsRow w.heap.size 61 3 r (shortOut ps).length (cellsOf (shortOut ps)) ∧ Below w.heap.size w w' := by
  have HF : Hid (Calls Tryd.prog 29 #[.slice ao ps.length cap] w fun e w' => ∃ r v, e = .returned (.tuple #[r, v]) ∧ w'.ownsRow w.heap.size 61 3 r (shortOut ps).length (cellsOf (shortOut ps)) ∧ ErrIs w' v (shortErr ps f c) ∧ Below w.heap.size w w') := short_any ps ao b off cap w E A
  have HN : Hid (numOf f c (shortErr ps f c) = shortCode ps) := short_num ps f c E.ne
  have HE : Hid (Env N f c w) := E
  clear E A
  rw [← HN.out]
  go_enter Tryd.func14, Tryd.ntmps14
  go_wp2_with (first | (go_at_call 29; refine HF.out.mono ?_; rintro e w1 ⟨r, v, rfl, hO, hv, hb1⟩; have HV : Hid (ErrIs w1 v (shortErr ps f c)) := hv; have HO : Hid (w1.ownsRow w.heap.size 61 3 r (shortOut ps).length (cellsOf (shortOut ps))) := hO; clear hv hO) | (go_at_call 26; refine (number_any v (shortErr ps f c) w1 (HE.out.here hb1) (shortErr_or ps f c) HV.out).mono ?_; rintro e w2 ⟨rfl, hww⟩; obtain rfl := hww.symm))
  go_ret2
  exact ⟨r, rfl, HO.out, hb1⟩
end Go.Proofs.YtdlolnahbgecjaaDoor
