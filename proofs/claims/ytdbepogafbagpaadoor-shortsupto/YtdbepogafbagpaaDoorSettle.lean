import Derived.Test.YtdbepogafbagpaaDoorWtr
import Derived.Deep.RegionLaw
namespace Go.Proofs.YtdbepogafbagpaaDoor
open Go.RowKit
set_option linter.unusedVariables false

def addPart (a : ByteArray) : List Pt := if a.size = 0 then [] else [⟨2, 0, a⟩]
def dropPart (d : Int) : List Pt := if d = 0 then [] else [⟨3, d, ⟨#[]⟩⟩]
theorem settle_parts (s : WS) : settleP s = s.out ++ addPart s.add ++ dropPart s.drop := rfl

theorem fr_own {w w' : World} {base e size n : Nat} {v : Value} {xs : List Value} {ts : List TypeId} (h : w.ownsRow base e size v n xs) (he : e ∈ ts) (hw : Wr (fun k => some k = v.ownBlock) w w') : Fr base ts w w' :=
  Fr.of_wr hw (fun k hk => by
    obtain ⟨h1, h2⟩ := own_kind h k hk
    exact ⟨h1, fun o ho => by obtain ⟨cs, t, fr, e', ht⟩ := h2 o ho; exact ⟨cs, t, fr, e', by rw [ht]; exact he⟩⟩)
theorem fr_grown {w w' : World} {base e size n : Nat} {v : Value} {xs : List Value} {ts : List TypeId} (h : w.ownsRow base e size v n xs) (he : e ∈ ts) (hg : w.grownBy w' v.ownBlock) : Fr base ts w w' :=
  fr_own h he (Wr.grown hg (fun k hk => hk.symm))
theorem fr_blk {w w' : World} {base b : Nat} {cs : Array Value} {t : TypeId} {ts : List TypeId} (h : Blk w b cs t) (ht : t ∈ ts) (hb : base ≤ b) (hw : Wr (fun k => k = b) w w') : Fr base ts w w' :=
  Fr.of_wr hw (by
    rintro k rfl
    exact ⟨hb, fun o ho => by obtain ⟨cs, t', fr, e, ht'⟩ := blk_kind h o ho; exact ⟨cs, t', fr, e, by rw [ht']; exact ht⟩⟩)
theorem wr_set (w : World) (b i : Nat) (u : Value) : Wr (fun k => k = b) w (w.setCell ⟨b, i, none⟩ u) := (Wr.refl (fun k => k = b) w).set (Or.inl rfl) i u

/-- what a writer's row holds behind an append of one part -/
theorem owns_snoc {w : World} {base n : Nat} {v : Value} {out : List Pt} (q : Pt) (h : w.ownsRow base 61 3 v (out.length + 1) (cellsOf out ++ [.int .i64 q.k, .int .i64 q.n, .string q.t])) : w.ownsRow base 61 3 v (out ++ [q]).length (cellsOf (out ++ [q])) := by
  rw [List.length_append, cellsOf_append]; exact h

theorem buf_slice {w : World} {base n : Nat} {v : Value} {xs : List Value} (h : w.ownsRow base 5 1 v n xs) : ∃ ao cap, v = .slice ao n cap := by
  rcases h.2 with ⟨hv, h0⟩ | ⟨g, cap, cur, hv, _⟩
  · exact ⟨none, 0, by rw [hv, h0]⟩
  · exact ⟨_, _, hv⟩

set_option maxRecDepth 100000 in
set_option maxHeartbeats 4000000 in
theorem settle_any (base wb : Nat) (w : World) (s : WS) (outv p bufv : Value) (W : Wt base wb w s outv p bufv) (hd : 0 ≤ s.drop) (hl : s.out.length ≤ 100000000) :
    Calls Tryd.prog 65 #[.pointer (some ⟨wb, 0, none⟩)] w fun e w' => e = .returned (.tuple #[]) ∧ ∃ outv' p' bufv', Wt base wb w' ⟨settleP s, ⟨#[]⟩, 0⟩ outv' p' bufv' ∧ Fr base [107, 61, 5] w w' := by
  obtain ⟨i0, hi0, hz0, hz1, hz2⟩ := info_parts Tryd.info61
  obtain ⟨ao, cap, hbv⟩ := buf_slice W.buf
  subst hbv
  have c0 : w.cell? ⟨wb, 0, none⟩ = some outv := W.blk.cell 0 rfl
  have hbw := W.bw
  have hwl := W.blk.lt
  have HW : Hid (Wt base wb w s outv p (.slice ao s.add.size cap)) := W
  clear W
  go_enter Tryd.func65, Tryd.ntmps65
  go_upto_if 6 with (go_at_call 75; refine (len_any wb 1 107 #[outv, p, .slice ao s.add.size cap, .int .i64 s.drop] ao s.add.size cap w HW.out.blk rfl).mono ?_; rintro e w' ⟨rfl, hww⟩; obtain rfl := hww.symm)
  go_cut [7] (fun u wx => ∃ outv' p' bufv', Wt base wb wx ⟨s.out ++ addPart s.add, ⟨#[]⟩, s.drop⟩ outv' p' bufv' ∧ Fr base [107, 61, 5] w wx)
  case first =>
    by_cases ha : s.add.size = 0
    · have ha' : ((s.add.size : Nat) : Int) ≤ 0 := by omega
      have fin : Hid (Wt base wb w ⟨s.out ++ addPart s.add, ⟨#[]⟩, s.drop⟩ outv p (.slice ao s.add.size cap)) := by
        have h := HW.out
        have e : s.add = ⟨#[]⟩ := empty_of ha
        refine ⟨h.blk, h.p, ?_, ?_, h.bb, h.bw⟩
        · show w.ownsRow base 61 3 outv (s.out ++ addPart s.add).length (cellsOf (s.out ++ addPart s.add))
          rw [show addPart s.add = [] by unfold addPart; rw [if_pos ha], List.append_nil]; exact h.out
        · have := h.buf; rw [e] at this ⊢; exact this
      clear ha
      go_wp2
      go_meet
      case rel => exact ⟨outv, p, _, fin.out, Fr.refl _ _ _⟩
    · have ha' : 0 < ((s.add.size : Nat) : Int) := by omega
      have hap : addPart s.add = [⟨2, 0, s.add⟩] := by unfold addPart; rw [if_neg ha]
      have HAP : Hid (addPart s.add = [⟨2, 0, s.add⟩]) := hap
      have hpos : 0 < s.add.size := by omega
      have hfar := own_ne HW.out.out HW.out.blk (by decide)
      clear hap ha
      go_wp2_with fail
      go_region_law
        (first | ((refine step_append_lies _ (by rfl) _ _ _ (by rfl) base 61 i0 _ 3 32 Tryd.underlying26 hi0 hz0 hz1 hz2 rfl (by omega) outv s.out.length (cellsOf s.out) (by rfl) (HO1.out.alloc _) ⟨w1.heap.size, 0, none⟩ 1 1 [.int .i64 2, .int .i64 0, .string s.add] (by rfl) (by rfl) (World.news_of_block (cs := #[.int .i64 2, .int .i64 0, .string s.add]) (t := 61) (fr := (0, 0)) (heap_alloc_new w1 _)) (by simp [Value.oneCell']) (by omega) (by unfold maxLen; omega) (by omega) (by simp; omega) (w1.heap.size + 1) (by simp) ?_; intro gg cap2 w2 hown2 hgrow hat hlt'; have HB2 : Hid (Blk w2 wb #[outv, p, .slice ao s.add.size cap, .int .i64 s.drop] 107) := (hgrow.block wb (by simp; omega) (fun e => hfar e.symm)).trans (HB1.out.alloc _); have e0 : w2.cell? ⟨wb, 0, none⟩ = some outv := HB2.out.cell 0 rfl; have f0 := HB2.out.free 0)) | (go_simp; go_at_call 46; refine (string_at wb 1 107 base #[outv, p, .slice ao s.add.size cap, .int .i64 s.drop] (.slice ao s.add.size cap) s.add w.drew HW.out.blk.drew rfl (by exact HW.out.buf.drew) hpos).mono ?_; rintro e w1 ⟨rfl, hW1⟩; have HB1 : Hid (Blk w1 wb #[outv, p, .slice ao s.add.size cap, .int .i64 s.drop] 107) := HW.out.blk.drew.wr hW1 (fun h => own_ne HW.out.buf HW.out.blk (by decide) h.symm); have HO1 : Hid (w1.ownsRow base 61 3 outv s.out.length (cellsOf s.out)) := ownsRow_wr HW.out.out.drew hW1 (fun k hk h => own_apart HW.out.out HW.out.buf (by decide) k hk h.symm); have d0 : w1.cell? ⟨wb, 0, none⟩ = some outv := HB1.out.cell 0 rfl; have hs1 : w.heap.size ≤ w1.heap.size := hW1.size; have hl1 := HB1.out.lt))
      all_goals
        have HB3 : Hid (Blk (w2.setCell ⟨wb, 0, none⟩ (.slice (some ⟨gg, 0, none⟩) (s.out.length + 1) cap2)) wb #[.slice (some ⟨gg, 0, none⟩) (s.out.length + 1) cap2, p, .slice ao s.add.size cap, .int .i64 s.drop] 107) := HB2.out.set 0 _
        have HO3 : Hid ((w2.setCell ⟨wb, 0, none⟩ (.slice (some ⟨gg, 0, none⟩) (s.out.length + 1) cap2)).ownsRow base 61 3 (.slice (some ⟨gg, 0, none⟩) (s.out.length + 1) cap2) (s.out ++ [(⟨2, 0, s.add⟩ : Pt)]).length (cellsOf (s.out ++ [(⟨2, 0, s.add⟩ : Pt)]))) := ownsRow_setCell_other (owns_snoc (n := 0) ⟨2, 0, s.add⟩ hown2) (own_ne hown2 HB2.out (by decide)) _
        have HF3 : Hid (Fr base [107, 61, 5] w (w2.setCell ⟨wb, 0, none⟩ (.slice (some ⟨gg, 0, none⟩) (s.out.length + 1) cap2))) := by
          have f1 : Fr base [107, 61, 5] w w1 := (Fr.here (Below.refl _ _).drew).trans (fr_own (w := w.drew) HW.out.buf.drew (by simp) hW1)
          have f2 : Fr base [107, 61, 5] w1 (w1.alloc (.cells #[.int .i64 2, .int .i64 0, .string s.add] 61)) := Fr.here ((Below.refl _ _).alloc (Nat.le_refl _) _)
          have f3 := fr_grown (ts := [107, 61, 5]) (HO1.out.alloc (.cells #[.int .i64 2, .int .i64 0, .string s.add] 61)) (by simp) hgrow
          exact ((f1.trans f2).trans f3).trans (fr_blk HB2.out (by simp) HW.out.bb (wr_set w2 wb 0 _))
        clear hown2 hgrow hat hW1 d0 e0 f0
        go_wp2_with (go_at_call 76; refine (reset_any wb 1 107 #[.slice (some ⟨gg, 0, none⟩) (s.out.length + 1) cap2, p, .slice ao s.add.size cap, .int .i64 s.drop] p ao s.add.size cap _ HB3.out rfl HW.out.p rfl).mono ?_; rintro e w4 ⟨rfl, hB4, hW4⟩)
        go_meet
        case rel =>
          refine ⟨.slice (some ⟨gg, 0, none⟩) (s.out.length + 1) cap2, .pointer none, .slice none 0 0, ⟨hB4, Or.inl rfl, ?_, World.ownsRow_nil _ _ _ _, HW.out.bb, Nat.le_trans HW.out.bw (Nat.le_trans HF3.out.size hW4.size)⟩, HF3.out.trans (fr_blk HB3.out (by simp) HW.out.bb hW4)⟩
          show w4.ownsRow base 61 3 _ (s.out ++ addPart s.add).length (cellsOf (s.out ++ addPart s.add))
          rw [HAP.out]
          exact ownsRow_wr HO3.out hW4 (fun k hk (e : k = wb) => own_ne HO3.out HB3.out (by decide) (by rw [hk, e]))
  case rest =>
    obtain ⟨outv1, p1, bufv1, W1, F1⟩ := hcut
    have HW1 : Hid (Wt base wb wc ⟨s.out ++ addPart s.add, ⟨#[]⟩, s.drop⟩ outv1 p1 bufv1) := W1
    have HF1 : Hid (Fr base [107, 61, 5] w wc) := F1
    have d0 : wc.cell? ⟨wb, 0, none⟩ = some outv1 := W1.blk.cell 0 rfl
    have d3 : wc.cell? ⟨wb, 3, none⟩ = some (.int .i64 s.drop) := W1.blk.cell 3 rfl
    have hbc := W1.bw
    have hwc := W1.blk.lt
    have hll : (s.out ++ addPart s.add).length ≤ 100000001 := by
      rw [List.length_append]; unfold addPart; split <;> simp <;> omega
    clear W1 F1 c0
    by_cases hdz : s.drop = 0
    · have HDZ : Hid (dropPart s.drop = [] ∧ s.drop = 0) := ⟨by unfold dropPart; rw [if_pos hdz], hdz⟩
      have hd0 : s.drop ≤ 0 := by omega
      clear hdz
      go_wp2
      go_end0
      refine ⟨rfl, outv1, p1, bufv1, ?_, HF1.out⟩
      have h := HW1.out
      rw [settle_parts, HDZ.out.1, List.append_nil]
      rw [HDZ.out.2] at h
      exact h
    · have hdp : 0 < s.drop := by omega
      have HDP : Hid (dropPart s.drop = [⟨3, s.drop, ⟨#[]⟩⟩]) := by show _ = _; unfold dropPart; rw [if_neg hdz]
      have hfar := own_ne HW1.out.out HW1.out.blk (by decide)
      have HO1 : Hid (wc.ownsRow base 61 3 outv1 (s.out ++ addPart s.add).length (cellsOf (s.out ++ addPart s.add))) := HW1.out.out
      clear hdz
      generalize hol : s.out ++ addPart s.add = ol at *
      have HOL : Hid (s.out ++ addPart s.add = ol) := hol
      clear hol
      go_wp2_with fail
      go_region_law
        (refine step_append_lies _ (by rfl) _ _ _ (by rfl) base 61 i0 _ 3 32 Tryd.underlying26 hi0 hz0 hz1 hz2 rfl (by omega) outv1 ol.length (cellsOf ol) (by rfl) ((HO1.out.alloc _).drew) ⟨wc.heap.size, 0, none⟩ 1 1 [.int .i64 3, .int .i64 s.drop, .string ⟨#[]⟩] (by rfl) (by rfl) (World.news_of_block (cs := #[.int .i64 3, .int .i64 s.drop, .string ⟨#[]⟩]) (t := 61) (fr := (0, 0)) (heap_alloc_new wc _)) (by simp [Value.oneCell']) (by omega) (by unfold maxLen; omega) (by omega) (by simp; omega) (wc.heap.size + 1) (by simp) ?_; intro gg cap2 w2 hown2 hgrow hat hlt'; have HB2 : Hid (Blk w2 wb #[outv1, p1, bufv1, .int .i64 s.drop] 107) := (hgrow.block wb (by simp; omega) (fun e => hfar e.symm)).trans (HW1.out.blk.alloc _); have e0 : w2.cell? ⟨wb, 0, none⟩ = some outv1 := HB2.out.cell 0 rfl; have f0 := HB2.out.free 0; have e3 : w2.cell? ⟨wb, 3, none⟩ = some (.int .i64 s.drop) := HB2.out.cell 3 rfl; have f3 := HB2.out.free 3)
      all_goals
        have HB3 : Hid (Blk ((w2.setCell ⟨wb, 0, none⟩ (.slice (some ⟨gg, 0, none⟩) (ol.length + 1) cap2)).setCell ⟨wb, 3, none⟩ (.int .i64 0)) wb #[.slice (some ⟨gg, 0, none⟩) (ol.length + 1) cap2, p1, bufv1, .int .i64 0] 107) := (HB2.out.set 0 _).set 3 _
        have HF3 : Hid (Fr base [107, 61, 5] w ((w2.setCell ⟨wb, 0, none⟩ (.slice (some ⟨gg, 0, none⟩) (ol.length + 1) cap2)).setCell ⟨wb, 3, none⟩ (.int .i64 0)) ∧ Wr (fun k => k = wb) w2 ((w2.setCell ⟨wb, 0, none⟩ (.slice (some ⟨gg, 0, none⟩) (ol.length + 1) cap2)).setCell ⟨wb, 3, none⟩ (.int .i64 0))) := by
          have f2 : Fr base [107, 61, 5] wc (wc.alloc (.cells #[.int .i64 3, .int .i64 s.drop, .string ⟨#[]⟩] 61)).drew := Fr.here ((Below.refl _ _).alloc (Nat.le_refl _) _).drew
          have f3 := fr_grown (ts := [107, 61, 5]) ((HO1.out.alloc (.cells #[.int .i64 3, .int .i64 s.drop, .string ⟨#[]⟩] 61)).drew) (by simp) hgrow
          have hw := (wr_set w2 wb 0 (.slice (some ⟨gg, 0, none⟩) (ol.length + 1) cap2)).set (Or.inl rfl) 3 (.int .i64 0)
          exact ⟨((HF1.out.trans f2).trans f3).trans (fr_blk HB2.out (by simp) HW.out.bb hw), hw⟩
        have HO3 : Hid (((w2.setCell ⟨wb, 0, none⟩ (.slice (some ⟨gg, 0, none⟩) (ol.length + 1) cap2)).setCell ⟨wb, 3, none⟩ (.int .i64 0)).ownsRow base 61 3 (.slice (some ⟨gg, 0, none⟩) (ol.length + 1) cap2) (ol ++ [(⟨3, s.drop, ⟨#[]⟩⟩ : Pt)]).length (cellsOf (ol ++ [(⟨3, s.drop, ⟨#[]⟩⟩ : Pt)]))) := ownsRow_wr (owns_snoc (n := 0) ⟨3, s.drop, ⟨#[]⟩⟩ hown2) HF3.out.2 (fun k hk (e : k = wb) => own_ne hown2 HB2.out (by decide) (by rw [hk, e]))
        have HBuf : Hid (((w2.setCell ⟨wb, 0, none⟩ (.slice (some ⟨gg, 0, none⟩) (ol.length + 1) cap2)).setCell ⟨wb, 3, none⟩ (.int .i64 0)).ownsRow base 5 1 bufv1 0 []) := by
          have h1 : w2.ownsRow base 5 1 bufv1 0 [] := ownsRow_wr (HW1.out.buf.alloc _).drew (Wr.grown (S := fun k => some k = outv1.ownBlock) hgrow (fun k hk => hk.symm)) (fun k hk h => own_apart HW1.out.buf HO1.out (by decide) k hk h.symm)
          exact ownsRow_wr h1 HF3.out.2 (fun k hk (e : k = wb) => own_ne HW1.out.buf HW1.out.blk (by decide) (by rw [hk, e]))
        clear hown2 hgrow hat d0 d3
        go_wp2
        go_end0
        refine ⟨rfl, .slice (some ⟨gg, 0, none⟩) (ol.length + 1) cap2, p1, bufv1, ⟨HB3.out, HW1.out.p, ?_, HBuf.out, HW.out.bb, Nat.le_trans HW.out.bw HF3.out.1.size⟩, HF3.out.1⟩
        show World.ownsRow _ base 61 3 _ (settleP s).length (cellsOf (settleP s))
        rw [settle_parts, HDP.out, HOL.out]
        exact HO3.out
end Go.Proofs.YtdbepogafbagpaaDoor
