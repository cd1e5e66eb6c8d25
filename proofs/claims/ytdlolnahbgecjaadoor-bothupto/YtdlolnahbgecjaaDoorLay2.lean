import Derived.Test.YtdlolnahbgecjaaDoorShort
namespace Go.Proofs.YtdlolnahbgecjaaDoor
open Go.RowKit
set_option linter.unusedVariables false

/-- an append of a string's bytes leaves the row where it was, or lays a new one -/
theorem append_at (w : World) (base : Nat) (t u ty e : TypeId) (i : TypeInfo) (ht : Tryd.prog.underlying t = some (.slice e)) (hu : Tryd.prog.underlying u = some .string) (hi : Tryd.prog.info? e = some i) (hz : i.zero = some (.int .u8 0)) (hsize : i.size = 1) (hby : i.bytes = 1)
    (v : Value) (n : Nat) (xs : List Value) (hown : w.ownsRow base e 1 v n xs) (s : ByteArray) (h63 : n + s.size ≤ maxLen) (hbytes : n + s.size ≤ 140737488355328) (hbase : base ≤ w.heap.size) :
    ∃ v' w', (Builtin.append_ #[t, u] ty #[v, .string s]).run Tryd.prog w = .ok v' w' ∧ w'.ownsRow base e 1 v' (n + s.size) (xs ++ Lib.strCells s) ∧ w.grownBy w' v.ownBlock ∧ ∀ k, v'.ownBlock = some k → v.ownBlock = some k ∨ w.heap.size ≤ k := by
  obtain ⟨v', w', hr, h2, h3, _⟩ := Lib.run_append_own_string (P := Tryd.prog) w base t u ty e i ht hu hi hz hsize hby v n xs hown s h63 hbytes hbase
  refine ⟨v', w', hr, h2, h3, fun k hk => ?_⟩
  have hsmall : n + s.size ≤ 9223372036854775807 := by simp only [maxLen] at h63; omega
  rcases hown.2 with ⟨rfl, rfl⟩ | ⟨g, cap, cur, rfl, hbg, hg, hnc, hcm, hcs, htake⟩
  · have hx : xs = [] := List.eq_nil_of_length_eq_zero (by simpa using hown.1)
    subst hx
    obtain ⟨v2, w2, hr2, h22, _⟩ := Lib.run_append_own_string (P := Tryd.prog) w w.heap.size t u ty e i ht hu hi hz hsize hby (.slice none 0 0) 0 [] (World.ownsRow_nil _ _ _ _) s h63 hbytes (Nat.le_refl _)
    rw [hr] at hr2
    injection hr2 with e1 e2
    subst e1 e2
    exact Or.inr (ownsRow_block h22 k hk)
  · by_cases hroom : n + s.size ≤ cap
    · have hr2 := Lib.run_append_room_string (P := Tryd.prog) w t u ty e i ht hu hi hsize g n cap cur hg s hroom (by omega)
      rw [hr] at hr2
      injection hr2 with e1 e2
      subst e1
      exact Or.inl hk
    · have hr2 := Lib.run_append_grow_string (P := Tryd.prog) w t u ty e i (.int .u8 0) ht hu hi hz ⟨g, 0, none⟩ n cap xs (by rw [hsize]; simpa using hown.1) (hown.cells (g := g) rfl) s (by omega) (by omega) (by rw [hby]; exact growslice_fits (by omega) (by omega))
      rw [hr] at hr2
      injection hr2 with e1 e2
      subst e1
      simp [Value.ownBlock] at hk
      right; omega

theorem wpList_append_at {ops : Array Oper} {rest : List Oper} {o : Oper} {a : Act} {w : World} {Q : Exit → Act → World → Prop} (hgd : o.guard = none) (sl x : Operand) (t u : TypeId) (ho : o.op = .call { callee := .builtin .append, args := #[sl, x], argTypes := #[t, u] })
    (base : Nat) (e : TypeId) (i : TypeInfo) (ht : Tryd.prog.underlying t = some (.slice e)) (hu : Tryd.prog.underlying u = some .string) (hi : Tryd.prog.info? e = some i) (hz : i.zero = some (.int .u8 0)) (hsize : i.size = 1) (hby : i.bytes = 1)
    (v : Value) (n : Nat) (xs : List Value) (hs : a.eval sl = v) (hown : w.ownsRow base e 1 v n xs) (s : ByteArray) (hx : a.eval x = .string s) (h63 : n + s.size ≤ maxLen) (hbytes : n + s.size ≤ 140737488355328) (hbase : base ≤ w.heap.size)
    (h : ∀ v' w', w'.ownsRow base e 1 v' (n + s.size) (xs ++ Lib.strCells s) → w.grownBy w' v.ownBlock → (∀ k, v'.ownBlock = some k → v.ownBlock = some k ∨ w.heap.size ≤ k) → wpList Tryd.prog ops Q rest (a.put o.dst v') w') : wpList Tryd.prog ops Q (o :: rest) a w := by
  refine wpList_plain hgd fun K hK => ?_
  obtain ⟨v', w', hr, h2, h3, h4⟩ := append_at w base t u o.type e i ht hu hi hz hsize hby v n xs hown s h63 hbytes hbase
  unfold Oper.wp execOp
  simp only [ho, resolve, invoke, builtin, Sem.run_bind, Sem.run_pure, Result.andThen_ok, List.map_toArray, List.map_cons, List.map_nil, hs, hx, hr]
  exact hK _ _ (h v' w' h2 h3 h4)

set_option maxHeartbeats 1000000 in
set_option maxRecDepth 100000 in
theorem writeString_at (b o T : Nat) (cs : Array Value) (p v : Value) (m base : Nat) (bs : List Value) (s : ByteArray) (w : World) (hB : Blk w b cs T) (h0 : cs[o]? = some p) (h1 : cs[o + 1]? = some v) (hp : p = .pointer none ∨ p = .pointer (some ⟨b, o, none⟩)) (hT : T ≠ 5)
    (hlies : liesAt Tryd.prog Tryd.prog.depth T (cs.size / Tryd.prog.cellsOf T) o 87 1 = true) (hown : w.ownsRow base 5 1 v m bs) (hm : m + s.size ≤ 140737488355328) (hbase : base ≤ w.heap.size) :
    Calls Tryd.prog 45 #[.pointer (some ⟨b, o, none⟩), .string s] w fun e w' => e = .returned (.tuple #[.int .i64 s.size, .nilIface]) ∧ ∃ v', Blk w' b ((cs.setIfInBounds o (.pointer (some ⟨b, o, none⟩))).setIfInBounds (o + 1) v') T ∧ w'.ownsRow base 5 1 v' (m + s.size) (bs ++ Lib.strCells s) ∧ Wr (fun k => k = b ∨ some k = v.ownBlock) w w' ∧ ∀ k, v'.ownBlock = some k → v.ownBlock = some k ∨ w.heap.size ≤ k := by
  obtain ⟨i0, hi, hz0, hz1, hz2⟩ := info_parts Tryd.info5
  have hC := copyCheck_any b o T cs p w hB h0 hp hlies
  have hnb := own_ne hown hB hT
  have HC : Hid (Calls Tryd.prog 58 #[.pointer (some ⟨b, o, none⟩)] w fun e w' => e = .returned (.tuple #[]) ∧ Blk w' b (cs.setIfInBounds o (.pointer (some ⟨b, o, none⟩))) T ∧ Wr (fun k => k = b) w w') := hC
  have H1 : Hid (cs[o + 1]? = some v) := h1
  have HO : Hid (w.ownsRow base 5 1 v m bs) := hown
  clear hC h0 h1 hp hlies hB hown
  go_enter Tryd.func45, Tryd.ntmps45
  go_wp2_with (go_at_call 58; refine HC.out.mono ?_)
  rintro e w1 ⟨rfl, hB1, hW1⟩
  have HB1 : Hid (Blk w1 b (cs.setIfInBounds o (.pointer (some ⟨b, o, none⟩))) T) := hB1
  have HO1 : Hid (w1.ownsRow base 5 1 v m bs) := ownsRow_wr HO.out hW1 (fun k hk (e : k = b) => hnb (by rw [hk, e]))
  have c1 : w1.cell? ⟨b, o + 1, none⟩ = some v := hB1.cell (o + 1) (by rw [Array.getElem?_setIfInBounds, if_neg (by omega)]; exact H1.out)
  have hs1 := hW1.size
  clear hB1
  go_wp2_with (at_builtin; refine wpList_append_at rfl _ _ 85 9 rfl base 5 i0 Tryd.underlying85 Tryd.underlying9 hi hz0 hz1 hz2 _ _ _ rfl HO1.out s rfl ?c3 ?c4 ?c5 ?_)
  case c3 => unfold maxLen; omega
  case c4 => omega
  case c5 => omega
  intro v' w2 hown' hgrow hpos
  have HB2 : Hid (Blk w2 b (cs.setIfInBounds o (.pointer (some ⟨b, o, none⟩))) T) := (hgrow.block b HB1.out.lt (fun e => hnb e.symm)).trans HB1.out
  have d1 : w2.cell? ⟨b, o + 1, none⟩ = some v := HB2.out.cell (o + 1) (by rw [Array.getElem?_setIfInBounds, if_neg (by omega)]; exact H1.out)
  have f1 : w2.frozen? ⟨b, o + 1, none⟩ = false := HB2.out.free (o + 1)
  obtain ⟨ao, n', cap, rfl⟩ : ∃ ao n' cap, v' = .slice ao n' cap := by
    rcases hown'.2 with ⟨hv, _⟩ | ⟨g, cap, cur, hv, _⟩
    · exact ⟨_, _, _, hv⟩
    · exact ⟨_, _, _, hv⟩
  have HO2 : Hid (w2.ownsRow base 5 1 (.slice ao n' cap) (m + s.size) (bs ++ Lib.strCells s)) := hown'
  have HW : Hid (Wr (fun k => k = b ∨ some k = v.ownBlock) w w2) := (hW1.mono (fun k _ h => Or.inl h)).trans (Wr.grown hgrow (fun k hk => Or.inr hk.symm))
  have HP : Hid (∀ k, (Value.slice ao n' cap).ownBlock = some k → v.ownBlock = some k ∨ w.heap.size ≤ k) := fun k hk => (hpos k hk).imp id (fun h => Nat.le_trans hs1 h)
  clear hown' hgrow hpos
  go_wp2
  go_ret2
  refine ⟨rfl, .slice ao n' cap, HB2.out.set (o + 1) _, ?_, HW.out.set (Or.inl (Or.inl rfl)) (o + 1) _, HP.out⟩
  exact ownsRow_setCell_other HO2.out (own_ne HO2.out HB2.out hT) _
end Go.Proofs.YtdlolnahbgecjaaDoor
namespace Go.Proofs.YtdlolnahbgecjaaDoor
open Go.RowKit
set_option linter.unusedVariables false

/-- what a writer's call may have changed, and where its rows lie then -/
structure Gw (wb : Nat) (o b o' b' : Value) (w w' : World) : Prop where
  wr : Wr (fun k => k = wb ∨ some k = o.ownBlock ∨ some k = b.ownBlock) w w'
  own : ∀ k, (some k = o'.ownBlock ∨ some k = b'.ownBlock) → (k = wb ∨ some k = o.ownBlock ∨ some k = b.ownBlock) ∨ w.heap.size ≤ k
theorem Gw.refl (wb : Nat) (o b : Value) (w : World) : Gw wb o b o b w w := ⟨Wr.refl _ _, fun k h => Or.inl (Or.inr h)⟩
theorem Gw.trans {wb : Nat} {o b o1 b1 o2 b2 : Value} {w w1 w2 : World} (h : Gw wb o b o1 b1 w w1) (k : Gw wb o1 b1 o2 b2 w1 w2) : Gw wb o b o2 b2 w w2 := by
  refine ⟨⟨k.wr.os.trans h.wr.os, k.wr.tape.trans h.wr.tape, k.wr.output.trans h.wr.output, Nat.le_trans h.wr.size k.wr.size, fun i hi hn => ?_⟩, fun i hi => ?_⟩
  · refine (k.wr.block i (Nat.lt_of_lt_of_le hi h.wr.size) (fun e => ?_)).trans (h.wr.block i hi hn)
    rcases e with e | e
    · exact hn (Or.inl e)
    · rcases h.own i e with e | e
      · exact hn e
      · omega
  · rcases k.own i hi with e | e
    · rcases e with e | e
      · exact Or.inl (Or.inl e)
      · exact h.own i e
    · exact Or.inr (Nat.le_trans h.wr.size e)
theorem Gw.here {wb : Nat} {o b : Value} {w w' : World} (hb : Below w.heap.size w w') : Gw wb o b o b w w' := ⟨Wr.here hb, fun k h => Or.inl (Or.inr h)⟩
theorem Gw.blk {wb : Nat} {o b : Value} {w w' : World} (hw : Wr (fun k => k = wb) w w') : Gw wb o b o b w w' := ⟨hw.mono (fun k _ h => Or.inl h), fun k h => Or.inl (Or.inr h)⟩
theorem Gw.outS {wb : Nat} {o b : Value} {w w' : World} (hw : Wr (fun k => some k = o.ownBlock) w w') : Gw wb o b o b w w' := ⟨hw.mono (fun k _ h => Or.inr (Or.inl h)), fun k h => Or.inl (Or.inr h)⟩
theorem Gw.bufS {wb : Nat} {o b : Value} {w w' : World} (hw : Wr (fun k => some k = b.ownBlock) w w') : Gw wb o b o b w w' := ⟨hw.mono (fun k _ h => Or.inr (Or.inr h)), fun k h => Or.inl (Or.inr h)⟩
theorem Gw.nil {wb : Nat} {o b : Value} {w w' : World} (hw : Wr (fun k => k = wb) w w') : Gw wb o b o (.slice none 0 0) w w' := ⟨hw.mono (fun k _ h => Or.inl h), fun k h => by
  rcases h with h | h
  · exact Or.inl (Or.inr (Or.inl h))
  · simp [Value.ownBlock] at h⟩
theorem Gw.out {wb : Nat} {o b : Value} {w w' : World} {gg n cap H : Nat} (hg : w.grownBy w' o.ownBlock) (hat : o.ownBlock = some gg ∨ gg = H) (hH : w.heap.size ≤ H) : Gw wb o b (.slice (some ⟨gg, 0, none⟩) n cap) b w w' := by
  refine ⟨Wr.grown hg (fun k hk => Or.inr (Or.inl hk.symm)), fun k h => ?_⟩
  rcases h with h | h
  · have e : k = gg := by simpa [Value.ownBlock] using h
    subst e
    rcases hat with e | e
    · exact Or.inl (Or.inr (Or.inl e.symm))
    · exact Or.inr (by omega)
  · exact Or.inl (Or.inr (Or.inr h))
theorem Gw.fr {base wb : Nat} {o p b o' b' : Value} {s : WS} {w w' : World} (h : Gw wb o b o' b' w w') (W : Wt base wb w s o p b) : Fr base [107, 61, 5] w w' := Fr.of_wr h.wr (fun k hk => wt_kind W k hk)

theorem wt_write_g {base wb : Nat} {w : World} {s : WS} {outv p bufv : Value} (W : Wt base wb w s outv p bufv) (t : ByteArray) (hs : s.add.size + t.size ≤ 140737488355328) :
    Calls Tryd.prog 45 #[.pointer (some ⟨wb, 1, none⟩), .string t] w fun e w' => e = .returned (.tuple #[.int .i64 t.size, .nilIface]) ∧ ∃ p' bufv', Wt base wb w' ⟨s.out, s.add ++ t, s.drop⟩ outv p' bufv' ∧ Gw wb outv bufv outv bufv' w w' := by
  refine (writeString_at wb 1 107 #[outv, p, bufv, .int .i64 s.drop] p bufv s.add.size base (Lib.strCells s.add) t w W.blk rfl rfl W.p (by decide) lies107 W.buf hs W.bw).mono ?_
  rintro e w' ⟨rfl, v', hB, hown, hW, hP⟩
  refine ⟨rfl, .pointer (some ⟨wb, 1, none⟩), v', ⟨hB, Or.inr rfl, ownsRow_wr W.out hW ?_, ?_, W.bb, Nat.le_trans W.bw hW.size⟩, ⟨hW.mono (fun k _ h => h.imp id Or.inr), ?_⟩⟩
  · rintro k hk (h | h)
    · subst h; exact own_ne W.out W.blk (by decide) hk
    · exact own_apart W.out W.buf (by decide) k hk h.symm
  · show w'.ownsRow base 5 1 v' (s.add ++ t).size (Lib.strCells (s.add ++ t))
    rw [ByteArray.size_append, strCells_append]; exact hown
  · rintro k (h | h)
    · exact Or.inl (Or.inr (Or.inl h))
    · rcases hP k h.symm with e | e
      · exact Or.inl (Or.inr (Or.inr e.symm))
      · exact Or.inr e

set_option maxRecDepth 100000 in
set_option maxHeartbeats 4000000 in
theorem settle_g (base wb : Nat) (w : World) (s : WS) (outv p bufv : Value) (W : Wt base wb w s outv p bufv) (hd : 0 ≤ s.drop) (hl : s.out.length ≤ 100000000) :
    Calls Tryd.prog 65 #[.pointer (some ⟨wb, 0, none⟩)] w fun e w' => e = .returned (.tuple #[]) ∧ ∃ outv' p' bufv', Wt base wb w' ⟨settleP s, ⟨#[]⟩, 0⟩ outv' p' bufv' ∧ Gw wb outv bufv outv' bufv' w w' := by
  obtain ⟨i0, hi0, hz0, hz1, hz2⟩ := info_parts Tryd.info61
  obtain ⟨ao, cap, hbv⟩ := buf_slice W.buf
  subst hbv
  have c0 : w.cell? ⟨wb, 0, none⟩ = some outv := W.blk.cell 0 rfl
  have hbw := W.bw
  have hwl := W.blk.lt
  have HW : Hid (Wt base wb w s outv p (.slice ao s.add.size cap)) := W
  clear W
  go_enter Tryd.func65, Tryd.ntmps65
  go_upto_if 6 with (go_at_call 75; refine (len_any wb 1 107 #[outv, p, .slice ao s.add.size cap, .int .i64 s.drop] ao s.add.size cap w HW.out.blk rfl).mono ?_; rintro e w' ⟨rfl, hww⟩; obtain rfl := hww.symm)
  go_cut [7] (fun u wx => ∃ outv' p' bufv', Wt base wb wx ⟨s.out ++ addPart s.add, ⟨#[]⟩, s.drop⟩ outv' p' bufv' ∧ Gw wb outv (.slice ao s.add.size cap) outv' bufv' w wx)
  case first =>
    by_cases ha : s.add.size = 0
    · have ha' : ((s.add.size : Nat) : Int) ≤ 0 := by omega
      have fin : Hid (Wt base wb w ⟨s.out ++ addPart s.add, ⟨#[]⟩, s.drop⟩ outv p (.slice ao s.add.size cap)) := by
        have h := HW.out
        have e : s.add = ⟨#[]⟩ := empty_of ha
        refine ⟨h.blk, h.p, ?_, ?_, h.bb, h.bw⟩
        · show w.ownsRow base 61 3 outv (s.out ++ addPart s.add).length (cellsOf (s.out ++ addPart s.add))
          rw [show addPart s.add = [] by unfold addPart; rw [if_pos ha], List.append_nil]; exact h.out
        · have := h.buf; rw [e] at this ⊢; exact this
      clear ha
      go_wp2
      go_meet
      case rel => exact ⟨outv, p, _, fin.out, Gw.refl _ _ _ _⟩
    · have ha' : 0 < ((s.add.size : Nat) : Int) := by omega
      have hap : addPart s.add = [⟨2, 0, s.add⟩] := by unfold addPart; rw [if_neg ha]
      have HAP : Hid (addPart s.add = [⟨2, 0, s.add⟩]) := hap
      have hpos : 0 < s.add.size := by omega
      have hfar := own_ne HW.out.out HW.out.blk (by decide)
      clear hap ha
      go_wp2_with fail
      go_region_law
        (first | ((refine step_append_lies _ (by rfl) _ _ _ (by rfl) base 61 i0 _ 3 32 Tryd.underlying26 hi0 hz0 hz1 hz2 rfl (by omega) outv s.out.length (cellsOf s.out) (by rfl) (HO1.out.alloc _) ⟨w1.heap.size, 0, none⟩ 1 1 [.int .i64 2, .int .i64 0, .string s.add] (by rfl) (by rfl) (World.news_of_block (cs := #[.int .i64 2, .int .i64 0, .string s.add]) (t := 61) (fr := (0, 0)) (heap_alloc_new w1 _)) (by simp [Value.oneCell']) (by omega) (by unfold maxLen; omega) (by omega) (by simp; omega) (w1.heap.size + 1) (by simp) ?_; intro gg cap2 w2 hown2 hgrow hat hlt'; have HB2 : Hid (Blk w2 wb #[outv, p, .slice ao s.add.size cap, .int .i64 s.drop] 107) := (hgrow.block wb (by simp; omega) (fun e => hfar e.symm)).trans (HB1.out.alloc _); have e0 : w2.cell? ⟨wb, 0, none⟩ = some outv := HB2.out.cell 0 rfl; have f0 := HB2.out.free 0)) | (go_simp; go_at_call 46; refine (string_at wb 1 107 base #[outv, p, .slice ao s.add.size cap, .int .i64 s.drop] (.slice ao s.add.size cap) s.add w.drew HW.out.blk.drew rfl (by exact HW.out.buf.drew) hpos).mono ?_; rintro e w1 ⟨rfl, hW1⟩; have HB1 : Hid (Blk w1 wb #[outv, p, .slice ao s.add.size cap, .int .i64 s.drop] 107) := HW.out.blk.drew.wr hW1 (fun h => own_ne HW.out.buf HW.out.blk (by decide) h.symm); have HO1 : Hid (w1.ownsRow base 61 3 outv s.out.length (cellsOf s.out)) := ownsRow_wr HW.out.out.drew hW1 (fun k hk h => own_apart HW.out.out HW.out.buf (by decide) k hk h.symm); have d0 : w1.cell? ⟨wb, 0, none⟩ = some outv := HB1.out.cell 0 rfl; have hs1 : w.heap.size ≤ w1.heap.size := hW1.size; have hl1 := HB1.out.lt))
      all_goals
        have HB3 : Hid (Blk (w2.setCell ⟨wb, 0, none⟩ (.slice (some ⟨gg, 0, none⟩) (s.out.length + 1) cap2)) wb #[.slice (some ⟨gg, 0, none⟩) (s.out.length + 1) cap2, p, .slice ao s.add.size cap, .int .i64 s.drop] 107) := HB2.out.set 0 _
        have HO3 : Hid ((w2.setCell ⟨wb, 0, none⟩ (.slice (some ⟨gg, 0, none⟩) (s.out.length + 1) cap2)).ownsRow base 61 3 (.slice (some ⟨gg, 0, none⟩) (s.out.length + 1) cap2) (s.out ++ [(⟨2, 0, s.add⟩ : Pt)]).length (cellsOf (s.out ++ [(⟨2, 0, s.add⟩ : Pt)]))) := ownsRow_setCell_other (owns_snoc (n := 0) ⟨2, 0, s.add⟩ hown2) (own_ne hown2 HB2.out (by decide)) _
        have HF3 : Hid (Gw wb outv (.slice ao s.add.size cap) (.slice (some ⟨gg, 0, none⟩) (s.out.length + 1) cap2) (.slice ao s.add.size cap) w (w2.setCell ⟨wb, 0, none⟩ (.slice (some ⟨gg, 0, none⟩) (s.out.length + 1) cap2))) := by
          have f1 : Gw wb outv (.slice ao s.add.size cap) outv (.slice ao s.add.size cap) w w1 := (Gw.here (Below.refl _ _).drew).trans (Gw.bufS hW1)
          have f2 : Gw wb outv (.slice ao s.add.size cap) outv (.slice ao s.add.size cap) w1 (w1.alloc (.cells #[.int .i64 2, .int .i64 0, .string s.add] 61)) := Gw.here ((Below.refl _ _).alloc (Nat.le_refl _) _)
          have f3 : Gw wb outv (.slice ao s.add.size cap) (.slice (some ⟨gg, 0, none⟩) (s.out.length + 1) cap2) (.slice ao s.add.size cap) _ w2 := Gw.out hgrow hat (by simp)
          exact ((f1.trans f2).trans f3).trans (Gw.blk (wr_set w2 wb 0 _))
        clear hown2 hgrow hat hW1 d0 e0 f0
        go_wp2_with (go_at_call 76; refine (reset_any wb 1 107 #[.slice (some ⟨gg, 0, none⟩) (s.out.length + 1) cap2, p, .slice ao s.add.size cap, .int .i64 s.drop] p ao s.add.size cap _ HB3.out rfl HW.out.p rfl).mono ?_; rintro e w4 ⟨rfl, hB4, hW4⟩)
        go_meet
        case rel =>
          refine ⟨.slice (some ⟨gg, 0, none⟩) (s.out.length + 1) cap2, .pointer none, .slice none 0 0, ⟨hB4, Or.inl rfl, ?_, World.ownsRow_nil _ _ _ _, HW.out.bb, Nat.le_trans HW.out.bw (Nat.le_trans HF3.out.wr.size hW4.size)⟩, HF3.out.trans (Gw.nil hW4)⟩
          show w4.ownsRow base 61 3 _ (s.out ++ addPart s.add).length (cellsOf (s.out ++ addPart s.add))
          rw [HAP.out]
          exact ownsRow_wr HO3.out hW4 (fun k hk (e : k = wb) => own_ne HO3.out HB3.out (by decide) (by rw [hk, e]))
  case rest =>
    obtain ⟨outv1, p1, bufv1, W1, F1⟩ := hcut
    have HW1 : Hid (Wt base wb wc ⟨s.out ++ addPart s.add, ⟨#[]⟩, s.drop⟩ outv1 p1 bufv1) := W1
    have HF1 : Hid (Gw wb outv (.slice ao s.add.size cap) outv1 bufv1 w wc) := F1
    have d0 : wc.cell? ⟨wb, 0, none⟩ = some outv1 := W1.blk.cell 0 rfl
    have d3 : wc.cell? ⟨wb, 3, none⟩ = some (.int .i64 s.drop) := W1.blk.cell 3 rfl
    have hbc := W1.bw
    have hwc := W1.blk.lt
    have hll : (s.out ++ addPart s.add).length ≤ 100000001 := by
      rw [List.length_append]; unfold addPart; split <;> simp <;> omega
    clear W1 F1 c0
    by_cases hdz : s.drop = 0
    · have HDZ : Hid (dropPart s.drop = [] ∧ s.drop = 0) := ⟨by unfold dropPart; rw [if_pos hdz], hdz⟩
      have hd0 : s.drop ≤ 0 := by omega
      clear hdz
      go_wp2
      go_end0
      refine ⟨rfl, outv1, p1, bufv1, ?_, HF1.out⟩
      have h := HW1.out
      rw [settle_parts, HDZ.out.1, List.append_nil]
      rw [HDZ.out.2] at h
      exact h
    · have hdp : 0 < s.drop := by omega
      have HDP : Hid (dropPart s.drop = [⟨3, s.drop, ⟨#[]⟩⟩]) := by show _ = _; unfold dropPart; rw [if_neg hdz]
      have hfar := own_ne HW1.out.out HW1.out.blk (by decide)
      have HO1 : Hid (wc.ownsRow base 61 3 outv1 (s.out ++ addPart s.add).length (cellsOf (s.out ++ addPart s.add))) := HW1.out.out
      clear hdz
      generalize hol : s.out ++ addPart s.add = ol at *
      have HOL : Hid (s.out ++ addPart s.add = ol) := hol
      clear hol
      go_wp2_with fail
      go_region_law
        (refine step_append_lies _ (by rfl) _ _ _ (by rfl) base 61 i0 _ 3 32 Tryd.underlying26 hi0 hz0 hz1 hz2 rfl (by omega) outv1 ol.length (cellsOf ol) (by rfl) ((HO1.out.alloc _).drew) ⟨wc.heap.size, 0, none⟩ 1 1 [.int .i64 3, .int .i64 s.drop, .string ⟨#[]⟩] (by rfl) (by rfl) (World.news_of_block (cs := #[.int .i64 3, .int .i64 s.drop, .string ⟨#[]⟩]) (t := 61) (fr := (0, 0)) (heap_alloc_new wc _)) (by simp [Value.oneCell']) (by omega) (by unfold maxLen; omega) (by omega) (by simp; omega) (wc.heap.size + 1) (by simp) ?_; intro gg cap2 w2 hown2 hgrow hat hlt'; have HB2 : Hid (Blk w2 wb #[outv1, p1, bufv1, .int .i64 s.drop] 107) := (hgrow.block wb (by simp; omega) (fun e => hfar e.symm)).trans (HW1.out.blk.alloc _); have e0 : w2.cell? ⟨wb, 0, none⟩ = some outv1 := HB2.out.cell 0 rfl; have f0 := HB2.out.free 0; have e3 : w2.cell? ⟨wb, 3, none⟩ = some (.int .i64 s.drop) := HB2.out.cell 3 rfl; have f3 := HB2.out.free 3)
      all_goals
        have HB3 : Hid (Blk ((w2.setCell ⟨wb, 0, none⟩ (.slice (some ⟨gg, 0, none⟩) (ol.length + 1) cap2)).setCell ⟨wb, 3, none⟩ (.int .i64 0)) wb #[.slice (some ⟨gg, 0, none⟩) (ol.length + 1) cap2, p1, bufv1, .int .i64 0] 107) := (HB2.out.set 0 _).set 3 _
        have HF3 : Hid (Gw wb outv (.slice ao s.add.size cap) (.slice (some ⟨gg, 0, none⟩) (ol.length + 1) cap2) bufv1 w ((w2.setCell ⟨wb, 0, none⟩ (.slice (some ⟨gg, 0, none⟩) (ol.length + 1) cap2)).setCell ⟨wb, 3, none⟩ (.int .i64 0)) ∧ Wr (fun k => k = wb) w2 ((w2.setCell ⟨wb, 0, none⟩ (.slice (some ⟨gg, 0, none⟩) (ol.length + 1) cap2)).setCell ⟨wb, 3, none⟩ (.int .i64 0))) := by
          have f2 : Gw wb outv1 bufv1 outv1 bufv1 wc (wc.alloc (.cells #[.int .i64 3, .int .i64 s.drop, .string ⟨#[]⟩] 61)).drew := Gw.here ((Below.refl _ _).alloc (Nat.le_refl _) _).drew
          have f3 : Gw wb outv1 bufv1 (.slice (some ⟨gg, 0, none⟩) (ol.length + 1) cap2) bufv1 _ w2 := Gw.out hgrow hat (by simp)
          have hw := (wr_set w2 wb 0 (.slice (some ⟨gg, 0, none⟩) (ol.length + 1) cap2)).set (Or.inl rfl) 3 (.int .i64 0)
          exact ⟨((HF1.out.trans f2).trans f3).trans (Gw.blk hw), hw⟩
        have HO3 : Hid (((w2.setCell ⟨wb, 0, none⟩ (.slice (some ⟨gg, 0, none⟩) (ol.length + 1) cap2)).setCell ⟨wb, 3, none⟩ (.int .i64 0)).ownsRow base 61 3 (.slice (some ⟨gg, 0, none⟩) (ol.length + 1) cap2) (ol ++ [(⟨3, s.drop, ⟨#[]⟩⟩ : Pt)]).length (cellsOf (ol ++ [(⟨3, s.drop, ⟨#[]⟩⟩ : Pt)]))) := ownsRow_wr (owns_snoc (n := 0) ⟨3, s.drop, ⟨#[]⟩⟩ hown2) HF3.out.2 (fun k hk (e : k = wb) => own_ne hown2 HB2.out (by decide) (by rw [hk, e]))
        have HBuf : Hid (((w2.setCell ⟨wb, 0, none⟩ (.slice (some ⟨gg, 0, none⟩) (ol.length + 1) cap2)).setCell ⟨wb, 3, none⟩ (.int .i64 0)).ownsRow base 5 1 bufv1 0 []) := by
          have h1 : w2.ownsRow base 5 1 bufv1 0 [] := ownsRow_wr (HW1.out.buf.alloc _).drew (Wr.grown (S := fun k => some k = outv1.ownBlock) hgrow (fun k hk => hk.symm)) (fun k hk h => own_apart HW1.out.buf HO1.out (by decide) k hk h.symm)
          exact ownsRow_wr h1 HF3.out.2 (fun k hk (e : k = wb) => own_ne HW1.out.buf HW1.out.blk (by decide) (by rw [hk, e]))
        clear hown2 hgrow hat d0 d3
        go_wp2
        go_end0
        refine ⟨rfl, .slice (some ⟨gg, 0, none⟩) (ol.length + 1) cap2, p1, bufv1, ⟨HB3.out, HW1.out.p, ?_, HBuf.out, HW.out.bb, Nat.le_trans HW.out.bw HF3.out.1.wr.size⟩, HF3.out.1⟩
        show World.ownsRow _ base 61 3 _ (settleP s).length (cellsOf (settleP s))
        rw [settle_parts, HDP.out, HOL.out]
        exact HO3.out
end Go.Proofs.YtdlolnahbgecjaaDoor
namespace Go.Proofs.YtdlolnahbgecjaaDoor
open Go.RowKit
set_option linter.unusedVariables false

set_option maxRecDepth 100000 in
set_option maxHeartbeats 4000000 in
theorem keep_g (base wb : Nat) (w : World) (s : WS) (outv p bufv : Value) (n : Int) (W : Wt base wb w s outv p bufv) (hd : 0 ≤ s.drop) (hl : s.out.length ≤ 100000000) (hn : 0 ≤ n) (hsum : ∀ r q, settleP s = r ++ [q] → q.k = 1 → 0 ≤ q.n ∧ q.n + n ≤ 9223372036854775807) :
    Calls Tryd.prog 63 #[.pointer (some ⟨wb, 0, none⟩), .int .i64 n] w fun e w' => e = .returned (.tuple #[]) ∧ ∃ outv' p' bufv', Wt base wb w' (keepP s n) outv' p' bufv' ∧ Gw wb outv bufv outv' bufv' w w' := by
  obtain ⟨i0, hi0, hz0, hz1, hz2⟩ := info_parts Tryd.info61
  have HS : Hid (Calls Tryd.prog 65 #[.pointer (some ⟨wb, 0, none⟩)] w fun e w' => e = .returned (.tuple #[]) ∧ ∃ outv' p' bufv', Wt base wb w' ⟨settleP s, ⟨#[]⟩, 0⟩ outv' p' bufv' ∧ Gw wb outv bufv outv' bufv' w w') := settle_g base wb w s outv p bufv W hd hl
  have hll : (settleP s).length ≤ 100000002 := by
    rw [settle_parts, List.length_append, List.length_append]; unfold addPart dropPart; split <;> split <;> simp <;> omega
  have hbb := W.bb
  have hkp : keepP s n = ⟨keepL (settleP s) n, ⟨#[]⟩, 0⟩ := rfl
  rw [hkp]
  have HBW := W.bw
  clear W hkp
  generalize settleP s = L at *
  rcases snoc_cases L with hL | ⟨r, q, hL⟩
  · subst hL
    rw [keepL_nil]
    clear hsum
    go_enter Tryd.func63, Tryd.ntmps63
    go_wp2_with (go_at_call 65; refine HS.out.mono ?_)
    rintro e w1 ⟨rfl, outv1, p1, bufv1, W1, F1⟩
    obtain ⟨ao, cap, hov⟩ := row_slice W1.out
    subst hov
    have HW1 : Hid (Wt base wb w1 ⟨[], ⟨#[]⟩, 0⟩ (.slice ao 0 cap) p1 bufv1) := W1
    have HF1 : Hid (Gw wb outv bufv (.slice ao 0 cap) bufv1 w w1) := F1
    have HB1 : Hid (Blk w1 wb #[.slice ao 0 cap, p1, bufv1, .int .i64 0] 107) := W1.blk
    have HO1 : Hid (w1.ownsRow base 61 3 (.slice ao 0 cap) 0 (cellsOf [])) := W1.out
    have d0 : w1.cell? ⟨wb, 0, none⟩ = some (.slice ao 0 cap) := W1.blk.cell 0 rfl
    have hfar := own_ne W1.out W1.blk (by decide)
    have hbc := W1.bw
    have hwc := W1.blk.lt
    clear W1 F1
    go_wp2_with (at_builtin; refine wpList_append_lies _ rfl _ _ _ rfl base 61 i0 _ 3 32 Tryd.underlying26 hi0 hz0 hz1 hz2 rfl (by omega) _ 0 (cellsOf []) rfl (HO1.out.alloc _) ⟨w1.heap.size, 0, none⟩ 1 1 [.int .i64 1, .int .i64 n, .string ⟨#[]⟩] rfl rfl (World.news_of_block (cs := #[.int .i64 1, .int .i64 n, .string ⟨#[]⟩]) (t := 61) (fr := (0, 0)) (heap_alloc_new w1 _)) (by simp [Value.oneCell']) (by omega) (by unfold maxLen; omega) (by omega) (by simp; omega) (w1.heap.size + 1) (by simp) ?_)
    intro gg cap2 w2 hown2 hgrow hat hlt'
    have HB2 : Hid (Blk w2 wb #[.slice ao 0 cap, p1, bufv1, .int .i64 0] 107) := (hgrow.block wb (by simp; omega) (fun e => hfar e.symm)).trans (HB1.out.alloc _)
    have e0 : w2.cell? ⟨wb, 0, none⟩ = some (.slice ao 0 cap) := HB2.out.cell 0 rfl
    have f0 := HB2.out.free 0
    have hw3 := wr_set w2 wb 0 (.slice (some ⟨gg, 0, none⟩) (0 + 1) cap2)
    have HB3 : Hid (Blk (w2.setCell ⟨wb, 0, none⟩ (.slice (some ⟨gg, 0, none⟩) (0 + 1) cap2)) wb #[.slice (some ⟨gg, 0, none⟩) (0 + 1) cap2, p1, bufv1, .int .i64 0] 107) := HB2.out.set 0 _
    have HO3 : Hid ((w2.setCell ⟨wb, 0, none⟩ (.slice (some ⟨gg, 0, none⟩) (0 + 1) cap2)).ownsRow base 61 3 (.slice (some ⟨gg, 0, none⟩) (0 + 1) cap2) ([] ++ [(⟨1, n, ⟨#[]⟩⟩ : Pt)]).length (cellsOf ([] ++ [(⟨1, n, ⟨#[]⟩⟩ : Pt)]))) := ownsRow_wr (by have h := owns_snoc (n := 0) (out := []) ⟨1, n, ⟨#[]⟩⟩ (by simpa using hown2); exact h) hw3 (fun k hk (e : k = wb) => own_ne hown2 HB2.out (by decide) (by rw [hk, e]))
    have HF3 : Hid (Gw wb outv bufv (.slice (some ⟨gg, 0, none⟩) (0 + 1) cap2) bufv1 w (w2.setCell ⟨wb, 0, none⟩ (.slice (some ⟨gg, 0, none⟩) (0 + 1) cap2))) := by
      have f2 : Gw wb (.slice ao 0 cap) bufv1 (.slice ao 0 cap) bufv1 w1 (w1.alloc (.cells #[.int .i64 1, .int .i64 n, .string ⟨#[]⟩] 61)) := Gw.here ((Below.refl _ _).alloc (Nat.le_refl _) _)
      have f3 : Gw wb (.slice ao 0 cap) bufv1 (.slice (some ⟨gg, 0, none⟩) (0 + 1) cap2) bufv1 _ w2 := Gw.out hgrow hat (by simp)
      exact ((HF1.out.trans f2).trans f3).trans (Gw.blk hw3)
    have HBuf : Hid ((w2.setCell ⟨wb, 0, none⟩ (.slice (some ⟨gg, 0, none⟩) (0 + 1) cap2)).ownsRow base 5 1 bufv1 0 []) := by
      have h1 : w2.ownsRow base 5 1 bufv1 0 [] := ownsRow_wr (HW1.out.buf.alloc _) (Wr.grown (S := fun k => some k = (Value.slice ao 0 cap).ownBlock) hgrow (fun k hk => hk.symm)) (fun k hk h => own_apart HW1.out.buf HW1.out.out (by decide) k hk h.symm)
      exact ownsRow_wr h1 hw3 (fun k hk (e : k = wb) => own_ne HW1.out.buf HW1.out.blk (by decide) (by rw [hk, e]))
    clear hown2 hgrow hat d0 hw3
    go_wp2
    go_end0
    exact ⟨rfl, _, p1, bufv1, ⟨HB3.out, HW1.out.p, HO3.out, HBuf.out, hbb, Nat.le_trans HBW HF3.out.wr.size⟩, HF3.out⟩
  · subst hL
    have hrl : r.length ≤ 100000002 := by simp at hll; omega
    by_cases hq : q.k = 1
    · rw [keepL_same hq]
      obtain ⟨hq0, hq1⟩ := hsum r q rfl hq
      have hqb : (q.k == 1) = true := by simp [hq]
      clear hsum hq
      go_enter Tryd.func63, Tryd.ntmps63
      go_wp2_with (go_at_call 65; refine HS.out.mono ?_)
      rintro e w1 ⟨rfl, outv1, p1, bufv1, W1, F1⟩
      obtain ⟨g, cap, hov, hgb, hgl, c0, c1, c2, cf⟩ := own_snoc W1.out
      subst hov
      have HW1 : Hid (Wt base wb w1 ⟨r ++ [q], ⟨#[]⟩, 0⟩ (.slice (some ⟨g, 0, none⟩) (r.length + 1) cap) p1 bufv1) := W1
      have HF1 : Hid (Gw wb outv bufv (.slice (some ⟨g, 0, none⟩) (r.length + 1) cap) bufv1 w w1) := F1
      have d0 : w1.cell? ⟨wb, 0, none⟩ = some (.slice (some ⟨g, 0, none⟩) (r.length + 1) cap) := W1.blk.cell 0 rfl
      have hne : g ≠ wb := fun e => own_ne W1.out W1.blk (by decide) (by rw [e]; rfl)
      have HO1 : Hid (w1.ownsRow base 61 3 (.slice (some ⟨g, 0, none⟩) (r.length + 1) cap) (r.length + 1) (cellsOf (r ++ [q]))) := by have h := W1.out; rw [show (r ++ [q]).length = r.length + 1 by simp] at h; exact h
      obtain ⟨hst, hgr⟩ := HO1.out.stored (r.length * 3 + 1) (.int .i64 (q.n + n))
      rw [cells_last] at hst
      have hwg : Wr (fun k => some k = (Value.slice (some ⟨g, 0, none⟩) (r.length + 1) cap).ownBlock) w1 (w1.setCell ⟨g, r.length * 3 + 1, none⟩ (.int .i64 (q.n + n))) := Wr.grown hgr (fun k hk => hk.symm)
      have HW2 : Hid (Wt base wb (w1.setCell ⟨g, r.length * 3 + 1, none⟩ (.int .i64 (q.n + n))) ⟨r ++ [⟨q.k, q.n + n, q.t⟩], ⟨#[]⟩, 0⟩ (.slice (some ⟨g, 0, none⟩) (r.length + 1) cap) p1 bufv1) :=
        ⟨W1.blk.wr hwg (fun h => own_ne W1.out W1.blk (by decide) h.symm), W1.p, by show World.ownsRow _ base 61 3 _ (r ++ [_]).length _; rw [show (r ++ [(⟨q.k, q.n + n, q.t⟩ : Pt)]).length = r.length + 1 by simp]; exact hst, ownsRow_wr W1.buf hwg (fun k hk h => own_apart W1.buf W1.out (by decide) k hk h.symm), W1.bb, Nat.le_trans W1.bw hwg.size⟩
      have HF2 : Hid (Gw wb outv bufv (.slice (some ⟨g, 0, none⟩) (r.length + 1) cap) bufv1 w (w1.setCell ⟨g, r.length * 3 + 1, none⟩ (.int .i64 (q.n + n)))) := Gw.trans F1 (Gw.outS hwg)
      clear W1 F1 hst hgr hwg
      go_wp2
      exact bodyPost_ret (v := .tuple #[]) (by simp [results, Tryd.results63, go_sem]) rfl ⟨rfl, _, p1, bufv1, HW2.out, HF2.out⟩
    · rw [keepL_snoc hq]
      have hqb : (q.k == 1) = false := by simp [hq]
      clear hsum hq
      go_enter Tryd.func63, Tryd.ntmps63
      go_wp2_with (go_at_call 65; refine HS.out.mono ?_)
      rintro e w1 ⟨rfl, outv1, p1, bufv1, W1, F1⟩
      obtain ⟨g, cap, hov, hgb, hgl, c0, c1, c2, cf⟩ := own_snoc W1.out
      subst hov
      have HW1 : Hid (Wt base wb w1 ⟨r ++ [q], ⟨#[]⟩, 0⟩ (.slice (some ⟨g, 0, none⟩) (r.length + 1) cap) p1 bufv1) := W1
      have HF1 : Hid (Gw wb outv bufv (.slice (some ⟨g, 0, none⟩) (r.length + 1) cap) bufv1 w w1) := F1
      have HB1 : Hid (Blk w1 wb #[.slice (some ⟨g, 0, none⟩) (r.length + 1) cap, p1, bufv1, .int .i64 0] 107) := W1.blk
      have d0 : w1.cell? ⟨wb, 0, none⟩ = some (.slice (some ⟨g, 0, none⟩) (r.length + 1) cap) := W1.blk.cell 0 rfl
      have HO1 : Hid (w1.ownsRow base 61 3 (.slice (some ⟨g, 0, none⟩) (r.length + 1) cap) (r.length + 1) (cellsOf (r ++ [q]))) := by have h := W1.out; rw [show (r ++ [q]).length = r.length + 1 by simp] at h; exact h
      have hfar := own_ne W1.out W1.blk (by decide)
      have hbc := W1.bw
      have hwc := W1.blk.lt
      clear W1 F1 hgb hgl
      go_wp2_with (at_builtin; refine wpList_append_lies _ rfl _ _ _ rfl base 61 i0 _ 3 32 Tryd.underlying26 hi0 hz0 hz1 hz2 rfl (by omega) _ (r.length + 1) (cellsOf (r ++ [q])) rfl (HO1.out.alloc _) ⟨w1.heap.size, 0, none⟩ 1 1 [.int .i64 1, .int .i64 n, .string ⟨#[]⟩] rfl rfl (World.news_of_block (cs := #[.int .i64 1, .int .i64 n, .string ⟨#[]⟩]) (t := 61) (fr := (0, 0)) (heap_alloc_new w1 _)) (by simp [Value.oneCell']) (by omega) (by unfold maxLen; omega) (by omega) (by simp; omega) (w1.heap.size + 1) (by simp) ?_)
      intro gg cap2 w2 hown2 hgrow hat hlt'
      have HB2 : Hid (Blk w2 wb #[.slice (some ⟨g, 0, none⟩) (r.length + 1) cap, p1, bufv1, .int .i64 0] 107) := (hgrow.block wb (by simp; omega) (fun e => hfar e.symm)).trans (HB1.out.alloc _)
      have e0 : w2.cell? ⟨wb, 0, none⟩ = some (.slice (some ⟨g, 0, none⟩) (r.length + 1) cap) := HB2.out.cell 0 rfl
      have f0 := HB2.out.free 0
      have hw3 := wr_set w2 wb 0 (.slice (some ⟨gg, 0, none⟩) ((r.length + 1) + 1) cap2)
      have HB3 : Hid (Blk (w2.setCell ⟨wb, 0, none⟩ (.slice (some ⟨gg, 0, none⟩) ((r.length + 1) + 1) cap2)) wb #[.slice (some ⟨gg, 0, none⟩) ((r.length + 1) + 1) cap2, p1, bufv1, .int .i64 0] 107) := HB2.out.set 0 _
      have HO3 : Hid ((w2.setCell ⟨wb, 0, none⟩ (.slice (some ⟨gg, 0, none⟩) ((r.length + 1) + 1) cap2)).ownsRow base 61 3 (.slice (some ⟨gg, 0, none⟩) ((r.length + 1) + 1) cap2) ((r ++ [q]) ++ [(⟨1, n, ⟨#[]⟩⟩ : Pt)]).length (cellsOf ((r ++ [q]) ++ [(⟨1, n, ⟨#[]⟩⟩ : Pt)]))) := ownsRow_wr (by have h := owns_snoc (n := 0) (out := (r ++ [q])) ⟨1, n, ⟨#[]⟩⟩ (by simpa using hown2); exact h) hw3 (fun k hk (e : k = wb) => own_ne hown2 HB2.out (by decide) (by rw [hk, e]))
      have HF3 : Hid (Gw wb outv bufv (.slice (some ⟨gg, 0, none⟩) ((r.length + 1) + 1) cap2) bufv1 w (w2.setCell ⟨wb, 0, none⟩ (.slice (some ⟨gg, 0, none⟩) ((r.length + 1) + 1) cap2))) := by
        have f2 : Gw wb (.slice (some ⟨g, 0, none⟩) (r.length + 1) cap) bufv1 (.slice (some ⟨g, 0, none⟩) (r.length + 1) cap) bufv1 w1 (w1.alloc (.cells #[.int .i64 1, .int .i64 n, .string ⟨#[]⟩] 61)) := Gw.here ((Below.refl _ _).alloc (Nat.le_refl _) _)
        have f3 : Gw wb (.slice (some ⟨g, 0, none⟩) (r.length + 1) cap) bufv1 (.slice (some ⟨gg, 0, none⟩) ((r.length + 1) + 1) cap2) bufv1 _ w2 := Gw.out hgrow hat (by simp)
        exact ((HF1.out.trans f2).trans f3).trans (Gw.blk hw3)
      have HBuf : Hid ((w2.setCell ⟨wb, 0, none⟩ (.slice (some ⟨gg, 0, none⟩) ((r.length + 1) + 1) cap2)).ownsRow base 5 1 bufv1 0 []) := by
        have h1 : w2.ownsRow base 5 1 bufv1 0 [] := ownsRow_wr (HW1.out.buf.alloc _) (Wr.grown (S := fun k => some k = (Value.slice (some ⟨g, 0, none⟩) (r.length + 1) cap).ownBlock) hgrow (fun k hk => hk.symm)) (fun k hk h => own_apart HW1.out.buf HW1.out.out (by decide) k hk h.symm)
        exact ownsRow_wr h1 hw3 (fun k hk (e : k = wb) => own_ne HW1.out.buf HW1.out.blk (by decide) (by rw [hk, e]))
      clear hown2 hgrow hat d0 hw3
      go_wp2
      go_end0
      exact ⟨rfl, _, p1, bufv1, ⟨HB3.out, HW1.out.p, HO3.out, HBuf.out, hbb, Nat.le_trans HBW HF3.out.wr.size⟩, HF3.out⟩
end Go.Proofs.YtdlolnahbgecjaaDoor
namespace Go.Proofs.YtdlolnahbgecjaaDoor
open Go.RowKit
set_option linter.unusedVariables false

set_option maxRecDepth 100000 in
set_option maxHeartbeats 4000000 in
theorem lay_g (base wb : Nat) (w : World) (s : WS) (outv p bufv : Value) (q : Pt) (W : Wt base wb w s outv p bufv) (hok : okPt q = true) (hd : 0 ≤ s.drop) (hl : s.out.length ≤ 100000000) (ha : s.add.size + q.t.size ≤ 100000000) (hdn : q.k = 3 → s.drop + q.n ≤ 9223372036854775807)
    (hsum : q.k = 1 → ∀ r x, settleP s = r ++ [x] → x.k = 1 → 0 ≤ x.n ∧ x.n + q.n ≤ 9223372036854775807) :
    Calls Tryd.prog 56 #[.pointer (some ⟨wb, 0, none⟩), .agg #[.int .i64 q.k, .int .i64 q.n, .string q.t]] w fun e w' => e = .returned (.tuple #[]) ∧ ∃ outv' p' bufv', Wt base wb w' (layP s q) outv' p' bufv' ∧ Gw wb outv bufv outv' bufv' w w' := by
  have HW : Hid (Wt base wb w s outv p bufv) := W
  have hw0 : Hid (Below w.heap.size w (w.alloc (.cells #[.int .i64 q.k, .int .i64 q.n, .string q.t] 61))) := (Below.refl _ _).alloc (Nat.le_refl _) _
  have hwl := W.blk.lt
  rcases ok_cases hok with ⟨h13, hn, hts⟩ | ⟨h2, hn, hts⟩
  · rcases h13 with h1 | h3
    · have HL : Hid (layP s q = keepP s q.n) := by show _ = _; unfold layP; rw [if_pos h1]
      rw [HL.out]
      have HK : Hid (∀ wx, Wt base wb wx s outv p bufv → Calls Tryd.prog 63 #[.pointer (some ⟨wb, 0, none⟩), .int .i64 q.n] wx fun e w' => e = .returned (.tuple #[]) ∧ ∃ outv' p' bufv', Wt base wb w' (keepP s q.n) outv' p' bufv' ∧ Gw wb outv bufv outv' bufv' wx w') := fun wx Wx => keep_g base wb wx s outv p bufv q.n Wx hd hl (by omega) (hsum h1)
      have k1 : (q.k == 1) = true := by simp [h1]
      clear W hok h1 hts hsum hdn
      go_enter Tryd.func56, Tryd.ntmps56
      go_wp2_with (go_at_call 63; refine (HK.out _ (HW.out.here hw0.out)).mono ?_; rintro e w1 ⟨rfl, o1, p1, b1, W1, F1⟩; have HW1 : Hid (Wt base wb w1 (keepP s q.n) o1 p1 b1) := W1; have HF1 := F1; clear W1)
      go_end0
      exact ⟨rfl, o1, p1, b1, HW1.out, (Gw.here hw0.out).trans HF1⟩
    · have HL : Hid (layP s q = ⟨s.out, s.add, s.drop + q.n⟩) := by show _ = _; unfold layP; rw [if_neg (by omega), if_neg (by omega)]
      rw [HL.out]
      have k1 : (q.k == 1) = false := by simp [h3]
      have k2 : (q.k == 2) = false := by simp [h3]
      have k3 : (q.k == 3) = true := by simp [h3]
      have hb := hdn h3
      have d3 : ∀ o, (w.alloc o).cell? ⟨wb, 3, none⟩ = some (.int .i64 s.drop) := fun o => (W.blk.alloc o).cell 3 rfl
      have f3 : ∀ o, (w.alloc o).frozen? ⟨wb, 3, none⟩ = false := fun o => (W.blk.alloc o).free 3
      clear W hok h3 hts hsum hdn
      go_enter Tryd.func56, Tryd.ntmps56
      go_wp2
      go_region
      go_wp2
      go_end0
      obtain ⟨D2, _⟩ := HW.out.setDrop (s.drop + q.n)
      have F2 : Gw wb outv bufv outv bufv w (w.setCell ⟨wb, 3, none⟩ (.int .i64 (s.drop + q.n))) := Gw.blk (wr_set w wb 3 _)
      have hb := ((Below.refl _ (w.setCell ⟨wb, 3, none⟩ (.int .i64 (s.drop + q.n)))).alloc (Nat.le_refl _) (.cells #[.int .i64 q.k, .int .i64 q.n, .string q.t] 61)).drew
      exact ⟨rfl, outv, p, bufv, D2.here hb, F2.trans (Gw.here hb)⟩
  · have HL : Hid (layP s q = ⟨s.out, s.add ++ q.t, s.drop⟩) := by show _ = _; unfold layP; rw [if_neg (by omega), if_pos h2]
    rw [HL.out]
    have k1 : (q.k == 1) = false := by simp [h2]
    have k2 : (q.k == 2) = true := by simp [h2]
    have HA : Hid (s.add.size + q.t.size ≤ 140737488355328) := by show _ ≤ _; omega
    clear W hok h2 hts hsum hdn hn
    go_enter Tryd.func56, Tryd.ntmps56
    go_wp2
    go_region_with (go_at_call 45; refine (wt_write_g (HW.out.here (w' := (w.alloc (.cells #[.int .i64 q.k, .int .i64 q.n, .string q.t] 61)).drew) hw0.out.drew) q.t HA.out).mono ?_; rintro e w1 ⟨rfl, p1, b1, W1, F1⟩)
    have HW1 : Hid (Wt base wb w1 ⟨s.out, s.add ++ q.t, s.drop⟩ outv p1 b1) := W1
    have HF1 : Hid (Gw wb outv bufv outv b1 w w1) := (Gw.here hw0.out.drew).trans F1
    clear W1 F1
    go_wp2
    go_end0
    exact ⟨rfl, outv, p1, b1, HW1.out, HF1.out⟩

set_option maxRecDepth 100000 in
set_option maxHeartbeats 1000000 in
theorem change_g (base wb : Nat) (w : World) (s : WS) (outv p bufv : Value) (W : Wt base wb w s outv p bufv) (hd : 0 ≤ s.drop) (hl : s.out.length ≤ 100000000) :
    Calls Tryd.prog 57 #[.pointer (some ⟨wb, 0, none⟩)] w fun e w' => ∃ v, e = .returned v ∧ w'.ownsRow base 61 3 v (settleP s).length (cellsOf (settleP s)) ∧ Wr (fun k => k = wb ∨ some k = outv.ownBlock ∨ some k = bufv.ownBlock) w w' ∧ ∀ k, some k = v.ownBlock → (k = wb ∨ some k = outv.ownBlock ∨ some k = bufv.ownBlock) ∨ w.heap.size ≤ k := by
  have HS : Hid (Calls Tryd.prog 65 #[.pointer (some ⟨wb, 0, none⟩)] w fun e w' => e = .returned (.tuple #[]) ∧ ∃ outv' p' bufv', Wt base wb w' ⟨settleP s, ⟨#[]⟩, 0⟩ outv' p' bufv' ∧ Gw wb outv bufv outv' bufv' w w') := settle_g base wb w s outv p bufv W hd hl
  clear W
  go_enter Tryd.func57, Tryd.ntmps57
  go_wp2_with (go_at_call 65; refine HS.out.mono ?_)
  rintro e w1 ⟨rfl, o1, p1, b1, W1, F1⟩
  have HO : Hid (w1.ownsRow base 61 3 o1 (settleP s).length (cellsOf (settleP s))) := W1.out
  have d0 : w1.cell? ⟨wb, 0, none⟩ = some o1 := W1.blk.cell 0 rfl
  have HF1 : Hid (Gw wb outv bufv o1 b1 w w1) := F1
  clear W1 F1
  go_wp2
  go_ret
  exact ⟨o1, rfl, HO.out, HF1.out.wr, fun k h => HF1.out.own k (Or.inl h)⟩
end Go.Proofs.YtdlolnahbgecjaaDoor
