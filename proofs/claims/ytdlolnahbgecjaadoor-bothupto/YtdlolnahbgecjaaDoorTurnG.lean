import Derived.Test.YtdlolnahbgecjaaDoorTurned
import Derived.Test.YtdlolnahbgecjaaDoorJoinG
namespace Go.Proofs.YtdlolnahbgecjaaDoor
open Go.RowKit
set_option linter.unusedVariables false

def tCode (ps qs : List Pt) : Int := if Good ps = false ∨ Good qs = false then 1 else if From ps < 0 ∨ From qs < 0 ∨ From ps ≠ From qs then 2 else 0
def tOut1 (ps qs : List Pt) : List Pt := if tCode ps qs = 0 then settleP (Tn (shortL ps) (shortL qs) ws0 ws0).1 else []
def tOut2 (ps qs : List Pt) : List Pt := if tCode ps qs = 0 then settleP (Tn (shortL ps) (shortL qs) ws0 ws0).2 else []
def tErr (ps qs : List Pt) (f c : Addr) : Option Addr := if tCode ps qs = 0 then none else if tCode ps qs = 1 then some c else some f
theorem tErr_or (ps qs : List Pt) (f c : Addr) : tErr ps qs f c = none ∨ tErr ps qs f c = some f ∨ tErr ps qs f c = some c := by
  unfold tErr; split
  · exact Or.inl rfl
  · split
    · exact Or.inr (Or.inr rfl)
    · exact Or.inr (Or.inl rfl)
theorem tCode_or (ps qs : List Pt) : tCode ps qs = 0 ∨ tCode ps qs = 1 ∨ tCode ps qs = 2 := by
  unfold tCode; split
  · simp
  · split <;> simp
theorem tErr_num (ps qs : List Pt) (f c : Addr) (h : f ≠ c) : numOf f c (tErr ps qs f c) = tCode ps qs := by
  rcases tCode_or ps qs with e | e | e <;> simp [tErr, e, numOf, h]
theorem mem_bd {l : List Pt} (h : allOk l) : ∀ p ∈ l, p.n ≤ sumL l ∧ p.t.size ≤ textL l := by
  induction l with
  | nil => intro p hp; cases hp
  | cons q r ih =>
    obtain ⟨oq, hr⟩ := allOk_cons h
    have n1 := okP_nn oq
    have n2 := allOk_nn hr
    intro p hp
    simp only [sumL, textL]
    rcases List.mem_cons.1 hp with rfl | hp
    · exact ⟨by omega, by omega⟩
    · have := ih hr p hp; exact ⟨by omega, by omega⟩
theorem psz_bd {l : List Pt} (h : allOk l) (hs : sumL l ≤ 4611686018427387904) (ht : textL l ≤ 10000000) (i : Nat) : psz (nth l i) ≤ 9223372036854775807 := by
  by_cases hi : i < l.length
  · have hm : nth l i ∈ l := by simp only [nth, List.getD, List.getElem?_eq_getElem hi, Option.getD_some]; exact List.getElem_mem _
    have := mem_bd h _ hm
    unfold psz; omega
  · simp [nth, psz, List.getD, List.getElem?_eq_none (by omega : l.length ≤ i)]
/-- what is known of a change in short -/
structure ShOk (l : List Pt) : Prop where
  ok : allOk l
  len : l.length ≤ 1048576
  sum : sumL l ≤ 4611686018427387904
  txt : textL l ≤ 1048576
theorem sh_ok {w : World} {ps : List Pt} {ao : Option Addr} {b o : Nat} (A : Arg w ps ao b o) (hg : Good ps = true) {s : Int} (hf : fromTo ps ps.length = some s) : ShOk (shortL ps) ∧ sumL (shortL ps) = s := by
  have h := shTo_ok hg ps.length (Nat.le_refl _) s hf
  have hs := shTo_sum hg ps.length (Nat.le_refl _)
  rw [shTo_all] at h hs
  rw [List.take_length] at hs
  have e1 := fromTo_sum _ _ (Nat.le_refl _) hf
  rw [List.take_length] at e1
  have hb := made_bd (A.nn hg) _ _ hf
  have := A.len
  have := A.text
  have := h.len
  have := h.txt
  have := h.sum
  exact ⟨⟨h.ok, by omega, by omega, by omega⟩, by omega⟩
theorem tok_start {l r : List Pt} (h1 : ShOk l) (h2 : ShOk r) (he : sumL l = sumL r) : TOk l r ws0 ws0 0 0 0 0 0 0 := by
  have e1 := sum_from h1.ok
  have e2 := sum_from h2.ok
  have a1 := h1.len
  have a2 := h2.len
  have a3 := h1.sum
  have a4 := h2.sum
  have a5 := h1.txt
  have a6 := h2.txt
  exact ⟨h1.ok, h2.ok, by omega, SOk.zero, SOk.zero, by omega, by omega, by omega, by omega, by omega, by omega⟩
theorem rr_own {W : World} {B : Nat} {l : List Pt} {ao : Option Addr} {cap rb : Nat} (hl : ShOk l) (ho : W.ownsRow B 61 3 (.slice ao l.length cap) l.length (cellsOf l)) (R : Rd W rb (.slice ao l.length cap) 0 0) (hrb : ∀ k, (Value.slice ao l.length cap).ownBlock = some k → k ≠ rb) : ∃ b, Rr W.heap.size W rb b l ∧ ((B ≤ b ∧ (Value.slice ao l.length cap).ownBlock = some b) ∨ b = rb) := by
  have hu : (0 : Nat) < l.length → 0 < pl (nth l 0) := fun h => by have := pl_pos (nth_ok hl.ok h); omega
  have hsz := psz_bd hl.ok hl.sum (by have := hl.txt; omega)
  rcases Nat.eq_zero_or_pos l.length with hz | hz
  · exact ⟨rb, ⟨⟨0, cap, ao, l, 0, 0, R, by omega, hu, by rw [remL_zero hl.ok]; rfl, fun i hi => by omega, fun h => by omega, hl.ok, hl.len, hsz⟩, R.lt, Nat.le_refl _⟩, Or.inr rfl⟩
  · obtain ⟨ao', g, cap', hv, ha, hat, _⟩ := Owns.form (show Owns W B (.slice ao l.length cap) l from ho)
    obtain ⟨rfl, hg1, hg2⟩ := ha hz
    simp only [Value.slice.injEq, true_and] at hv
    obtain ⟨rfl, rfl⟩ := hv
    have hob : (Value.slice (some ⟨g, 0, none⟩) l.length cap).ownBlock = some g := rfl
    exact ⟨g, ⟨⟨0, cap, _, l, 0, 0, R, by omega, hu, by rw [remL_zero hl.ok]; rfl, hat, fun h => ⟨rfl, hg2, hrb g hob⟩, hl.ok, hl.len, hsz⟩, R.lt, Nat.le_refl _⟩, Or.inl ⟨hg1, hob⟩⟩

/-- two changes in short, turned: the readers are made just ahead -/
theorem turned_own (wa wb : World) (B : Nat) (l r : List Pt) (ao bo : Option Addr) (c1 c2 : Nat) (hl : ShOk l) (hr : ShOk r) (he : sumL l = sumL r) (h1 : wa.ownsRow B 61 3 (.slice ao l.length c1) l.length (cellsOf l))
    (hb : Below (wa.heap.size + 1) (wa.alloc (.cells #[.slice ao l.length c1, .int .i64 0, .int .i64 0] 110)) wb) (h2 : wb.ownsRow (wa.heap.size + 1) 61 3 (.slice bo r.length c2) r.length (cellsOf r)) :
    Calls Tryd.prog 49 #[.pointer (some ⟨wa.heap.size, 0, none⟩), .pointer (some ⟨wb.heap.size, 0, none⟩)] (wb.alloc (.cells #[.slice bo r.length c2, .int .i64 0, .int .i64 0] 110)) fun e w' => ∃ u v, e = .returned (.tuple #[u, v]) ∧ w'.ownsRow (wb.heap.size + 1) 61 3 u (settleP (Tn l r ws0 ws0).1).length (cellsOf (settleP (Tn l r ws0 ws0).1)) ∧ w'.ownsRow (wb.heap.size + 1) 61 3 v (settleP (Tn l r ws0 ws0).2).length (cellsOf (settleP (Tn l r ws0 ws0).2)) ∧ Below wa.heap.size wa w' ∧ ∀ k, u.ownBlock = some k → v.ownBlock ≠ some k := by
  have hs := hb.size
  have hsa : (wa.alloc (.cells #[.slice ao l.length c1, .int .i64 0, .int .i64 0] 110)).heap.size = wa.heap.size + 1 := by simp
  have hsb : (wb.alloc (.cells #[.slice bo r.length c2, .int .i64 0, .int .i64 0] 110)).heap.size = wb.heap.size + 1 := by simp
  rw [hsa] at hs
  have hB2 : Below (wa.heap.size + 1) (wa.alloc (.cells #[.slice ao l.length c1, .int .i64 0, .int .i64 0] 110)) (wb.alloc (.cells #[.slice bo r.length c2, .int .i64 0, .int .i64 0] 110)) := hb.alloc (by omega) _
  have hba : Below wa.heap.size wa (wb.alloc (.cells #[.slice bo r.length c2, .int .i64 0, .int .i64 0] 110)) := ((Below.refl _ _).alloc (Nat.le_refl _) _).trans (hB2.mono (by omega))
  have o1 : (wb.alloc (.cells #[.slice bo r.length c2, .int .i64 0, .int .i64 0] 110)).ownsRow B 61 3 (.slice ao l.length c1) l.length (cellsOf l) := own_here h1 hba
  have o2 := h2.alloc (.cells #[.slice bo r.length c2, .int .i64 0, .int .i64 0] 110)
  obtain ⟨d1, r1, q1⟩ := rr_own (rb := wa.heap.size) hl o1 ((Blk.new wa _ 110).below hB2 (by omega)) (fun k hk => by have := own_block_lt h1 hk; omega)
  obtain ⟨d2, r2, q2⟩ := rr_own (rb := wb.heap.size) hr o2 (Blk.new wb _ 110) (fun k hk => by have := own_block_lt h2 hk; omega)
  refine (turned_any wa.heap.size wb.heap.size d1 d2 _ l r r1 r2 (by omega) ?_ ?_ (tok_start hl hr he)).mono ?_
  · rcases q1 with q | q
    · have := own_block_lt h1 q.2; omega
    · omega
  · rcases q2 with q | q <;> omega
  · rintro e w' ⟨u, v, rfl, hu, hv, hw, ap⟩
    rw [hsb] at hu hv
    exact ⟨u, v, rfl, hu, hv, hba.trans (wr_two_below hw (Nat.le_refl _) (by omega) hba.size), ap⟩
end Go.Proofs.YtdlolnahbgecjaaDoor
namespace Go.Proofs.YtdlolnahbgecjaaDoor
open Go.RowKit
set_option linter.unusedVariables false

set_option maxRecDepth 100000 in
set_option maxHeartbeats 4000000 in
theorem turn_any {N : Nat} {f c : Addr} (ps qs : List Pt) (ao bo : Option Addr) (b1 o1 c1 b2 o2 c2 : Nat) (w : World) (E : Env N f c w) (A : Arg w ps ao b1 o1) (B : Arg w qs bo b2 o2) :
    Calls Tryd.prog 35 #[.slice ao ps.length c1, .slice bo qs.length c2] w fun e w' => ∃ u v x, e = .returned (.tuple #[u, v, x]) ∧ w'.ownsRow w.heap.size 61 3 u (tOut1 ps qs).length (cellsOf (tOut1 ps qs)) ∧ w'.ownsRow w.heap.size 61 3 v (tOut2 ps qs).length (cellsOf (tOut2 ps qs)) ∧ (∀ k, u.ownBlock = some k → v.ownBlock ≠ some k) ∧ ErrIs w' x (tErr ps qs f c) ∧ Below w.heap.size w w' := by
  have HE : Hid (Env N f c w) := E
  have hnn : ∀ k, (Value.slice none 0 0).ownBlock = some k → (Value.slice none 0 0).ownBlock ≠ some k := fun k h => by simp [Value.ownBlock] at h
  have HNN : Hid (∀ k, (Value.slice none 0 0).ownBlock = some k → (Value.slice none 0 0).ownBlock ≠ some k) := hnn
  clear hnn
  by_cases hg : Good ps = false ∨ Good qs = false
  · have hc : tCode ps qs = 1 := by unfold tCode; rw [if_pos hg]
    have HO : Hid (tOut1 ps qs = [] ∧ tOut2 ps qs = []) := ⟨by unfold tOut1; rw [if_neg (by omega)], by unfold tOut2; rw [if_neg (by omega)]⟩
    have HR : Hid (tErr ps qs f c = some c) := by show _ = _; unfold tErr; rw [if_neg (by omega), if_pos hc]
    have HC := checkBoth_bad ps qs ao bo b1 o1 c1 b2 o2 c2 w E A B hg
    have HC' : Hid (Calls Tryd.prog 47 #[.slice ao ps.length c1, .slice bo qs.length c2] w fun e w' => ∃ t' p', e = .returned (.iface t' p') ∧ ErrIs w' (.iface t' p') (some c) ∧ Below w.heap.size w w') := HC
    clear HC E A B hg hc
    rw [HO.out.1, HO.out.2, HR.out]
    go_enter Tryd.func35, Tryd.ntmps35
    go_wp2_with fail
    refine HC'.out.mono ?_
    rintro e w1 ⟨t', p', rfl, hv1, hb1⟩
    have HV1 : Hid (ErrIs w1 (.iface t' p') (some c)) := hv1
    clear hv1
    go_wp2
    exact bodyPost_ret (v := .tuple #[.slice none 0 0, .slice none 0 0, .iface 76 (.pointer (some ⟨w1.heap.size, 0, none⟩))]) (by simp [results, Tryd.results35, go_sem]) rfl ⟨.slice none 0 0, .slice none 0 0, .iface 76 (.pointer (some ⟨w1.heap.size, 0, none⟩)), rfl, World.ownsRow_nil _ _ _ _, World.ownsRow_nil _ _ _ _, HNN.out, errIs_wrap HV1.out rfl _, hb1.alloc hb1.size _⟩
  · have g1 : Good ps = true := by cases e : Good ps with | true => rfl | false => exact absurd (Or.inl e) hg
    have g2 : Good qs = true := by cases e : Good qs with | true => rfl | false => exact absurd (Or.inr e) hg
    have HC : Hid (Calls Tryd.prog 47 #[.slice ao ps.length c1, .slice bo qs.length c2] w fun e w' => e = .returned .nilIface ∧ Below w.heap.size w w') := checkBoth_good ps qs ao bo b1 o1 c1 b2 o2 c2 w E A B ⟨g1, g2⟩
    cases hf : fromTo ps ps.length with
    | none =>
      have hF : From ps = -1 := by unfold From; rw [hf]; rfl
      have hc : tCode ps qs = 2 := by unfold tCode; rw [if_neg hg, if_pos (Or.inl (by omega))]
      have HO : Hid (tOut1 ps qs = [] ∧ tOut2 ps qs = []) := ⟨by unfold tOut1; rw [if_neg (by omega)], by unfold tOut2; rw [if_neg (by omega)]⟩
      have HR : Hid (tErr ps qs f c = some f) := by show _ = _; unfold tErr; rw [if_neg (by omega), if_neg (by omega)]
      have HS : Hid (∀ wx, Below w.heap.size w wx → Calls Tryd.prog 37 #[.slice ao ps.length c1] wx fun e w' => ∃ t' p', e = .returned (.tuple #[.int .i64 0, .int .i64 0, .iface t' p']) ∧ ErrIs w' (.iface t' p') (some f) ∧ Below wx.heap.size wx w') := fun wx hb => size_bad ps ao b1 o1 c1 wx (E.here hb) (A.below hb A.lt) g1 hf
      clear E A B hg hc g1 g2 hf hF
      rw [HO.out.1, HO.out.2, HR.out]
      go_enter Tryd.func35, Tryd.ntmps35
      go_wp2_with fail
      refine HC.out.mono ?_
      rintro e w1 ⟨rfl, hb1⟩
      go_wp2_with fail
      refine (HS.out w1 hb1).mono ?_
      rintro e w2 ⟨t', p', rfl, hv2, hb2⟩
      have HV2 : Hid (ErrIs w2 (.iface t' p') (some f)) := hv2
      clear hv2
      go_wp2
      exact bodyPost_ret (v := .tuple #[.slice none 0 0, .slice none 0 0, .iface 76 (.pointer (some ⟨w2.heap.size, 0, none⟩))]) (by simp [results, Tryd.results35, go_sem]) rfl ⟨.slice none 0 0, .slice none 0 0, .iface 76 (.pointer (some ⟨w2.heap.size, 0, none⟩)), rfl, World.ownsRow_nil _ _ _ _, World.ownsRow_nil _ _ _ _, HNN.out, errIs_wrap HV2.out rfl _, (hb1.trans (hb2.mono hb1.size)).alloc (Nat.le_trans hb1.size hb2.size) _⟩
    | some s =>
      have hF : From ps = s := by unfold From; rw [hf]; rfl
      have hsb := made_bd (A.nn g1) _ _ hf
      have htx := A.text
      have HS : Hid (∀ wx, Below w.heap.size w wx → Calls Tryd.prog 37 #[.slice ao ps.length c1] wx fun e w' => e = .returned (.tuple #[.int .i64 s, .int .i64 (madeTo ps ps.length), .nilIface]) ∧ Below wx.heap.size wx w') := fun wx hb => size_good ps ao b1 o1 c1 wx (E.here hb) (A.below hb A.lt) g1 hf
      have HFit := fun wx (hb : Below w.heap.size w wx) => fit_any qs bo b2 o2 c2 s wx (E.here hb) (B.below hb B.lt) (by omega) (by omega)
      by_cases hfit : From qs < 0 ∨ From qs ≠ s
      · have hc : tCode ps qs = 2 := by unfold tCode; rw [if_neg hg, if_pos (by rw [hF]; rcases hfit with h | h; exact Or.inr (Or.inl h); exact Or.inr (Or.inr (fun e => h e.symm)))]
        have HO : Hid (tOut1 ps qs = [] ∧ tOut2 ps qs = []) := ⟨by unfold tOut1; rw [if_neg (by omega)], by unfold tOut2; rw [if_neg (by omega)]⟩
        have HR : Hid (tErr ps qs f c = some f) := by show _ = _; unfold tErr; rw [if_neg (by omega), if_neg (by omega)]
        have hfe : fitErr qs s f c = some f := by unfold fitErr; rw [if_neg (by simp [g2]), if_pos hfit]
        have hfv : fitVal qs s = 0 := by unfold fitVal refFit; rw [if_neg (by simp [g2]), if_pos hfit]
        have HT : Hid (∀ wx, Below w.heap.size w wx → Calls Tryd.prog 25 #[.slice bo qs.length c2, .int .i64 s] wx fun e w' => ∃ t' p', e = .returned (.tuple #[.int .i64 0, .iface t' p']) ∧ ErrIs w' (.iface t' p') (some f) ∧ Below wx.heap.size wx w') := fun wx hb => by
          refine (HFit wx hb).mono ?_
          rw [hfe, hfv]
          rintro e w1 ⟨v, rfl, ⟨d, hv⟩, hb⟩
          obtain ⟨t', p', rfl⟩ := hv.shape
          exact ⟨t', p', rfl, ⟨d, hv⟩, hb⟩
        clear HFit E A B hg hc g1 g2 hf hF hsb htx hfit hfe hfv
        rw [HO.out.1, HO.out.2, HR.out]
        generalize madeTo ps ps.length = mm at *
        go_enter Tryd.func35, Tryd.ntmps35
        go_wp2_with fail
        refine HC.out.mono ?_
        rintro e w1 ⟨rfl, hb1⟩
        go_wp2_with fail
        refine (HS.out w1 hb1).mono ?_
        rintro e w2 ⟨rfl, hb2⟩
        have hbw2 : Below w.heap.size w w2 := hb1.trans (hb2.mono hb1.size)
        go_wp2_with fail
        refine (HT.out w2 hbw2).mono ?_
        rintro e w3 ⟨t', p', rfl, hv3, hb3⟩
        have HV3 : Hid (ErrIs w3 (.iface t' p') (some f)) := hv3
        clear hv3
        go_wp2
        exact bodyPost_ret (v := .tuple #[.slice none 0 0, .slice none 0 0, .iface 76 (.pointer (some ⟨w3.heap.size, 0, none⟩))]) (by simp [results, Tryd.results35, go_sem]) rfl ⟨.slice none 0 0, .slice none 0 0, .iface 76 (.pointer (some ⟨w3.heap.size, 0, none⟩)), rfl, World.ownsRow_nil _ _ _ _, World.ownsRow_nil _ _ _ _, HNN.out, errIs_wrap HV3.out rfl _, (hbw2.trans (hb3.mono hbw2.size)).alloc (Nat.le_trans hbw2.size hb3.size) _⟩
      · have hFq : From qs = s := Decidable.byContradiction fun h => hfit (Or.inr h)
        obtain ⟨t, ht⟩ : ∃ t, fromTo qs qs.length = some t := by
          cases e : fromTo qs qs.length with
          | none => exfalso; apply hfit; left; simp [From, e]
          | some t => exact ⟨t, rfl⟩
        have hts : t = s := by have h : From qs = t := by { simp [From, ht] }; omega
        subst hts
        have hc : tCode ps qs = 0 := by unfold tCode; rw [if_neg hg, if_neg (by omega)]
        have HO : Hid (tOut1 ps qs = settleP (Tn (shortL ps) (shortL qs) ws0 ws0).1 ∧ tOut2 ps qs = settleP (Tn (shortL ps) (shortL qs) ws0 ws0).2) := ⟨by unfold tOut1; rw [if_pos hc], by unfold tOut2; rw [if_pos hc]⟩
        have HR : Hid (tErr ps qs f c = none) := by show _ = _; unfold tErr; rw [if_pos hc]
        have hfe : fitErr qs t f c = none := by unfold fitErr; rw [if_neg (by simp [g2]), if_neg hfit]
        have HT : Hid (∀ wx, Below w.heap.size w wx → Calls Tryd.prog 25 #[.slice bo qs.length c2, .int .i64 t] wx fun e w' => e = .returned (.tuple #[.int .i64 (fitVal qs t), .nilIface]) ∧ Below wx.heap.size wx w') := fun wx hb => by
          refine (HFit wx hb).mono ?_
          rw [hfe]
          rintro e w1 ⟨v, rfl, rfl, hb⟩
          exact ⟨rfl, hb⟩
        have h1 := sh_ok A g1 hf
        have h2 := sh_ok B g2 ht
        have HSh1 : Hid (∀ wx, Below w.heap.size w wx → Calls Tryd.prog 40 #[.slice ao ps.length c1] wx fun e w' => ∃ a1 d1, e = .returned (.slice a1 (shortL ps).length d1) ∧ w'.ownsRow wx.heap.size 61 3 (.slice a1 (shortL ps).length d1) (shortL ps).length (cellsOf (shortL ps)) ∧ Below wx.heap.size wx w') := fun wx hb => by
          refine (shortened_any ps ao b1 o1 c1 t wx (A.lst g1) hf A.ao (A.cells.below hb A.lt) (fun h => Nat.lt_of_lt_of_le (A.lt h) hb.size)).mono ?_
          rintro e w' ⟨v, rfl, ho, hb'⟩
          obtain ⟨a1, d1, rfl⟩ := row_slice ho
          exact ⟨a1, d1, rfl, ho, hb'⟩
        have HSh2 : Hid (∀ wx, Below w.heap.size w wx → Calls Tryd.prog 40 #[.slice bo qs.length c2] wx fun e w' => ∃ a1 d1, e = .returned (.slice a1 (shortL qs).length d1) ∧ w'.ownsRow wx.heap.size 61 3 (.slice a1 (shortL qs).length d1) (shortL qs).length (cellsOf (shortL qs)) ∧ Below wx.heap.size wx w') := fun wx hb => by
          refine (shortened_any qs bo b2 o2 c2 t wx (B.lst g2) ht B.ao (B.cells.below hb B.lt) (fun h => Nat.lt_of_lt_of_le (B.lt h) hb.size)).mono ?_
          rintro e w' ⟨v, rfl, ho, hb'⟩
          obtain ⟨a1, d1, rfl⟩ := row_slice ho
          exact ⟨a1, d1, rfl, ho, hb'⟩
        have HTu : Hid (ShOk (shortL ps) ∧ ShOk (shortL qs) ∧ sumL (shortL ps) = sumL (shortL qs)) := ⟨h1.1, h2.1, by rw [h1.2, h2.2]⟩
        clear HFit E A B hg hc g1 g2 hf hF hsb htx hfit hfe h1 h2 ht hFq
        rw [HO.out.1, HO.out.2, HR.out]
        generalize fitVal qs t = fv at *
        generalize madeTo ps ps.length = mm at *
        generalize shortL ps = l at *
        generalize shortL qs = r at *
        have HU := turned_own
        have HU' : Hid (∀ (wa wb : World) (B : Nat) (ao bo : Option Addr) (c1 c2 : Nat), wa.ownsRow B 61 3 (.slice ao l.length c1) l.length (cellsOf l) → Below (wa.heap.size + 1) (wa.alloc (.cells #[.slice ao l.length c1, .int .i64 0, .int .i64 0] 110)) wb → wb.ownsRow (wa.heap.size + 1) 61 3 (.slice bo r.length c2) r.length (cellsOf r) →
            Calls Tryd.prog 49 #[.pointer (some ⟨wa.heap.size, 0, none⟩), .pointer (some ⟨wb.heap.size, 0, none⟩)] (wb.alloc (.cells #[.slice bo r.length c2, .int .i64 0, .int .i64 0] 110)) fun e w' => ∃ u v, e = .returned (.tuple #[u, v]) ∧ w'.ownsRow (wb.heap.size + 1) 61 3 u (settleP (Tn l r ws0 ws0).1).length (cellsOf (settleP (Tn l r ws0 ws0).1)) ∧ w'.ownsRow (wb.heap.size + 1) 61 3 v (settleP (Tn l r ws0 ws0).2).length (cellsOf (settleP (Tn l r ws0 ws0).2)) ∧ Below wa.heap.size wa w' ∧ ∀ k, u.ownBlock = some k → v.ownBlock ≠ some k) := fun wa wb B ao bo c1 c2 h1 hb h2 => HU wa wb B l r ao bo c1 c2 HTu.out.1 HTu.out.2.1 HTu.out.2.2 h1 hb h2
        clear HU HTu
        generalize settleP (Tn l r ws0 ws0).1 = t1 at *
        generalize settleP (Tn l r ws0 ws0).2 = t2 at *
        go_enter Tryd.func35, Tryd.ntmps35
        go_wp2_with fail
        refine HC.out.mono ?_
        rintro e w1 ⟨rfl, hb1⟩
        go_wp2_with fail
        refine (HS.out w1 hb1).mono ?_
        rintro e w2 ⟨rfl, hb2⟩
        have hbw2 : Below w.heap.size w w2 := hb1.trans (hb2.mono hb1.size)
        go_wp2_with fail
        refine (HT.out w2 hbw2).mono ?_
        rintro e w3 ⟨rfl, hb3⟩
        have hbw3 : Below w.heap.size w w3 := hbw2.trans (hb3.mono hbw2.size)
        go_wp2_with fail
        refine (HSh1.out w3 hbw3).mono ?_
        rintro e w4 ⟨a1, d1, rfl, ho4, hb4⟩
        have HO4 : Hid (w4.ownsRow w3.heap.size 61 3 (.slice a1 l.length d1) l.length (cellsOf l)) := ho4
        have hbw4 : Below w.heap.size w w4 := hbw3.trans (hb4.mono hbw3.size)
        clear ho4
        go_wp2_with fail
        refine (read_any a1 l.length d1 w4).mono ?_
        rintro e w5 ⟨rfl, hw5⟩
        have HW5 : Hid (w4.alloc (.cells #[.slice a1 l.length d1, .int .i64 0, .int .i64 0] 110) = w5) := hw5
        have hs5 : w5.heap.size = w4.heap.size + 1 := by rw [← hw5]; simp
        have hbw5 : Below w.heap.size w w5 := by rw [← hw5]; exact hbw4.alloc hbw4.size _
        clear hw5
        go_wp2_with fail
        refine (HSh2.out w5 hbw5).mono ?_
        rintro e w6 ⟨a2, d2, rfl, ho6, hb6⟩
        rw [hs5] at ho6 hb6
        have HO6 : Hid (w6.ownsRow (w4.heap.size + 1) 61 3 (.slice a2 r.length d2) r.length (cellsOf r) ∧ Below (w4.heap.size + 1) (w4.alloc (.cells #[.slice a1 l.length d1, .int .i64 0, .int .i64 0] 110)) w6) := ⟨ho6, by rw [HW5.out]; exact hb6⟩
        have hbw6 : Below w.heap.size w w6 := hbw5.trans (hb6.mono (by have := hbw4.size; omega))
        clear ho6 hb6
        go_wp2_with fail
        refine (read_any a2 r.length d2 w6).mono ?_
        rintro e w7 ⟨rfl, rfl⟩
        go_wp2_with fail
        refine (HU'.out w4 w6 w3.heap.size a1 a2 d1 d2 HO4.out HO6.out.2 HO6.out.1).mono ?_
        rintro e w8 ⟨u, v, rfl, hu, hv, hb8, ap⟩
        have HF : Hid (w8.ownsRow w.heap.size 61 3 u t1.length (cellsOf t1) ∧ w8.ownsRow w.heap.size 61 3 v t2.length (cellsOf t2) ∧ (∀ k, u.ownBlock = some k → v.ownBlock ≠ some k) ∧ Below w.heap.size w w8) := ⟨ownsRow_weak' hu (by have := hbw6.size; omega), ownsRow_weak' hv (by have := hbw6.size; omega), ap, hbw4.trans (hb8.mono hbw4.size)⟩
        clear hu hv hb8 ap
        go_wp2
        exact bodyPost_ret (v := .tuple #[u, v, .nilIface]) (by simp [results, Tryd.results35, go_sem]) rfl ⟨u, v, .nilIface, rfl, HF.out.1, HF.out.2.1, HF.out.2.2.1, rfl, HF.out.2.2.2⟩

set_option maxRecDepth 100000 in
set_option maxHeartbeats 2000000 in
theorem turnF_any {N : Nat} {f c : Addr} (ps qs : List Pt) (ao bo : Option Addr) (b1 o1 c1 b2 o2 c2 : Nat) (w : World) (E : Env N f c w) (A : Arg w ps ao b1 o1) (B : Arg w qs bo b2 o2) :
    Calls Tryd.prog 22 #[.slice ao ps.length c1, .slice bo qs.length c2] w fun e w' => ∃ u v, e = .returned (.tuple #[u, v, .int .i64 (tCode ps qs)]) ∧ w'.ownsRow w.heap.size 61 3 u (tOut1 ps qs).length (cellsOf (tOut1 ps qs)) ∧ w'.ownsRow w.heap.size 61 3 v (tOut2 ps qs).length (cellsOf (tOut2 ps qs)) ∧ (∀ k, u.ownBlock = some k → v.ownBlock ≠ some k) ∧ Below w.heap.size w w' := by
  have HF : Hid (Calls Tryd.prog 35 #[.slice ao ps.length c1, .slice bo qs.length c2] w fun e w' => ∃ u v x, e = .returned (.tuple #[u, v, x]) ∧ w'.ownsRow w.heap.size 61 3 u (tOut1 ps qs).length (cellsOf (tOut1 ps qs)) ∧ w'.ownsRow w.heap.size 61 3 v (tOut2 ps qs).length (cellsOf (tOut2 ps qs)) ∧ (∀ k, u.ownBlock = some k → v.ownBlock ≠ some k) ∧ ErrIs w' x (tErr ps qs f c) ∧ Below w.heap.size w w') := turn_any ps qs ao bo b1 o1 c1 b2 o2 c2 w E A B
  have HN : Hid (numOf f c (tErr ps qs f c) = tCode ps qs) := tErr_num ps qs f c E.ne
  have HE : Hid (Env N f c w) := E
  have HR : Hid (tErr ps qs f c = none ∨ tErr ps qs f c = some f ∨ tErr ps qs f c = some c) := tErr_or ps qs f c
  clear E A B
  rw [← HN.out]
  generalize tErr ps qs f c = je at *
  generalize tOut1 ps qs = jo at *
  generalize tOut2 ps qs = ko at *
  go_enter Tryd.func22, Tryd.ntmps22
  go_wp2_with fail
  refine HF.out.mono ?_
  rintro e w1 ⟨r, r2, v, rfl, hO, hO2, hap, hv, hb1⟩
  have HV : Hid (ErrIs w1 v je) := hv
  have HO : Hid (w1.ownsRow w.heap.size 61 3 r jo.length (cellsOf jo) ∧ w1.ownsRow w.heap.size 61 3 r2 ko.length (cellsOf ko) ∧ (∀ k, r.ownBlock = some k → r2.ownBlock ≠ some k)) := ⟨hO, hO2, hap⟩
  clear hv hO hO2 hap
  go_wp2_with fail
  refine (number_any v je w1 (HE.out.here hb1) HR.out HV.out).mono ?_
  rintro e w2 ⟨rfl, hww⟩
  obtain rfl := hww.symm
  go_wp2
  exact bodyPost_ret (v := .tuple #[r, r2, .int .i64 (numOf f c je)]) (by simp [results, Tryd.results22, go_sem]) rfl ⟨r, r2, rfl, HO.out.1, HO.out.2.1, HO.out.2.2, hb1⟩
end Go.Proofs.YtdlolnahbgecjaaDoor
