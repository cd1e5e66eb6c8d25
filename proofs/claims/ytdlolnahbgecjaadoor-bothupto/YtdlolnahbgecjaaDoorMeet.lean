import Derived.Test.YtdlolnahbgecjaaDoorMDo
import Derived.Test.YtdlolnahbgecjaaDoorTurnG
import Derived.Test.YtdlolnahbgecjaaDoorRefTurn2
import Derived.Test.YtdlolnahbgecjaaDoorDoesWalk
namespace Go.Proofs.YtdlolnahbgecjaaDoor
open Go.RowKit
set_option linter.unusedVariables false

def aliveL : List Pt := [⟨1, 1, ⟨#[]⟩⟩, ⟨2, 0, ⟨#[120]⟩⟩, ⟨3, 2, ⟨#[]⟩⟩]
theorem alive_fts : Fts aliveL ⟨#[97, 98, 99]⟩ := by
  refine ⟨fun p hp => ?_, by decide⟩
  simp only [aliveL, List.mem_cons, List.not_mem_nil, or_false] at hp
  rcases hp with rfl | rfl | rfl
  · exact Or.inl ⟨Or.inl rfl, by decide, rfl⟩
  · exact Or.inr ⟨rfl, rfl, by decide⟩
  · exact Or.inl ⟨Or.inr rfl, by decide, rfl⟩
theorem alive_out : doOut ⟨#[97, 98, 99]⟩ aliveL = ⟨#[97, 120]⟩ := bytes_ext (by rw [alive_fts.out (by decide)]; decide)

set_option maxRecDepth 100000 in
set_option maxHeartbeats 2000000 in
theorem alive_any {N : Nat} {f c : Addr} (w : World) (E : Env N f c w) : Calls Tryd.prog 24 #[] w fun e w' => e = .returned (.bool true) ∧ Below w.heap.size w w' := by
  have HE : Hid (Env N f c w) := E
  have HD : Hid (∀ wx, wx = w.alloc (.cells #[.int .i64 1, .int .i64 1, .string ⟨#[]⟩, .int .i64 2, .int .i64 0, .string ⟨#[120]⟩, .int .i64 3, .int .i64 2, .string ⟨#[]⟩] 61) → Calls Tryd.prog 18 #[.string ⟨#[97, 98, 99]⟩, .slice (some ⟨w.heap.size, 0, none⟩) 3 3] wx fun e w' => e = .returned (.tuple #[.string ⟨#[97, 120]⟩, .int .i64 0]) ∧ Below w.heap.size w w') := fun wx hw => by
    have hb : Below w.heap.size w wx := by rw [hw]; exact (Below.refl _ _).alloc (Nat.le_refl _) _
    have hB : Blk wx w.heap.size #[.int .i64 1, .int .i64 1, .string ⟨#[]⟩, .int .i64 2, .int .i64 0, .string ⟨#[120]⟩, .int .i64 3, .int .i64 2, .string ⟨#[]⟩] 61 := by rw [hw]; exact Blk.new w _ 61
    have hA : Arg wx aliveL (some ⟨w.heap.size, 0, none⟩) w.heap.size 0 := by
      refine ⟨fun _ => rfl, fun _ => hB.lt, fun i hi => ?_, by decide, by decide, fun i => ?_, fun i => ?_⟩
      · have hi : i < 3 := hi
        rcases (show i = 0 ∨ i = 1 ∨ i = 2 by omega) with rfl | rfl | rfl
        · exact ⟨hB.cell 0 rfl, hB.cell 1 rfl, hB.cell 2 rfl⟩
        · exact ⟨hB.cell 3 rfl, hB.cell 4 rfl, hB.cell 5 rfl⟩
        · exact ⟨hB.cell 6 rfl, hB.cell 7 rfl, hB.cell 8 rfl⟩
      · by_cases hi : i < 3
        · rcases (show i = 0 ∨ i = 1 ∨ i = 2 by omega) with rfl | rfl | rfl <;> decide
        · simp [nth, List.getD, List.getElem?_eq_none (show aliveL.length ≤ i by simp [aliveL]; omega)]
      · by_cases hi : i < 3
        · rcases (show i = 0 ∨ i = 1 ∨ i = 2 by omega) with rfl | rfl | rfl <;> decide
        · simp [nth, List.getD, List.getElem?_eq_none (show aliveL.length ≤ i by simp [aliveL]; omega)]
    have := doF_any ⟨#[97, 98, 99]⟩ aliveL (some ⟨w.heap.size, 0, none⟩) w.heap.size 0 3 wx (E.here hb) hA (by decide)
    rw [doStr_out, alive_out, alive_fts.ref (by decide)] at this
    refine this.mono ?_
    rintro e w' ⟨rfl, hb'⟩
    exact ⟨rfl, hb.trans (hb'.mono hb.size)⟩
  clear E
  go_enter Tryd.func24, Tryd.ntmps24
  go_wp2_with fail
  refine (HD.out _ rfl).mono ?_
  rintro e w1 ⟨rfl, hb1⟩
  go_wp2_with (go_at_call 13; refine (num_any 0 w1 (by decide) (by decide)).mono ?_; rintro e w10 ⟨rfl, hww⟩; obtain rfl := hww.symm)
  go_ret
  exact ⟨rfl, hb1⟩
end Go.Proofs.YtdlolnahbgecjaaDoor
namespace Go.Proofs.YtdlolnahbgecjaaDoor
open Go.RowKit
set_option linter.unusedVariables false

theorem Fts.from {ps : List Pt} {text : ByteArray} (h : Fts ps text) (hs : text.size ≤ 4611686018427387904) : fromTo ps ps.length = some (text.size : Int) := by
  have e := sum_from h.ok
  have hf := from_of_sum h.ok (by have := h.fit; omega) ps.length (Nat.le_refl _)
  rw [List.take_length] at hf
  rw [hf]; congr 1; have := h.fit; omega
theorem Fts.short {ps : List Pt} {text : ByteArray} {w : World} {ao : Option Addr} {b o : Nat} (A : Arg w ps ao b o) (h : Fts ps text) (hs : text.size ≤ 4611686018427387904) : Fts (shortL ps) text ∧ ShOk (shortL ps) ∧ sumL (shortL ps) = text.size ∧ (shortL ps).length ≤ ps.length ∧ textL (shortL ps) ≤ textL ps ∧ madeL (shortL ps) = madeL ps := by
  have hg := good_of_ok h.ok
  have hf := h.from hs
  obtain ⟨k1, k2⟩ := sh_ok A hg hf
  have e := sum_from k1.ok
  have hp := shTo_ok hg ps.length (Nat.le_refl _) _ hf
  rw [shTo_all] at hp
  have t1 := textTo_L (ps := ps) _ (Nat.le_refl _)
  rw [List.take_length] at t1
  have hfit : fromL (shortL ps) = text.size := by omega
  refine ⟨⟨k1.ok, hfit⟩, k1, k2, hp.len, by have := hp.txt; omega, ?_⟩
  rw [← doB_len (bytes text) k1.ok (by rw [bytes_len]; omega), short_do h.ok, doB_len (bytes text) h.ok (by rw [bytes_len]; have := h.fit; omega)]
/-- the turned changes -/
theorem meet_pure {text : ByteArray} {ps qs : List Pt} {w : World} {ao bo : Option Addr} {b1 o1 b2 o2 : Nat} (A : Arg w ps ao b1 o1) (B : Arg w qs bo b2 o2) (h1 : Fts ps text) (h2 : Fts qs text) (ht : text.size + (ps.length + textL ps) + (qs.length + textL qs) ≤ 1048576) :
    tCode ps qs = 0 ∧ Fts (tOut2 ps qs) (doOut text ps) ∧ Fts (tOut1 ps qs) (doOut text qs) ∧ (tOut1 ps qs).length ≤ 1048576 ∧ (tOut2 ps qs).length ≤ 1048576 ∧ textL (tOut1 ps qs) ≤ 1048576 ∧ textL (tOut2 ps qs) ≤ 1048576 ∧ doOut (doOut text ps) (tOut2 ps qs) = doOut (doOut text qs) (tOut1 ps qs) ∧ (doOut text ps).size ≤ 1048576 ∧ (doOut text qs).size ≤ 1048576 := by
  have hb : text.size ≤ 4611686018427387904 := by omega
  obtain ⟨f1, k1, s1, l1, x1, m1⟩ := Fts.short A h1 hb
  obtain ⟨f2, k2, s2, l2, x2, m2⟩ := Fts.short B h2 hb
  have hc : tCode ps qs = 0 := by
    have e1 : From ps = text.size := by simp [From, h1.from hb]
    have e2 : From qs = text.size := by simp [From, h2.from hb]
    unfold tCode
    rw [if_neg (by simp [good_of_ok h1.ok, good_of_ok h2.ok]), if_neg (by omega)]
  have hT := tok_start k1 k2 (by rw [s1, s2])
  obtain ⟨e, f, le, lf, he, hf, te, tf, se, sf, hm⟩ := turn_res _ _ _ _ _ _ _ _ _ _ _ (Nat.le_refl _) hT
  have o1 : tOut1 ps qs = settleP (Tn (shortL ps) (shortL qs) ws0 ws0).1 := by unfold tOut1; rw [if_pos hc]
  have o2 : tOut2 ps qs = settleP (Tn (shortL ps) (shortL qs) ws0 ws0).2 := by unfold tOut2; rw [if_pos hc]
  have g1 := h1.size hb
  have g2 := h2.size hb
  have c1 := made_le' h1.ok
  have c2 := made_le' h2.ok
  have d1 := h1.fit
  have d2 := h2.fit
  rw [m2] at se
  rw [m1] at sf
  have z : settleP ws0 = [] := settle_zero
  have leok : allOk (tOut1 ps qs) := by have := le.ok; rw [← o1] at this; exact this
  have lfok : allOk (tOut2 ps qs) := by have := lf.ok; rw [← o2] at this; exact this
  have les := le.sum
  have lfs := lf.sum
  have lel := le.len
  have lfl := lf.len
  have let' := le.txt
  have lft := lf.txt
  rw [z] at les lfs lel lfl let' lft
  rw [← o1] at les lel let'
  rw [← o2] at lfs lfl lft
  simp only [sumL, textL, List.length_nil] at les lfs lel lfl let' lft
  have p1 : Fts (tOut1 ps qs) (doOut text qs) := ⟨leok, by have := sum_from leok; omega⟩
  have p2 : Fts (tOut2 ps qs) (doOut text ps) := ⟨lfok, by have := sum_from lfok; omega⟩
  refine ⟨hc, p2, p1, by omega, by omega, by omega, by omega, bytes_ext ?_, by omega, by omega⟩
  rw [p2.out (by omega), p1.out (by omega), h1.out hb, h2.out hb, o1, o2, le.fin, lf.fin, ← short_do h1.ok, ← short_do h2.ok]
  exact hm _ (by rw [bytes_len]; exact f1.fit.symm)
theorem Arg.wk {w : World} {ps : List Pt} {ao : Option Addr} {b off : Nat} (A : Arg w ps ao b off) : textL ps = textTo ps ps.length := by
  have t1 := textTo_L (ps := ps) _ (Nat.le_refl _)
  rw [List.take_length] at t1
  exact t1.symm

set_option maxRecDepth 100000 in
set_option maxHeartbeats 2000000 in
theorem meet_walk {N : Nat} {f c : Addr} (text : ByteArray) (ps qs : List Pt) (ao bo : Option Addr) (b1 o1 c1 b2 o2 c2 : Nat) (w : World) (E : Env N f c w) (A : Arg w ps ao b1 o1) (B : Arg w qs bo b2 o2) (ht : text.size + (ps.length + textTo ps ps.length) + (qs.length + textTo qs qs.length) ≤ 1048576) :
    Calls Tryd.prog 8 #[.string text, .slice ao ps.length c1, .slice bo qs.length c2] w fun e w' => e = .returned (.bool true) ∧ Below w.heap.size w w' := by
  have HE : Hid (Env N f c w) := E
  have HA : Hid (Arg w ps ao b1 o1) := A
  have HB : Hid (Arg w qs bo b2 o2) := B
  have htx : text.size ≤ 1048576 := by omega
  have HAl : Hid (∀ wx, Env N f c wx → Calls Tryd.prog 24 #[] wx fun e w' => e = .returned (.bool true) ∧ Below wx.heap.size wx w') := fun wx Ex => alive_any wx Ex
  have HFa : Hid (∀ wx, Arg wx ps ao b1 o1 → Calls Tryd.prog 12 #[.slice ao ps.length c1, .int .i64 (text.size : Nat)] wx fun e w' => e = .returned (.tuple #[.int .i64 (refFit ps text.size).1, .int .i64 (refFit ps text.size).2]) ∧ Below wx.heap.size wx w') := fun wx Ax => refFit_any ps ao b1 o1 c1 text.size wx Ax
  have HFb : Hid (∀ wx, Arg wx qs bo b2 o2 → Calls Tryd.prog 12 #[.slice bo qs.length c2, .int .i64 (text.size : Nat)] wx fun e w' => e = .returned (.tuple #[.int .i64 (refFit qs text.size).1, .int .i64 (refFit qs text.size).2]) ∧ Below wx.heap.size wx w') := fun wx Ax => refFit_any qs bo b2 o2 c2 text.size wx Ax
  have HT : Hid (∀ wx ao' g cap' bo' h dap', Env N f c wx → Arg wx ps ao' g 0 → Arg wx qs bo' h 0 → Calls Tryd.prog 22 #[.slice ao' ps.length cap', .slice bo' qs.length dap'] wx fun e w' => ∃ u v, e = .returned (.tuple #[u, v, .int .i64 (tCode ps qs)]) ∧ w'.ownsRow wx.heap.size 61 3 u (tOut1 ps qs).length (cellsOf (tOut1 ps qs)) ∧ w'.ownsRow wx.heap.size 61 3 v (tOut2 ps qs).length (cellsOf (tOut2 ps qs)) ∧ (∀ k, u.ownBlock = some k → v.ownBlock ≠ some k) ∧ Below wx.heap.size wx w') := fun wx ao' g cap' bo' h dap' Ex Ax Bx => turnF_any ps qs ao' bo' g 0 cap' h 0 dap' wx Ex Ax Bx
  by_cases hfit : (refFit ps text.size).2 = 0 ∧ (refFit qs text.size).2 = 0
  · have F1 := Fts.of hfit.1
    have F2 := Fts.of hfit.2
    obtain ⟨m1, m2, m3, m4, m5, m6, m7, m8, m9, m10⟩ := meet_pure A B F1 F2 (by rw [A.wk, B.wk]; exact ht)
    have hbig : ∀ n : Nat, n ≤ 1048576 → n ≤ 4611686018427387904 := fun n h => by omega
    have HDa : Hid (∀ wx ao' g cap', Env N f c wx → Arg wx ps ao' g 0 → Calls Tryd.prog 18 #[.string text, .slice ao' ps.length cap'] wx fun e w' => e = .returned (.tuple #[.string (doOut text ps), .int .i64 0]) ∧ Below wx.heap.size wx w') := fun wx ao' g cap' Ex Ax => by
      have := doF_any text ps ao' g 0 cap' wx Ex Ax htx
      rwa [doStr_out, hfit.1] at this
    have HDb : Hid (∀ wx ao' g cap', Env N f c wx → Arg wx qs ao' g 0 → Calls Tryd.prog 18 #[.string text, .slice ao' qs.length cap'] wx fun e w' => e = .returned (.tuple #[.string (doOut text qs), .int .i64 0]) ∧ Below wx.heap.size wx w') := fun wx ao' g cap' Ex Ax => by
      have := doF_any text qs ao' g 0 cap' wx Ex Ax htx
      rwa [doStr_out, hfit.2] at this
    have s1 := sum_from m3.ok
    have s2 := sum_from m2.ok
    have q1 := m3.fit
    have q2 := m2.fit
    have HDy : Hid (∀ wx B v, Env N f c wx → wx.ownsRow B 61 3 v (tOut2 ps qs).length (cellsOf (tOut2 ps qs)) → Calls Tryd.prog 18 #[.string (doOut text ps), v] wx fun e w' => e = .returned (.tuple #[.string (doOut (doOut text ps) (tOut2 ps qs)), .int .i64 0]) ∧ Below wx.heap.size wx w') := fun wx B v Ex ho => by
      obtain ⟨ao', g, cap', rfl, Ax⟩ := Arg.own ho m2.ok m5 m7 (by omega)
      have := doF_any (doOut text ps) (tOut2 ps qs) ao' g 0 cap' wx Ex Ax m9
      rwa [doStr_out, m2.ref (hbig _ m9)] at this
    have HDx : Hid (∀ wx B v, Env N f c wx → wx.ownsRow B 61 3 v (tOut1 ps qs).length (cellsOf (tOut1 ps qs)) → Calls Tryd.prog 18 #[.string (doOut text qs), v] wx fun e w' => e = .returned (.tuple #[.string (doOut (doOut text ps) (tOut2 ps qs)), .int .i64 0]) ∧ Below wx.heap.size wx w') := fun wx B v Ex ho => by
      obtain ⟨ao', g, cap', rfl, Ax⟩ := Arg.own ho m3.ok m4 m6 (by omega)
      have := doF_any (doOut text qs) (tOut1 ps qs) ao' g 0 cap' wx Ex Ax m10
      rwa [doStr_out, m3.ref (hbig _ m10), ← m8] at this
    rw [hfit.1] at HFa
    rw [hfit.2] at HFb
    rw [m1] at HT
    clear m1 m2 m3 m4 m5 m6 m7 m8 m9 m10 hbig s1 s2 q1 q2 F1 F2 E A B hfit ht htx
    generalize doOut (doOut text ps) (tOut2 ps qs) = r at *
    generalize tOut1 ps qs = xl at *
    generalize tOut2 ps qs = yl at *
    generalize doOut text ps = one at *
    generalize doOut text qs = two at *
    generalize (refFit ps text.size).1 = fa at *
    generalize (refFit qs text.size).1 = fb at *
    go_enter Tryd.func8, Tryd.ntmps8
    go_wp2_with fail
    refine (HAl.out w HE.out).mono ?_
    rintro e w1 ⟨rfl, hb1⟩
    go_wp2_with fail
    refine (HFa.out w1 (HA.out.below hb1 HA.out.lt)).mono ?_
    rintro e w2 ⟨rfl, hb2⟩
    have hw2 : Below w.heap.size w w2 := hb1.trans (hb2.mono hb1.size)
    go_wp2_with fail
    refine (HFb.out w2 (HB.out.below hw2 HB.out.lt)).mono ?_
    rintro e w3 ⟨rfl, hb3⟩
    have hw3 : Below w.heap.size w w3 := hw2.trans (hb3.mono hw2.size)
    go_wp2_with fail
    refine (ours_arg ps ao b1 o1 c1 w3 (HA.out.below hw3 HA.out.lt)).mono ?_
    rintro e w4 ⟨ao', g, cap', rfl, hA4, _, _, hb4⟩
    have hw4 : Below w.heap.size w w4 := hw3.trans (hb4.mono hw3.size)
    have HA4 : Hid (Arg w4 ps ao' g 0) := hA4
    clear hA4
    go_wp2_with fail
    refine (ours_arg qs bo b2 o2 c2 w4 (HB.out.below hw4 HB.out.lt)).mono ?_
    rintro e w5 ⟨bo', h, dap', rfl, hB5, _, _, hb5⟩
    have hw5 : Below w.heap.size w w5 := hw4.trans (hb5.mono hw4.size)
    have HB5 : Hid (Arg w5 qs bo' h 0) := hB5
    have HA5 : Hid (Arg w5 ps ao' g 0) := HA4.out.below hb5 HA4.out.lt
    clear hB5
    go_wp2_with fail
    refine (HT.out w5 ao' g cap' bo' h dap' (HE.out.here hw5) HA5.out HB5.out).mono ?_
    rintro e w6 ⟨x, y, rfl, hx6, hy6, _, hb6⟩
    have HX : Hid (w6.ownsRow w5.heap.size 61 3 x xl.length (cellsOf xl)) := hx6
    have HY : Hid (w6.ownsRow w5.heap.size 61 3 y yl.length (cellsOf yl)) := hy6
    have hw6 : Below w.heap.size w w6 := hw5.trans (hb6.mono hw5.size)
    clear hx6 hy6
    go_wp2_with (first | (go_at_call 13; refine (num_any 0 w6 (by decide) (by decide)).mono ?_; rintro e w10 ⟨rfl, hww⟩; obtain rfl := hww.symm; clear hww) | fail)
    refine (ours_arg ps ao b1 o1 c1 w6 (HA.out.below hw6 HA.out.lt)).mono ?_
    rintro e w7 ⟨ao2, g2, cap2, rfl, hA7, _, _, hb7⟩
    have hw7 : Below w.heap.size w w7 := hw6.trans (hb7.mono hw6.size)
    have HA7 : Hid (Arg w7 ps ao2 g2 0) := hA7
    clear hA7
    go_wp2_with fail
    refine (HDa.out w7 ao2 g2 cap2 (HE.out.here hw7) HA7.out).mono ?_
    rintro e w8 ⟨rfl, hb8⟩
    have hw8 : Below w.heap.size w w8 := hw7.trans (hb8.mono hw7.size)
    go_wp2_with fail
    refine (ours_arg qs bo b2 o2 c2 w8 (HB.out.below hw8 HB.out.lt)).mono ?_
    rintro e w9 ⟨bo2, h2, dap2, rfl, hB9, _, _, hb9⟩
    have hw9 : Below w.heap.size w w9 := hw8.trans (hb9.mono hw8.size)
    have HB9 : Hid (Arg w9 qs bo2 h2 0) := hB9
    clear hB9
    go_wp2_with fail
    refine (HDb.out w9 bo2 h2 dap2 (HE.out.here hw9) HB9.out).mono ?_
    rintro e w10 ⟨rfl, hb10⟩
    have hw10 : Below w.heap.size w w10 := hw9.trans (hb10.mono hw9.size)
    have h610 : Below w6.heap.size w6 w10 := hb7.trans ((hb8.trans ((hb9.trans (hb10.mono hb9.size)).mono hb8.size)).mono hb7.size)
    go_wp2_with fail
    refine (HDy.out w10 _ y (HE.out.here hw10) (own_here HY.out h610)).mono ?_
    rintro e w11 ⟨rfl, hb11⟩
    have hw11 : Below w.heap.size w w11 := hw10.trans (hb11.mono hw10.size)
    have h611 : Below w6.heap.size w6 w11 := h610.trans (hb11.mono h610.size)
    go_wp2_with fail
    refine (HDx.out w11 _ x (HE.out.here hw11) (own_here HX.out h611)).mono ?_
    rintro e w12 ⟨rfl, hb12⟩
    have hw12 : Below w.heap.size w w12 := hw11.trans (hb12.mono hw11.size)
    go_wp2_with (go_at_call 13; refine (num_any 0 w12 (by decide) (by decide)).mono ?_; rintro e wq ⟨rfl, hww⟩; obtain rfl := hww.symm; clear hww)
    go_ret
    exact ⟨rfl, hw12⟩
  · clear E A B ht htx
    generalize tOut1 ps qs = xl at *
    generalize tOut2 ps qs = yl at *
    generalize tCode ps qs = tc at *
    generalize (refFit ps text.size).1 = fa at *
    generalize (refFit qs text.size).1 = fb at *
    generalize (refFit ps text.size).2 = ea at *
    generalize (refFit qs text.size).2 = eb at *
    by_cases h1 : ea = 0
    · subst h1
      have h2 : (eb != 0) = true := by simp; intro h; exact hfit ⟨rfl, h⟩
      clear hfit
      go_enter Tryd.func8, Tryd.ntmps8
      go_wp2_with fail
      refine (HAl.out w HE.out).mono ?_
      rintro e w1 ⟨rfl, hb1⟩
      go_wp2_with fail
      refine (HFa.out w1 (HA.out.below hb1 HA.out.lt)).mono ?_
      rintro e w2 ⟨rfl, hb2⟩
      have hw2 : Below w.heap.size w w2 := hb1.trans (hb2.mono hb1.size)
      go_wp2_with fail
      refine (HFb.out w2 (HB.out.below hw2 HB.out.lt)).mono ?_
      rintro e w3 ⟨rfl, hb3⟩
      have hw3 : Below w.heap.size w w3 := hw2.trans (hb3.mono hw2.size)
      go_wp2_with fail
      refine (ours_arg ps ao b1 o1 c1 w3 (HA.out.below hw3 HA.out.lt)).mono ?_
      rintro e w4 ⟨ao', g, cap', rfl, hA4, _, _, hb4⟩
      have hw4 : Below w.heap.size w w4 := hw3.trans (hb4.mono hw3.size)
      have HA4 : Hid (Arg w4 ps ao' g 0) := hA4
      clear hA4
      go_wp2_with fail
      refine (ours_arg qs bo b2 o2 c2 w4 (HB.out.below hw4 HB.out.lt)).mono ?_
      rintro e w5 ⟨bo', h, dap', rfl, hB5, _, _, hb5⟩
      have hw5 : Below w.heap.size w w5 := hw4.trans (hb5.mono hw4.size)
      have HB5 : Hid (Arg w5 qs bo' h 0) := hB5
      have HA5 : Hid (Arg w5 ps ao' g 0) := HA4.out.below hb5 HA4.out.lt
      clear hB5
      go_wp2_with fail
      refine (HT.out w5 ao' g cap' bo' h dap' (HE.out.here hw5) HA5.out HB5.out).mono ?_
      rintro e w6 ⟨x, y, rfl, _, _, _, hb6⟩
      have hw6 : Below w.heap.size w w6 := hw5.trans (hb6.mono hw5.size)
      go_wp2
      go_ret
      exact ⟨rfl, hw6⟩
    · have h1' : (ea != 0) = true := by simpa using h1
      clear hfit h1
      go_enter Tryd.func8, Tryd.ntmps8
      go_wp2_with fail
      refine (HAl.out w HE.out).mono ?_
      rintro e w1 ⟨rfl, hb1⟩
      go_wp2_with fail
      refine (HFa.out w1 (HA.out.below hb1 HA.out.lt)).mono ?_
      rintro e w2 ⟨rfl, hb2⟩
      have hw2 : Below w.heap.size w w2 := hb1.trans (hb2.mono hb1.size)
      go_wp2_with fail
      refine (HFb.out w2 (HB.out.below hw2 HB.out.lt)).mono ?_
      rintro e w3 ⟨rfl, hb3⟩
      have hw3 : Below w.heap.size w w3 := hw2.trans (hb3.mono hw2.size)
      go_wp2_with fail
      refine (ours_arg ps ao b1 o1 c1 w3 (HA.out.below hw3 HA.out.lt)).mono ?_
      rintro e w4 ⟨ao', g, cap', rfl, hA4, _, _, hb4⟩
      have hw4 : Below w.heap.size w w4 := hw3.trans (hb4.mono hw3.size)
      have HA4 : Hid (Arg w4 ps ao' g 0) := hA4
      clear hA4
      go_wp2_with fail
      refine (ours_arg qs bo b2 o2 c2 w4 (HB.out.below hw4 HB.out.lt)).mono ?_
      rintro e w5 ⟨bo', h, dap', rfl, hB5, _, _, hb5⟩
      have hw5 : Below w.heap.size w w5 := hw4.trans (hb5.mono hw4.size)
      have HB5 : Hid (Arg w5 qs bo' h 0) := hB5
      have HA5 : Hid (Arg w5 ps ao' g 0) := HA4.out.below hb5 HA4.out.lt
      clear hB5
      go_wp2_with fail
      refine (HT.out w5 ao' g cap' bo' h dap' (HE.out.here hw5) HA5.out HB5.out).mono ?_
      rintro e w6 ⟨x, y, rfl, _, _, _, hb6⟩
      have hw6 : Below w.heap.size w w6 := hw5.trans (hb6.mono hw5.size)
      go_wp2
      go_ret
      exact ⟨rfl, hw6⟩
end Go.Proofs.YtdlolnahbgecjaaDoor
