import Derived.Test.YtdlolnahbgecjaaDoorRefJoin2
import Derived.Test.YtdlolnahbgecjaaDoorJoinG
import Derived.Test.YtdlolnahbgecjaaDoorShortsWalk
import Derived.Test.YtdlolnahbgecjaaDoorMeet
namespace Go.Proofs.YtdlolnahbgecjaaDoor
open Go.RowKit
set_option linter.unusedVariables false

theorem JOk.fin : ∀ (n : Nat) (a b : List Pt) (s : WS) (S : Int) (L A : Nat), wt a + wt b ≤ n → JOk a b s S L A → ∃ S' L' A', SOk (Jn a b s) S' L' A' ∧ L' ≤ 10000000
  | n, [], [], s, S, L, A, _, h => ⟨S, L, A, by rw [Jn_nil]; exact h.s, by have := h.len; omega⟩
  | 0, x :: a, b, s, S, L, A, hn, h => by simp only [wt] at hn; omega
  | 0, [], y :: b, s, S, L, A, hn, h => by simp only [wt] at hn; omega
  | n + 1, [], y :: b, s, S, L, A, hn, h => by
    have hy := h.left
    rw [Jn_add h.oka h.okb hy]
    have := wt_cons y b
    exact JOk.fin n [] b _ _ _ _ (by omega) (h.add hy)
  | n + 1, x :: a, b, s, S, L, A, hn, h => by
    by_cases hx : x.k = 3
    · rw [Jn_drop h.oka h.okb hx]
      have := wt_cons x a
      exact JOk.fin n a b _ _ _ _ (by omega) (h.drop hx)
    · cases b with
      | nil => exact absurd h.right hx
      | cons y b =>
        by_cases hy : y.k = 2
        · rw [Jn_add h.oka h.okb hy]
          have := wt_cons y b
          exact JOk.fin n (x :: a) b _ _ _ _ (by omega) (h.add hy)
        · rw [Jn_both h.oka h.okb hx hy]
          obtain ⟨S', A', h'⟩ := h.both hx hy
          have p1 := pl_pos (allOk_cons h.oka).1
          have p2 := pl_pos (allOk_cons h.okb).1
          have h2 := rest_wt (allOk_cons h.oka).1 (k := min (pl x) (pl y)) (by omega)
          have h3 := rest_wt (allOk_cons h.okb).1 (k := min (pl x) (pl y)) (by omega)
          simp only [wt] at hn
          exact JOk.fin n _ _ _ _ _ _ (by rw [wt_append, wt_append]; omega) h'
theorem jOut_len {w : World} {ps qs : List Pt} {ao bo : Option Addr} {b1 o1 b2 o2 : Nat} (A : Arg w ps ao b1 o1) (B : Arg w qs bo b2 o2) : (jOut ps qs).length ≤ 100000000 := by
  unfold jOut
  split
  · rename_i h
    obtain ⟨S', L', A', h1, h2⟩ := JOk.fin _ _ _ _ _ _ _ (Nat.le_refl _) (jok_start A B h).1
    have := h1.p.len
    omega
  · simp
theorem jCode_bd (ps qs : List Pt) : 0 ≤ jCode ps qs ∧ jCode ps qs ≤ 100 := by rcases jCode_or ps qs with h | h | h <;> omega

set_option maxRecDepth 100000 in
set_option maxHeartbeats 2000000 in
theorem joins_walk {N : Nat} {f c : Addr} (ps qs : List Pt) (ao bo : Option Addr) (b1 o1 c1 b2 o2 c2 : Nat) (w : World) (E : Env N f c w) (A : Arg w ps ao b1 o1) (B : Arg w qs bo b2 o2) (hc1 : ps.length ≤ c1) (hc2 : qs.length ≤ c2) :
    Calls Tryd.prog 6 #[.slice ao ps.length c1, .slice bo qs.length c2] w fun e w' => e = .returned (.bool true) ∧ Below w.heap.size w w' := by
  have HE : Hid (Env N f c w) := E
  have HA : Hid (Arg w ps ao b1 o1) := A
  have HB : Hid (Arg w qs bo b2 o2) := B
  have hc := jCode_bd ps qs
  have HLen : Hid ((jOut ps qs).length ≤ 100000000) := jOut_len A B
  have HF : Hid (∀ wx ao' g cap' bo' h dap', Env N f c wx → Arg wx ps ao' g 0 → Arg wx qs bo' h 0 → Calls Tryd.prog 20 #[.slice ao' ps.length cap', .slice bo' qs.length dap'] wx fun e w' => ∃ r, e = .returned (.tuple #[r, .int .i64 (jCode ps qs)]) ∧ w'.ownsRow wx.heap.size 61 3 r (jOut ps qs).length (cellsOf (jOut ps qs)) ∧ Below wx.heap.size wx w') := fun wx ao' g cap' bo' h dap' Ex Ax Bx => joinF_any ps qs ao' bo' g 0 cap' h 0 dap' wx Ex Ax Bx
  have HR : Hid (∀ wx, Arg wx ps ao b1 o1 → Arg wx qs bo b2 o2 → Calls Tryd.prog 21 #[.slice ao ps.length c1, .slice bo qs.length c2] wx fun e w' => ∃ v, e = .returned (.tuple #[v, .int .i64 (jCode ps qs)]) ∧ Own w' wx.heap.size v (jOut ps qs) ∧ Below wx.heap.size wx w') := fun wx Ax Bx => refJoin_any ps qs ao bo b1 o1 c1 b2 o2 c2 wx Ax Bx hc1 hc2
  have HL : Hid (ps.length ≤ 100000000 ∧ qs.length ≤ 100000000) := by have := A.len; have := B.len; exact ⟨by omega, by omega⟩
  generalize jOut ps qs = so at *
  generalize jCode ps qs = r2 at *
  clear E A B hc1 hc2
  go_enter Tryd.func6, Tryd.ntmps6
  go_wp2_with fail
  refine (ours_arg ps ao b1 o1 c1 w HA.out).mono ?_
  rintro e w1 ⟨ao', g, cap', rfl, hA1, hg1, ho1, hb1⟩
  have HA1 : Hid (Arg w1 ps ao' g 0) := hA1
  have HB1 : Hid (Arg w1 qs bo b2 o2) := HB.out.below hb1 HB.out.lt
  clear hA1 hg1 ho1
  go_wp2_with fail
  refine (ours_arg qs bo b2 o2 c2 w1 HB1.out).mono ?_
  rintro e w2 ⟨bo', h, dap', rfl, hB2, hg2, ho2, hb2⟩
  have HA2 : Hid (Arg w2 ps ao' g 0) := HA1.out.below hb2 HA1.out.lt
  have HB2 : Hid (Arg w2 qs bo' h 0) := hB2
  have hbw2 : Below w.heap.size w w2 := hb1.trans (hb2.mono hb1.size)
  clear hB2 hg2 ho2
  go_wp2_with fail
  refine (HF.out w2 ao' g cap' bo' h dap' (HE.out.here hbw2) HA2.out HB2.out).mono ?_
  rintro e w3 ⟨s, rfl, hs3, hb3⟩
  have HS : Hid (w3.ownsRow w2.heap.size 61 3 s so.length (cellsOf so)) := hs3
  have hbw3 : Below w.heap.size w w3 := hbw2.trans (hb3.mono hbw2.size)
  have HA3 : Hid (Arg w3 ps ao' g 0) := HA2.out.below hb3 HA2.out.lt
  have HB3 : Hid (Arg w3 qs bo' h 0) := HB2.out.below hb3 HB2.out.lt
  clear hs3
  go_wp2_with fail
  refine (HF.out w3 ao' g cap' bo' h dap' (HE.out.here hbw3) HA3.out HB3.out).mono ?_
  rintro e w4 ⟨o, rfl, ho4, hb4⟩
  have HO : Hid (w4.ownsRow w3.heap.size 61 3 o so.length (cellsOf so)) := ho4
  have hbw4 : Below w.heap.size w w4 := hbw3.trans (hb4.mono hbw3.size)
  clear ho4
  go_wp2_with fail
  refine (spoil_any w3.heap.size w4 o so.length (cellsOf so) HLen.out HO.out).mono ?_
  rintro e w5 ⟨rfl, hwr⟩
  have hb5 : Below w3.heap.size w3 w5 := hb4.trans (spoil_below HO.out hwr (Nat.le_refl _) hb4.size)
  have hbw5 : Below w.heap.size w w5 := hbw3.trans (hb5.mono hbw3.size)
  clear hwr
  go_wp2_with fail
  refine (HR.out w5 (HA.out.below hbw5 HA.out.lt) (HB.out.below hbw5 HB.out.lt)).mono ?_
  rintro e w6 ⟨t, rfl, ht6, hb6⟩
  have HT : Hid (Own w6 w5.heap.size t so) := ht6
  have hb36 : Below w3.heap.size w3 w6 := hb5.trans (hb6.mono hb5.size)
  have hbw6 : Below w.heap.size w w6 := hbw3.trans (hb36.mono hbw3.size)
  have HA6 : Hid (Arg w6 ps ao' g 0) := HA3.out.below hb36 HA3.out.lt
  have HB6 : Hid (Arg w6 qs bo' h 0) := HB3.out.below hb36 HB3.out.lt
  have HC6 : Hid (Arg w6 ps ao b1 o1) := HA.out.below hbw6 HA.out.lt
  have HD6 : Hid (Arg w6 qs bo b2 o2) := HB.out.below hbw6 HB.out.lt
  clear ht6
  go_wp2_with fail
  refine (same_any ps ao' ao g 0 b1 o1 cap' c1 w6 HL.out.1 (fun h => ⟨HA6.out.ao h, HA6.out.lt h⟩) (fun h => ⟨HC6.out.ao h, HC6.out.lt h⟩) HA6.out.cells HC6.out.cells).mono ?_
  rintro e w7 ⟨rfl, hb7⟩
  have HB7 : Hid (Arg w7 qs bo' h 0) := HB6.out.below hb7 HB6.out.lt
  have HD7 : Hid (Arg w7 qs bo b2 o2) := HD6.out.below hb7 HD6.out.lt
  go_wp2_with fail
  refine (same_any qs bo' bo h 0 b2 o2 dap' c2 w7 HL.out.2 (fun h => ⟨HB7.out.ao h, HB7.out.lt h⟩) (fun h => ⟨HD7.out.ao h, HD7.out.lt h⟩) HB7.out.cells HD7.out.cells).mono ?_
  rintro e w8 ⟨rfl, hb8⟩
  have hb68 : Below w6.heap.size w6 w8 := hb7.trans (hb8.mono hb7.size)
  have hb38 : Below w3.heap.size w3 w8 := hb36.trans (hb68.mono hb36.size)
  obtain ⟨so1, sg, scap, hsv, hsa, hsc, _⟩ := Owns.form (show Owns w8 w2.heap.size s so from own_here HS.out hb38)
  obtain ⟨to1, tg, tcap, htv, hta, htc⟩ := Own.form (show Own w8 w5.heap.size t so from own_here HT.out hb68)
  subst hsv htv
  go_wp2_with fail
  refine (same_any so so1 to1 sg 0 tg 0 scap tcap w8 HLen.out (fun h => ⟨(hsa h).1, (hsa h).2.2⟩) hta hsc htc).mono ?_
  rintro e w9 ⟨rfl, hb9⟩
  clear hsa hsc hta htc
  go_wp2_with (go_at_call 13; refine (num_any r2 w9 hc.1 hc.2).mono ?_; rintro e w10 ⟨rfl, hww⟩; obtain rfl := hww.symm)
  go_ret
  have hbw8 : Below w.heap.size w w8 := hbw6.trans (hb68.mono hbw6.size)
  exact ⟨rfl, hbw8.trans (hb9.mono hbw8.size)⟩
end Go.Proofs.YtdlolnahbgecjaaDoor
namespace Go.Proofs.YtdlolnahbgecjaaDoor
open Go.RowKit
set_option linter.unusedVariables false

/-- joined: both are done -/
theorem join_pure {text : ByteArray} {ps qs : List Pt} (h1 : Fts ps text) (h2 : Fts qs (doOut text ps)) (ht : text.size ≤ 1048576) (l1 : ps.length ≤ 1048576) (l2 : qs.length ≤ 1048576) (t1 : textL ps ≤ 1048576) (t2 : textL qs ≤ 1048576) :
    jCode ps qs = 0 ∧ Fts (jOut ps qs) text ∧ doOut text (jOut ps qs) = doOut (doOut text ps) qs ∧ (jOut ps qs).length ≤ ps.length + qs.length ∧ textL (jOut ps qs) ≤ textL ps + textL qs ∧ (doOut text ps).size ≤ text.size + textL ps := by
  have hb : text.size ≤ 4611686018427387904 := by omega
  have g1 := h1.size hb
  have c1 := made_le' h1.ok
  have d1 := h1.fit
  have d2 := h2.fit
  have hb2 : (doOut text ps).size ≤ 4611686018427387904 := by omega
  have hc : jCode ps qs = 0 := by
    have e1 : From ps = text.size := by simp [From, h1.from hb]
    have e2 : From qs = (doOut text ps).size := by simp [From, h2.from hb2]
    have e3 := madeTo_made h1.ok ps.length (Nat.le_refl _)
    rw [List.take_length] at e3
    unfold jCode
    rw [if_neg (by simp [good_of_ok h1.ok, good_of_ok h2.ok]), if_neg (by omega), if_neg (by omega)]
  have o1 : jOut ps qs = settleP (Jn ps qs ws0) := by unfold jOut; rw [if_pos hc]
  have hJ : JOk ps qs ws0 0 0 0 := ⟨h1.ok, h2.ok, by omega, SOk.zero, by have := sum_from h1.ok; omega, by omega, by omega⟩
  obtain ⟨e, le, he, te, se, hm⟩ := join_res _ _ _ _ _ _ _ (Nat.le_refl _) hJ
  have z : settleP ws0 = [] := settle_zero
  have leok : allOk (jOut ps qs) := by have := le.ok; rw [← o1] at this; exact this
  have les := le.sum
  have lel := le.len
  have let' := le.txt
  rw [z] at les lel let'
  rw [← o1] at les lel let'
  simp only [sumL, textL, List.length_nil] at les lel let'
  have p1 : Fts (jOut ps qs) text := ⟨leok, by have := sum_from leok; omega⟩
  refine ⟨hc, p1, bytes_ext ?_, by omega, by omega, by omega⟩
  rw [p1.out hb, h2.out hb2, h1.out hb, o1, le.fin]
  exact hm _ (by rw [bytes_len]; exact d1.symm)
theorem Fts.sum_le {ps : List Pt} {text : ByteArray} (h : Fts ps text) (hs : text.size ≤ 1048576) : sumL ps ≤ 9223372036854775807 := by
  have := sum_from h.ok; have := h.fit; omega
/-- Do with a row -/
theorem do_row {N : Nat} {f c : Addr} {text : ByteArray} {l : List Pt} (h : Fts l text) (ht : text.size ≤ 1048576) (hl : l.length ≤ 1048576) (hx : textL l ≤ 1048576) (wx : World) (B : Nat) (v : Value) (E : Env N f c wx) (ho : wx.ownsRow B 61 3 v l.length (cellsOf l)) :
    Calls Tryd.prog 18 #[.string text, v] wx fun e w' => e = .returned (.tuple #[.string (doOut text l), .int .i64 0]) ∧ Below wx.heap.size wx w' := by
  obtain ⟨ao', g, cap', rfl, Ax⟩ := Arg.own ho h.ok hl hx (h.sum_le ht)
  have := doF_any text l ao' g 0 cap' wx E Ax ht
  rwa [doStr_out, h.ref (by omega)] at this
/-- Do with a list that was handed over -/
theorem do_arg {N : Nat} {f c : Addr} {text : ByteArray} {l : List Pt} (h : Fts l text) (ht : text.size ≤ 1048576) (wx : World) (ao : Option Addr) (g cap : Nat) (E : Env N f c wx) (Ax : Arg wx l ao g 0) :
    Calls Tryd.prog 18 #[.string text, .slice ao l.length cap] wx fun e w' => e = .returned (.tuple #[.string (doOut text l), .int .i64 0]) ∧ Below wx.heap.size wx w' := by
  have := doF_any text l ao g 0 cap wx E Ax ht
  rwa [doStr_out, h.ref (by omega)] at this
theorem do_not {N : Nat} {f c : Addr} {text : ByteArray} {l : List Pt} (h : (refFit l text.size).2 ≠ 0) (ht : text.size ≤ 1048576) (wx : World) (ao : Option Addr) (g cap : Nat) (E : Env N f c wx) (Ax : Arg wx l ao g 0) :
    Calls Tryd.prog 18 #[.string text, .slice ao l.length cap] wx fun e w' => e = .returned (.tuple #[.string ⟨#[]⟩, .int .i64 (refFit l text.size).2]) ∧ Below wx.heap.size wx w' := by
  have := doF_any text l ao g 0 cap wx E Ax ht
  rwa [doStr_out, show doOut text l = ⟨#[]⟩ by unfold doOut; rw [if_neg h]] at this

set_option maxRecDepth 100000 in
set_option maxHeartbeats 4000000 in
theorem both_a {N : Nat} {f c : Addr} (text : ByteArray) (ps qs rs : List Pt) (ao bo co : Option Addr) (b1 o1 c1 b2 o2 c2 b3 o3 c3 : Nat) (w : World) (E : Env N f c w) (A : Arg w ps ao b1 o1) (B : Arg w qs bo b2 o2) (C : Arg w rs co b3 o3) (ht : text.size + (ps.length + textTo ps ps.length) + (qs.length + textTo qs qs.length) + (rs.length + textTo rs rs.length) ≤ 1048576) (hn : (refFit ps text.size).2 ≠ 0) :
    Calls Tryd.prog 9 #[.string text, .slice ao ps.length c1, .slice bo qs.length c2, .slice co rs.length c3] w fun e w' => e = .returned (.bool true) ∧ Below w.heap.size w w' := by
  have HE : Hid (Env N f c w) := E
  have HA : Hid (Arg w ps ao b1 o1) := A
  have HB : Hid (Arg w qs bo b2 o2) := B
  have HC : Hid (Arg w rs co b3 o3) := C
  have htx : text.size ≤ 1048576 := by omega
  have HAl : Hid (∀ wx, Env N f c wx → Calls Tryd.prog 24 #[] wx fun e w' => e = .returned (.bool true) ∧ Below wx.heap.size wx w') := fun wx Ex => alive_any wx Ex
  have HFi : Hid (∀ wx, Arg wx ps ao b1 o1 → Calls Tryd.prog 12 #[.slice ao ps.length c1, .int .i64 (text.size : Nat)] wx fun e w' => e = .returned (.tuple #[.int .i64 (refFit ps text.size).1, .int .i64 (refFit ps text.size).2]) ∧ Below wx.heap.size wx w') := fun wx Ax => refFit_any ps ao b1 o1 c1 text.size wx Ax
  have HD1 : Hid (∀ wx ao' g cap', Env N f c wx → Arg wx ps ao' g 0 → Calls Tryd.prog 18 #[.string text, .slice ao' ps.length cap'] wx fun e w' => e = .returned (.tuple #[.string ⟨#[]⟩, .int .i64 (refFit ps text.size).2]) ∧ Below wx.heap.size wx w') := fun wx ao' g cap' Ex Ax => do_not hn htx wx ao' g cap' Ex Ax
  have hc := refFit_code ps text.size
  have hne : ((refFit ps text.size).2 != 0) = true := by simpa using hn
  clear E A B C ht htx hn
  generalize (refFit ps text.size).1 = fa at *
  generalize (refFit ps text.size).2 = ea at *
  go_enter Tryd.func9, Tryd.ntmps9
  go_wp2_with fail
  refine (HAl.out w HE.out).mono ?_
  rintro e w1 ⟨rfl, hb1⟩
  have hw1 : Below w.heap.size w w1 := hb1
  go_wp2_with fail
  refine (ours_arg ps ao b1 o1 c1 w1 (HA.out.below hw1 HA.out.lt)).mono ?_
  rintro e w2 ⟨aoa, ga, capa, rfl, hAa, _, _, hb2⟩
  have hw2 : Below w.heap.size w w2 := hw1.trans (hb2.mono hw1.size)
  have Aa_2 : Hid (Arg w2 ps aoa ga 0) := hAa
  clear hAa
  go_wp2_with fail
  refine (HD1.out w2 aoa ga capa (HE.out.here hw2) Aa_2.out).mono ?_
  rintro e w3 ⟨rfl, hb3⟩
  have hw3 : Below w.heap.size w w3 := hw2.trans (hb3.mono hw2.size)
  go_wp2_with fail
  refine (HFi.out w3 (HA.out.below hw3 HA.out.lt)).mono ?_
  rintro e w4 ⟨rfl, hb4⟩
  have hw4 : Below w.heap.size w w4 := hw3.trans (hb4.mono hw3.size)
  go_wp2_with (go_at_call 13; refine (num_any ea w4 hc.1 hc.2).mono ?_; rintro e wq ⟨rfl, hww⟩; obtain rfl := hww.symm; clear hww)
  go_ret
  exact ⟨rfl, hw4⟩
set_option maxRecDepth 100000 in
set_option maxHeartbeats 4000000 in
theorem both_b {N : Nat} {f c : Addr} (text : ByteArray) (ps qs rs : List Pt) (ao bo co : Option Addr) (b1 o1 c1 b2 o2 c2 b3 o3 c3 : Nat) (w : World) (E : Env N f c w) (A : Arg w ps ao b1 o1) (B : Arg w qs bo b2 o2) (C : Arg w rs co b3 o3) (ht : text.size + (ps.length + textTo ps ps.length) + (qs.length + textTo qs qs.length) + (rs.length + textTo rs rs.length) ≤ 1048576) (F1 : Fts ps text) (hn : (refFit qs (doOut text ps).size).2 ≠ 0) :
    Calls Tryd.prog 9 #[.string text, .slice ao ps.length c1, .slice bo qs.length c2, .slice co rs.length c3] w fun e w' => e = .returned (.bool true) ∧ Below w.heap.size w w' := by
  have HE : Hid (Env N f c w) := E
  have HA : Hid (Arg w ps ao b1 o1) := A
  have HB : Hid (Arg w qs bo b2 o2) := B
  have HC : Hid (Arg w rs co b3 o3) := C
  have htx : text.size ≤ 1048576 := by omega
  have HAl : Hid (∀ wx, Env N f c wx → Calls Tryd.prog 24 #[] wx fun e w' => e = .returned (.bool true) ∧ Below wx.heap.size wx w') := fun wx Ex => alive_any wx Ex
  have HFi : Hid (∀ wx, Arg wx ps ao b1 o1 → Calls Tryd.prog 12 #[.slice ao ps.length c1, .int .i64 (text.size : Nat)] wx fun e w' => e = .returned (.tuple #[.int .i64 (refFit ps text.size).1, .int .i64 (refFit ps text.size).2]) ∧ Below wx.heap.size wx w') := fun wx Ax => refFit_any ps ao b1 o1 c1 text.size wx Ax
  have wa := A.wk
  have wb := B.wk
  have wc := C.wk
  have hbig : text.size ≤ 4611686018427387904 := by omega
  obtain ⟨f1, k1, _, sl1, st1, sm1⟩ := Fts.short A F1 hbig
  have hone : (doOut text ps).size ≤ text.size + textL ps := by have := F1.size hbig; have := made_le' F1.ok; have := F1.fit; omega
  have eshort : doOut text (shortL ps) = doOut text ps := bytes_ext (by rw [f1.out hbig, F1.out hbig, short_do F1.ok])
  have ecode : shortCode ps = 0 := by unfold shortCode; rw [if_neg (by simp [good_of_ok F1.ok]), if_neg (by simp [From, F1.from hbig])]
  have eout : shortOut ps = shortL ps := by unfold shortOut; rw [if_pos ecode]
  have HD1 : Hid (∀ wx ao' g cap', Env N f c wx → Arg wx ps ao' g 0 → Calls Tryd.prog 18 #[.string text, .slice ao' ps.length cap'] wx fun e w' => e = .returned (.tuple #[.string (doOut text ps), .int .i64 0]) ∧ Below wx.heap.size wx w') := fun wx ao' g cap' Ex Ax => do_arg F1 htx wx ao' g cap' Ex Ax
  have HSh : Hid (∀ wx ao' g cap', Env N f c wx → Arg wx ps ao' g 0 → Calls Tryd.prog 14 #[.slice ao' ps.length cap'] wx fun e w' => ∃ r, e = .returned (.tuple #[r, .int .i64 0]) ∧ w'.ownsRow wx.heap.size 61 3 r (shortL ps).length (cellsOf (shortL ps)) ∧ Below wx.heap.size wx w') := fun wx ao' g cap' Ex Ax => by
    have := shortF_any ps ao' g 0 cap' wx Ex Ax
    rwa [ecode, eout] at this
  have HDs : Hid (∀ wx B v, Env N f c wx → wx.ownsRow B 61 3 v (shortL ps).length (cellsOf (shortL ps)) → Calls Tryd.prog 18 #[.string text, v] wx fun e w' => e = .returned (.tuple #[.string (doOut text ps), .int .i64 0]) ∧ Below wx.heap.size wx w') := fun wx B v Ex ho => by have := do_row f1 htx k1.len (by omega) wx B v Ex ho; rwa [eshort] at this
  have HD2 : Hid (∀ wx ao' g cap', Env N f c wx → Arg wx qs ao' g 0 → Calls Tryd.prog 18 #[.string (doOut text ps), .slice ao' qs.length cap'] wx fun e w' => e = .returned (.tuple #[.string ⟨#[]⟩, .int .i64 (refFit qs (doOut text ps).size).2]) ∧ Below wx.heap.size wx w') := fun wx ao' g cap' Ex Ax => do_not hn (by omega) wx ao' g cap' Ex Ax
  have e0 := F1.ref hbig
  rw [e0] at HFi
  have hc := refFit_code qs (doOut text ps).size
  have hne : ((refFit qs (doOut text ps).size).2 != 0) = true := by simpa using hn
  clear E A B C ht htx hn f1 k1 sl1 st1 sm1 hone eshort ecode eout F1 hbig wa wb wc e0
  generalize madeTo ps ps.length = fa at *
  generalize (refFit qs (doOut text ps).size).2 = eb at *
  generalize shortL ps = sl at *
  generalize doOut text ps = one at *
  go_enter Tryd.func9, Tryd.ntmps9
  go_wp2_with fail
  refine (HAl.out w HE.out).mono ?_
  rintro e w1 ⟨rfl, hb1⟩
  have hw1 : Below w.heap.size w w1 := hb1
  go_wp2_with fail
  refine (ours_arg ps ao b1 o1 c1 w1 (HA.out.below hw1 HA.out.lt)).mono ?_
  rintro e w2 ⟨aoa, ga, capa, rfl, hAa, _, _, hb2⟩
  have hw2 : Below w.heap.size w w2 := hw1.trans (hb2.mono hw1.size)
  have Aa_2 : Hid (Arg w2 ps aoa ga 0) := hAa
  clear hAa
  go_wp2_with fail
  refine (HD1.out w2 aoa ga capa (HE.out.here hw2) Aa_2.out).mono ?_
  rintro e w3 ⟨rfl, hb3⟩
  have hw3 : Below w.heap.size w w3 := hw2.trans (hb3.mono hw2.size)
  go_wp2_with fail
  refine (HFi.out w3 (HA.out.below hw3 HA.out.lt)).mono ?_
  rintro e w4 ⟨rfl, hb4⟩
  have hw4 : Below w.heap.size w w4 := hw3.trans (hb4.mono hw3.size)
  go_wp2_with (first | (go_at_call 13; refine (num_any 0 w4 (by decide) (by decide)).mono ?_; rintro e wq ⟨rfl, hww⟩; obtain rfl := hww.symm; clear hww) | fail)
  refine (ours_arg ps ao b1 o1 c1 w4 (HA.out.below hw4 HA.out.lt)).mono ?_
  rintro e w5 ⟨aoa2, ga2, capa2, rfl, hAa2, _, _, hb5⟩
  have hw5 : Below w.heap.size w w5 := hw4.trans (hb5.mono hw4.size)
  have Aa2_5 : Hid (Arg w5 ps aoa2 ga2 0) := hAa2
  clear hAa2
  go_wp2_with fail
  refine (HSh.out w5 aoa2 ga2 capa2 (HE.out.here hw5) Aa2_5.out).mono ?_
  rintro e w6 ⟨vs, rfl, hos, hb6⟩
  have hw6 : Below w.heap.size w w6 := hw5.trans (hb6.mono hw5.size)
  have HOs : Hid (w6.ownsRow w5.heap.size 61 3 vs sl.length (cellsOf sl)) := hos
  clear hos
  go_wp2_with fail
  refine (HDs.out w6 _ vs (HE.out.here hw6) HOs.out).mono ?_
  rintro e w7 ⟨rfl, hb7⟩
  have hw7 : Below w.heap.size w w7 := hw6.trans (hb7.mono hw6.size)
  have rs_7 : Below w6.heap.size w6 w7 := hb7
  go_wp2_with (first | (go_at_call 13; refine (num_any 0 w7 (by decide) (by decide)).mono ?_; rintro e wq ⟨rfl, hww⟩; obtain rfl := hww.symm; clear hww) | fail)
  refine (ours_arg qs bo b2 o2 c2 w7 (HB.out.below hw7 HB.out.lt)).mono ?_
  rintro e w8 ⟨aob, gb, capb, rfl, hAb, _, _, hb8⟩
  have hw8 : Below w.heap.size w w8 := hw7.trans (hb8.mono hw7.size)
  have Ab_8 : Hid (Arg w8 qs aob gb 0) := hAb
  clear hAb
  go_wp2_with fail
  refine (HD2.out w8 aob gb capb (HE.out.here hw8) Ab_8.out).mono ?_
  rintro e w9 ⟨rfl, hb9⟩
  have hw9 : Below w.heap.size w w9 := hw8.trans (hb9.mono hw8.size)
  go_wp2_with (go_at_call 13; refine (num_any eb w9 hc.1 hc.2).mono ?_; rintro e wq ⟨rfl, hww⟩; obtain rfl := hww.symm; clear hww)
  go_ret
  exact ⟨rfl, hw9⟩
set_option maxRecDepth 100000 in
set_option maxHeartbeats 4000000 in
theorem both_c {N : Nat} {f c : Addr} (text : ByteArray) (ps qs rs : List Pt) (ao bo co : Option Addr) (b1 o1 c1 b2 o2 c2 b3 o3 c3 : Nat) (w : World) (E : Env N f c w) (A : Arg w ps ao b1 o1) (B : Arg w qs bo b2 o2) (C : Arg w rs co b3 o3) (ht : text.size + (ps.length + textTo ps ps.length) + (qs.length + textTo qs qs.length) + (rs.length + textTo rs rs.length) ≤ 1048576) (F1 : Fts ps text) (F2 : Fts qs (doOut text ps)) (hn : (refFit rs (doOut (doOut text ps) qs).size).2 ≠ 0) :
    Calls Tryd.prog 9 #[.string text, .slice ao ps.length c1, .slice bo qs.length c2, .slice co rs.length c3] w fun e w' => e = .returned (.bool true) ∧ Below w.heap.size w w' := by
  have HE : Hid (Env N f c w) := E
  have HA : Hid (Arg w ps ao b1 o1) := A
  have HB : Hid (Arg w qs bo b2 o2) := B
  have HC : Hid (Arg w rs co b3 o3) := C
  have htx : text.size ≤ 1048576 := by omega
  have HAl : Hid (∀ wx, Env N f c wx → Calls Tryd.prog 24 #[] wx fun e w' => e = .returned (.bool true) ∧ Below wx.heap.size wx w') := fun wx Ex => alive_any wx Ex
  have HFi : Hid (∀ wx, Arg wx ps ao b1 o1 → Calls Tryd.prog 12 #[.slice ao ps.length c1, .int .i64 (text.size : Nat)] wx fun e w' => e = .returned (.tuple #[.int .i64 (refFit ps text.size).1, .int .i64 (refFit ps text.size).2]) ∧ Below wx.heap.size wx w') := fun wx Ax => refFit_any ps ao b1 o1 c1 text.size wx Ax
  have wa := A.wk
  have wb := B.wk
  have wc := C.wk
  have hbig : text.size ≤ 4611686018427387904 := by omega
  obtain ⟨f1, k1, _, sl1, st1, sm1⟩ := Fts.short A F1 hbig
  have hone : (doOut text ps).size ≤ text.size + textL ps := by have := F1.size hbig; have := made_le' F1.ok; have := F1.fit; omega
  have eshort : doOut text (shortL ps) = doOut text ps := bytes_ext (by rw [f1.out hbig, F1.out hbig, short_do F1.ok])
  have ecode : shortCode ps = 0 := by unfold shortCode; rw [if_neg (by simp [good_of_ok F1.ok]), if_neg (by simp [From, F1.from hbig])]
  have eout : shortOut ps = shortL ps := by unfold shortOut; rw [if_pos ecode]
  have HD1 : Hid (∀ wx ao' g cap', Env N f c wx → Arg wx ps ao' g 0 → Calls Tryd.prog 18 #[.string text, .slice ao' ps.length cap'] wx fun e w' => e = .returned (.tuple #[.string (doOut text ps), .int .i64 0]) ∧ Below wx.heap.size wx w') := fun wx ao' g cap' Ex Ax => do_arg F1 htx wx ao' g cap' Ex Ax
  have HSh : Hid (∀ wx ao' g cap', Env N f c wx → Arg wx ps ao' g 0 → Calls Tryd.prog 14 #[.slice ao' ps.length cap'] wx fun e w' => ∃ r, e = .returned (.tuple #[r, .int .i64 0]) ∧ w'.ownsRow wx.heap.size 61 3 r (shortL ps).length (cellsOf (shortL ps)) ∧ Below wx.heap.size wx w') := fun wx ao' g cap' Ex Ax => by
    have := shortF_any ps ao' g 0 cap' wx Ex Ax
    rwa [ecode, eout] at this
  have HDs : Hid (∀ wx B v, Env N f c wx → wx.ownsRow B 61 3 v (shortL ps).length (cellsOf (shortL ps)) → Calls Tryd.prog 18 #[.string text, v] wx fun e w' => e = .returned (.tuple #[.string (doOut text ps), .int .i64 0]) ∧ Below wx.heap.size wx w') := fun wx B v Ex ho => by have := do_row f1 htx k1.len (by omega) wx B v Ex ho; rwa [eshort] at this
  have HD2 : Hid (∀ wx ao' g cap', Env N f c wx → Arg wx qs ao' g 0 → Calls Tryd.prog 18 #[.string (doOut text ps), .slice ao' qs.length cap'] wx fun e w' => e = .returned (.tuple #[.string (doOut (doOut text ps) qs), .int .i64 0]) ∧ Below wx.heap.size wx w') := fun wx ao' g cap' Ex Ax => do_arg F2 (by omega) wx ao' g cap' Ex Ax
  obtain ⟨jc, jf, jd, jl1, jt1, _⟩ := join_pure F1 F2 htx (by omega) (by omega) (by omega) (by omega)
  have htwo : (doOut (doOut text ps) qs).size ≤ text.size + textL ps + textL qs := by have := F2.size (by omega); have := made_le' F2.ok; have := F2.fit; omega
  have HJ : Hid (∀ wx ao' g cap' bo' h dap', Env N f c wx → Arg wx ps ao' g 0 → Arg wx qs bo' h 0 → Calls Tryd.prog 20 #[.slice ao' ps.length cap', .slice bo' qs.length dap'] wx fun e w' => ∃ r, e = .returned (.tuple #[r, .int .i64 0]) ∧ w'.ownsRow wx.heap.size 61 3 r (jOut ps qs).length (cellsOf (jOut ps qs)) ∧ Below wx.heap.size wx w') := fun wx ao' g cap' bo' h dap' Ex Ax Bx => by
    have := joinF_any ps qs ao' bo' g 0 cap' h 0 dap' wx Ex Ax Bx
    rwa [jc] at this
  have HDj : Hid (∀ wx B v, Env N f c wx → wx.ownsRow B 61 3 v (jOut ps qs).length (cellsOf (jOut ps qs)) → Calls Tryd.prog 18 #[.string text, v] wx fun e w' => e = .returned (.tuple #[.string (doOut (doOut text ps) qs), .int .i64 0]) ∧ Below wx.heap.size wx w') := fun wx B v Ex ho => by have := do_row jf htx (by omega) (by omega) wx B v Ex ho; rwa [jd] at this
  have HD3 : Hid (∀ wx ao' g cap', Env N f c wx → Arg wx rs ao' g 0 → Calls Tryd.prog 18 #[.string (doOut (doOut text ps) qs), .slice ao' rs.length cap'] wx fun e w' => e = .returned (.tuple #[.string ⟨#[]⟩, .int .i64 (refFit rs (doOut (doOut text ps) qs).size).2]) ∧ Below wx.heap.size wx w') := fun wx ao' g cap' Ex Ax => do_not hn (by omega) wx ao' g cap' Ex Ax
  have e0 := F1.ref hbig
  rw [e0] at HFi
  have hc := refFit_code rs (doOut (doOut text ps) qs).size
  have hne : ((refFit rs (doOut (doOut text ps) qs).size).2 != 0) = true := by simpa using hn
  clear E A B C ht htx hn f1 k1 sl1 st1 sm1 hone eshort ecode eout F1 F2 hbig wa wb wc jc jf jd jl1 jt1 htwo e0
  generalize madeTo ps ps.length = fa at *
  generalize (refFit rs (doOut (doOut text ps) qs).size).2 = ec at *
  generalize jOut ps qs = jl at *
  generalize doOut (doOut text ps) qs = two at *
  generalize shortL ps = sl at *
  generalize doOut text ps = one at *
  go_enter Tryd.func9, Tryd.ntmps9
  go_wp2_with fail
  refine (HAl.out w HE.out).mono ?_
  rintro e w1 ⟨rfl, hb1⟩
  have hw1 : Below w.heap.size w w1 := hb1
  go_wp2_with fail
  refine (ours_arg ps ao b1 o1 c1 w1 (HA.out.below hw1 HA.out.lt)).mono ?_
  rintro e w2 ⟨aoa, ga, capa, rfl, hAa, _, _, hb2⟩
  have hw2 : Below w.heap.size w w2 := hw1.trans (hb2.mono hw1.size)
  have Aa_2 : Hid (Arg w2 ps aoa ga 0) := hAa
  clear hAa
  go_wp2_with fail
  refine (HD1.out w2 aoa ga capa (HE.out.here hw2) Aa_2.out).mono ?_
  rintro e w3 ⟨rfl, hb3⟩
  have hw3 : Below w.heap.size w w3 := hw2.trans (hb3.mono hw2.size)
  go_wp2_with fail
  refine (HFi.out w3 (HA.out.below hw3 HA.out.lt)).mono ?_
  rintro e w4 ⟨rfl, hb4⟩
  have hw4 : Below w.heap.size w w4 := hw3.trans (hb4.mono hw3.size)
  go_wp2_with (first | (go_at_call 13; refine (num_any 0 w4 (by decide) (by decide)).mono ?_; rintro e wq ⟨rfl, hww⟩; obtain rfl := hww.symm; clear hww) | fail)
  refine (ours_arg ps ao b1 o1 c1 w4 (HA.out.below hw4 HA.out.lt)).mono ?_
  rintro e w5 ⟨aoa2, ga2, capa2, rfl, hAa2, _, _, hb5⟩
  have hw5 : Below w.heap.size w w5 := hw4.trans (hb5.mono hw4.size)
  have Aa2_5 : Hid (Arg w5 ps aoa2 ga2 0) := hAa2
  clear hAa2
  go_wp2_with fail
  refine (HSh.out w5 aoa2 ga2 capa2 (HE.out.here hw5) Aa2_5.out).mono ?_
  rintro e w6 ⟨vs, rfl, hos, hb6⟩
  have hw6 : Below w.heap.size w w6 := hw5.trans (hb6.mono hw5.size)
  have HOs : Hid (w6.ownsRow w5.heap.size 61 3 vs sl.length (cellsOf sl)) := hos
  clear hos
  go_wp2_with fail
  refine (HDs.out w6 _ vs (HE.out.here hw6) HOs.out).mono ?_
  rintro e w7 ⟨rfl, hb7⟩
  have hw7 : Below w.heap.size w w7 := hw6.trans (hb7.mono hw6.size)
  have rs_7 : Below w6.heap.size w6 w7 := hb7
  go_wp2_with (first | (go_at_call 13; refine (num_any 0 w7 (by decide) (by decide)).mono ?_; rintro e wq ⟨rfl, hww⟩; obtain rfl := hww.symm; clear hww) | fail)
  refine (ours_arg qs bo b2 o2 c2 w7 (HB.out.below hw7 HB.out.lt)).mono ?_
  rintro e w8 ⟨aob, gb, capb, rfl, hAb, _, _, hb8⟩
  have hw8 : Below w.heap.size w w8 := hw7.trans (hb8.mono hw7.size)
  have Ab_8 : Hid (Arg w8 qs aob gb 0) := hAb
  clear hAb
  go_wp2_with fail
  refine (HD2.out w8 aob gb capb (HE.out.here hw8) Ab_8.out).mono ?_
  rintro e w9 ⟨rfl, hb9⟩
  have hw9 : Below w.heap.size w w9 := hw8.trans (hb9.mono hw8.size)
  go_wp2_with (first | (go_at_call 13; refine (num_any 0 w9 (by decide) (by decide)).mono ?_; rintro e wq ⟨rfl, hww⟩; obtain rfl := hww.symm; clear hww) | fail)
  refine (ours_arg ps ao b1 o1 c1 w9 (HA.out.below hw9 HA.out.lt)).mono ?_
  rintro e w10 ⟨aoa3, ga3, capa3, rfl, hAa3, _, _, hb10⟩
  have hw10 : Below w.heap.size w w10 := hw9.trans (hb10.mono hw9.size)
  have Aa3_10 : Hid (Arg w10 ps aoa3 ga3 0) := hAa3
  clear hAa3
  go_wp2_with fail
  refine (ours_arg qs bo b2 o2 c2 w10 (HB.out.below hw10 HB.out.lt)).mono ?_
  rintro e w11 ⟨aob3, gb3, capb3, rfl, hAb3, _, _, hb11⟩
  have hw11 : Below w.heap.size w w11 := hw10.trans (hb11.mono hw10.size)
  have Aa3_11 : Hid (Arg w11 ps aoa3 ga3 0) := Aa3_10.out.below hb11 Aa3_10.out.lt
  have Ab3_11 : Hid (Arg w11 qs aob3 gb3 0) := hAb3
  clear hAb3
  go_wp2_with fail
  refine (HJ.out w11 aoa3 ga3 capa3 aob3 gb3 capb3 (HE.out.here hw11) Aa3_11.out Ab3_11.out).mono ?_
  rintro e w12 ⟨vj, rfl, hoj, hb12⟩
  have hw12 : Below w.heap.size w w12 := hw11.trans (hb12.mono hw11.size)
  have HOj : Hid (w12.ownsRow w11.heap.size 61 3 vj jl.length (cellsOf jl)) := hoj
  clear hoj
  go_wp2_with fail
  refine (HDj.out w12 _ vj (HE.out.here hw12) HOj.out).mono ?_
  rintro e w13 ⟨rfl, hb13⟩
  have hw13 : Below w.heap.size w w13 := hw12.trans (hb13.mono hw12.size)
  have rj_13 : Below w12.heap.size w12 w13 := hb13
  go_wp2_with (first | (go_at_call 13; refine (num_any 0 w13 (by decide) (by decide)).mono ?_; rintro e wq ⟨rfl, hww⟩; obtain rfl := hww.symm; clear hww) | fail)
  refine (ours_arg rs co b3 o3 c3 w13 (HC.out.below hw13 HC.out.lt)).mono ?_
  rintro e w14 ⟨aoc, gc, capc, rfl, hAc, _, _, hb14⟩
  have hw14 : Below w.heap.size w w14 := hw13.trans (hb14.mono hw13.size)
  have rj_14 : Below w12.heap.size w12 w14 := rj_13.trans (hb14.mono rj_13.size)
  have Ac_14 : Hid (Arg w14 rs aoc gc 0) := hAc
  clear hAc
  go_wp2_with fail
  refine (HD3.out w14 aoc gc capc (HE.out.here hw14) Ac_14.out).mono ?_
  rintro e w15 ⟨rfl, hb15⟩
  have hw15 : Below w.heap.size w w15 := hw14.trans (hb15.mono hw14.size)
  have rj_15 : Below w12.heap.size w12 w15 := rj_14.trans (hb15.mono rj_14.size)
  go_wp2_with (go_at_call 13; refine (num_any ec w15 hc.1 hc.2).mono ?_; rintro e wq ⟨rfl, hww⟩; obtain rfl := hww.symm; clear hww)
  go_ret
  exact ⟨rfl, hw15⟩
set_option maxRecDepth 100000 in
set_option maxHeartbeats 4000000 in
theorem both_d {N : Nat} {f c : Addr} (text : ByteArray) (ps qs rs : List Pt) (ao bo co : Option Addr) (b1 o1 c1 b2 o2 c2 b3 o3 c3 : Nat) (w : World) (E : Env N f c w) (A : Arg w ps ao b1 o1) (B : Arg w qs bo b2 o2) (C : Arg w rs co b3 o3) (ht : text.size + (ps.length + textTo ps ps.length) + (qs.length + textTo qs qs.length) + (rs.length + textTo rs rs.length) ≤ 1048576) (F1 : Fts ps text) (F2 : Fts qs (doOut text ps)) (F3 : Fts rs (doOut (doOut text ps) qs)) :
    Calls Tryd.prog 9 #[.string text, .slice ao ps.length c1, .slice bo qs.length c2, .slice co rs.length c3] w fun e w' => e = .returned (.bool true) ∧ Below w.heap.size w w' := by
  have HE : Hid (Env N f c w) := E
  have HA : Hid (Arg w ps ao b1 o1) := A
  have HB : Hid (Arg w qs bo b2 o2) := B
  have HC : Hid (Arg w rs co b3 o3) := C
  have htx : text.size ≤ 1048576 := by omega
  have HAl : Hid (∀ wx, Env N f c wx → Calls Tryd.prog 24 #[] wx fun e w' => e = .returned (.bool true) ∧ Below wx.heap.size wx w') := fun wx Ex => alive_any wx Ex
  have HFi : Hid (∀ wx, Arg wx ps ao b1 o1 → Calls Tryd.prog 12 #[.slice ao ps.length c1, .int .i64 (text.size : Nat)] wx fun e w' => e = .returned (.tuple #[.int .i64 (refFit ps text.size).1, .int .i64 (refFit ps text.size).2]) ∧ Below wx.heap.size wx w') := fun wx Ax => refFit_any ps ao b1 o1 c1 text.size wx Ax
  have wa := A.wk
  have wb := B.wk
  have wc := C.wk
  have hbig : text.size ≤ 4611686018427387904 := by omega
  obtain ⟨f1, k1, _, sl1, st1, sm1⟩ := Fts.short A F1 hbig
  have hone : (doOut text ps).size ≤ text.size + textL ps := by have := F1.size hbig; have := made_le' F1.ok; have := F1.fit; omega
  have eshort : doOut text (shortL ps) = doOut text ps := bytes_ext (by rw [f1.out hbig, F1.out hbig, short_do F1.ok])
  have ecode : shortCode ps = 0 := by unfold shortCode; rw [if_neg (by simp [good_of_ok F1.ok]), if_neg (by simp [From, F1.from hbig])]
  have eout : shortOut ps = shortL ps := by unfold shortOut; rw [if_pos ecode]
  have HD1 : Hid (∀ wx ao' g cap', Env N f c wx → Arg wx ps ao' g 0 → Calls Tryd.prog 18 #[.string text, .slice ao' ps.length cap'] wx fun e w' => e = .returned (.tuple #[.string (doOut text ps), .int .i64 0]) ∧ Below wx.heap.size wx w') := fun wx ao' g cap' Ex Ax => do_arg F1 htx wx ao' g cap' Ex Ax
  have HSh : Hid (∀ wx ao' g cap', Env N f c wx → Arg wx ps ao' g 0 → Calls Tryd.prog 14 #[.slice ao' ps.length cap'] wx fun e w' => ∃ r, e = .returned (.tuple #[r, .int .i64 0]) ∧ w'.ownsRow wx.heap.size 61 3 r (shortL ps).length (cellsOf (shortL ps)) ∧ Below wx.heap.size wx w') := fun wx ao' g cap' Ex Ax => by
    have := shortF_any ps ao' g 0 cap' wx Ex Ax
    rwa [ecode, eout] at this
  have HDs : Hid (∀ wx B v, Env N f c wx → wx.ownsRow B 61 3 v (shortL ps).length (cellsOf (shortL ps)) → Calls Tryd.prog 18 #[.string text, v] wx fun e w' => e = .returned (.tuple #[.string (doOut text ps), .int .i64 0]) ∧ Below wx.heap.size wx w') := fun wx B v Ex ho => by have := do_row f1 htx k1.len (by omega) wx B v Ex ho; rwa [eshort] at this
  have HD2 : Hid (∀ wx ao' g cap', Env N f c wx → Arg wx qs ao' g 0 → Calls Tryd.prog 18 #[.string (doOut text ps), .slice ao' qs.length cap'] wx fun e w' => e = .returned (.tuple #[.string (doOut (doOut text ps) qs), .int .i64 0]) ∧ Below wx.heap.size wx w') := fun wx ao' g cap' Ex Ax => do_arg F2 (by omega) wx ao' g cap' Ex Ax
  obtain ⟨jc, jf, jd, jl1, jt1, _⟩ := join_pure F1 F2 htx (by omega) (by omega) (by omega) (by omega)
  have htwo : (doOut (doOut text ps) qs).size ≤ text.size + textL ps + textL qs := by have := F2.size (by omega); have := made_le' F2.ok; have := F2.fit; omega
  have HJ : Hid (∀ wx ao' g cap' bo' h dap', Env N f c wx → Arg wx ps ao' g 0 → Arg wx qs bo' h 0 → Calls Tryd.prog 20 #[.slice ao' ps.length cap', .slice bo' qs.length dap'] wx fun e w' => ∃ r, e = .returned (.tuple #[r, .int .i64 0]) ∧ w'.ownsRow wx.heap.size 61 3 r (jOut ps qs).length (cellsOf (jOut ps qs)) ∧ Below wx.heap.size wx w') := fun wx ao' g cap' bo' h dap' Ex Ax Bx => by
    have := joinF_any ps qs ao' bo' g 0 cap' h 0 dap' wx Ex Ax Bx
    rwa [jc] at this
  have HDj : Hid (∀ wx B v, Env N f c wx → wx.ownsRow B 61 3 v (jOut ps qs).length (cellsOf (jOut ps qs)) → Calls Tryd.prog 18 #[.string text, v] wx fun e w' => e = .returned (.tuple #[.string (doOut (doOut text ps) qs), .int .i64 0]) ∧ Below wx.heap.size wx w') := fun wx B v Ex ho => by have := do_row jf htx (by omega) (by omega) wx B v Ex ho; rwa [jd] at this
  have HD3 : Hid (∀ wx ao' g cap', Env N f c wx → Arg wx rs ao' g 0 → Calls Tryd.prog 18 #[.string (doOut (doOut text ps) qs), .slice ao' rs.length cap'] wx fun e w' => e = .returned (.tuple #[.string (doOut (doOut (doOut text ps) qs) rs), .int .i64 0]) ∧ Below wx.heap.size wx w') := fun wx ao' g cap' Ex Ax => do_arg F3 (by omega) wx ao' g cap' Ex Ax
  obtain ⟨dc, df, dd, dl1, dt1, _⟩ := join_pure jf (by rw [jd]; exact F3) htx (by omega) (by omega) (by omega) (by omega)
  obtain ⟨qc, qf, qd, ql1, qt1, _⟩ := join_pure F2 F3 (by omega) (by omega) (by omega) (by omega) (by omega)
  obtain ⟨xc, xf, xd, xl1, xt1, _⟩ := join_pure F1 qf htx (by omega) (by omega) (by omega) (by omega)
  rw [jd] at dd
  rw [qd] at xd
  have js := jf.sum_le htx
  have qs' := qf.sum_le (by omega)
  have HJ2 : Hid (∀ wx B v bo' h dap', Env N f c wx → wx.ownsRow B 61 3 v (jOut ps qs).length (cellsOf (jOut ps qs)) → Arg wx rs bo' h 0 → Calls Tryd.prog 20 #[v, .slice bo' rs.length dap'] wx fun e w' => ∃ r, e = .returned (.tuple #[r, .int .i64 0]) ∧ w'.ownsRow wx.heap.size 61 3 r (jOut (jOut ps qs) rs).length (cellsOf (jOut (jOut ps qs) rs)) ∧ Below wx.heap.size wx w') := fun wx B v bo' h dap' Ex ho Bx => by
    obtain ⟨ao', g, cap', rfl, Ax⟩ := Arg.own ho jf.ok (by omega) (by omega) js
    have := joinF_any (jOut ps qs) rs ao' bo' g 0 cap' h 0 dap' wx Ex Ax Bx
    rwa [dc] at this
  have HJ3 : Hid (∀ wx ao' g cap' bo' h dap', Env N f c wx → Arg wx qs ao' g 0 → Arg wx rs bo' h 0 → Calls Tryd.prog 20 #[.slice ao' qs.length cap', .slice bo' rs.length dap'] wx fun e w' => ∃ r, e = .returned (.tuple #[r, .int .i64 0]) ∧ w'.ownsRow wx.heap.size 61 3 r (jOut qs rs).length (cellsOf (jOut qs rs)) ∧ Below wx.heap.size wx w') := fun wx ao' g cap' bo' h dap' Ex Ax Bx => by
    have := joinF_any qs rs ao' bo' g 0 cap' h 0 dap' wx Ex Ax Bx
    rwa [qc] at this
  have HJ4 : Hid (∀ wx ao' g cap' B v, Env N f c wx → Arg wx ps ao' g 0 → wx.ownsRow B 61 3 v (jOut qs rs).length (cellsOf (jOut qs rs)) → Calls Tryd.prog 20 #[.slice ao' ps.length cap', v] wx fun e w' => ∃ r, e = .returned (.tuple #[r, .int .i64 0]) ∧ w'.ownsRow wx.heap.size 61 3 r (jOut ps (jOut qs rs)).length (cellsOf (jOut ps (jOut qs rs))) ∧ Below wx.heap.size wx w') := fun wx ao' g cap' B v Ex Ax ho => by
    obtain ⟨bo', h, dap', rfl, Bx⟩ := Arg.own ho qf.ok (by omega) (by omega) qs'
    have := joinF_any ps (jOut qs rs) ao' bo' g 0 cap' h 0 dap' wx Ex Ax Bx
    rwa [xc] at this
  have HDd : Hid (∀ wx B v, Env N f c wx → wx.ownsRow B 61 3 v (jOut (jOut ps qs) rs).length (cellsOf (jOut (jOut ps qs) rs)) → Calls Tryd.prog 18 #[.string text, v] wx fun e w' => e = .returned (.tuple #[.string (doOut (doOut (doOut text ps) qs) rs), .int .i64 0]) ∧ Below wx.heap.size wx w') := fun wx B v Ex ho => by have := do_row df htx (by omega) (by omega) wx B v Ex ho; rwa [dd] at this
  have HDw : Hid (∀ wx B v, Env N f c wx → wx.ownsRow B 61 3 v (jOut ps (jOut qs rs)).length (cellsOf (jOut ps (jOut qs rs))) → Calls Tryd.prog 18 #[.string text, v] wx fun e w' => e = .returned (.tuple #[.string (doOut (doOut (doOut text ps) qs) rs), .int .i64 0]) ∧ Below wx.heap.size wx w') := fun wx B v Ex ho => by have := do_row xf htx (by omega) (by omega) wx B v Ex ho; rwa [xd] at this
  have e0 := F1.ref hbig
  rw [e0] at HFi
  clear E A B C ht htx f1 k1 sl1 st1 sm1 hone eshort ecode eout F1 F2 F3 hbig wa wb wc jc jf jd jl1 jt1 htwo dc df dd dl1 dt1 qc qf qd ql1 qt1 xc xf xd xl1 xt1 js qs' e0
  generalize madeTo ps ps.length = fa at *
  generalize jOut ps (jOut qs rs) = wl at *
  generalize jOut qs rs = bl at *
  generalize jOut (jOut ps qs) rs = dl at *
  generalize jOut ps qs = jl at *
  generalize doOut (doOut (doOut text ps) qs) rs = three at *
  generalize doOut (doOut text ps) qs = two at *
  generalize shortL ps = sl at *
  generalize doOut text ps = one at *
  go_enter Tryd.func9, Tryd.ntmps9
  go_wp2_with fail
  refine (HAl.out w HE.out).mono ?_
  rintro e w1 ⟨rfl, hb1⟩
  have hw1 : Below w.heap.size w w1 := hb1
  go_wp2_with fail
  refine (ours_arg ps ao b1 o1 c1 w1 (HA.out.below hw1 HA.out.lt)).mono ?_
  rintro e w2 ⟨aoa, ga, capa, rfl, hAa, _, _, hb2⟩
  have hw2 : Below w.heap.size w w2 := hw1.trans (hb2.mono hw1.size)
  have Aa_2 : Hid (Arg w2 ps aoa ga 0) := hAa
  clear hAa
  go_wp2_with fail
  refine (HD1.out w2 aoa ga capa (HE.out.here hw2) Aa_2.out).mono ?_
  rintro e w3 ⟨rfl, hb3⟩
  have hw3 : Below w.heap.size w w3 := hw2.trans (hb3.mono hw2.size)
  go_wp2_with fail
  refine (HFi.out w3 (HA.out.below hw3 HA.out.lt)).mono ?_
  rintro e w4 ⟨rfl, hb4⟩
  have hw4 : Below w.heap.size w w4 := hw3.trans (hb4.mono hw3.size)
  go_wp2_with (first | (go_at_call 13; refine (num_any 0 w4 (by decide) (by decide)).mono ?_; rintro e wq ⟨rfl, hww⟩; obtain rfl := hww.symm; clear hww) | fail)
  refine (ours_arg ps ao b1 o1 c1 w4 (HA.out.below hw4 HA.out.lt)).mono ?_
  rintro e w5 ⟨aoa2, ga2, capa2, rfl, hAa2, _, _, hb5⟩
  have hw5 : Below w.heap.size w w5 := hw4.trans (hb5.mono hw4.size)
  have Aa2_5 : Hid (Arg w5 ps aoa2 ga2 0) := hAa2
  clear hAa2
  go_wp2_with fail
  refine (HSh.out w5 aoa2 ga2 capa2 (HE.out.here hw5) Aa2_5.out).mono ?_
  rintro e w6 ⟨vs, rfl, hos, hb6⟩
  have hw6 : Below w.heap.size w w6 := hw5.trans (hb6.mono hw5.size)
  have HOs : Hid (w6.ownsRow w5.heap.size 61 3 vs sl.length (cellsOf sl)) := hos
  clear hos
  go_wp2_with fail
  refine (HDs.out w6 _ vs (HE.out.here hw6) HOs.out).mono ?_
  rintro e w7 ⟨rfl, hb7⟩
  have hw7 : Below w.heap.size w w7 := hw6.trans (hb7.mono hw6.size)
  have rs_7 : Below w6.heap.size w6 w7 := hb7
  go_wp2_with (first | (go_at_call 13; refine (num_any 0 w7 (by decide) (by decide)).mono ?_; rintro e wq ⟨rfl, hww⟩; obtain rfl := hww.symm; clear hww) | fail)
  refine (ours_arg qs bo b2 o2 c2 w7 (HB.out.below hw7 HB.out.lt)).mono ?_
  rintro e w8 ⟨aob, gb, capb, rfl, hAb, _, _, hb8⟩
  have hw8 : Below w.heap.size w w8 := hw7.trans (hb8.mono hw7.size)
  have Ab_8 : Hid (Arg w8 qs aob gb 0) := hAb
  clear hAb
  go_wp2_with fail
  refine (HD2.out w8 aob gb capb (HE.out.here hw8) Ab_8.out).mono ?_
  rintro e w9 ⟨rfl, hb9⟩
  have hw9 : Below w.heap.size w w9 := hw8.trans (hb9.mono hw8.size)
  go_wp2_with (first | (go_at_call 13; refine (num_any 0 w9 (by decide) (by decide)).mono ?_; rintro e wq ⟨rfl, hww⟩; obtain rfl := hww.symm; clear hww) | fail)
  refine (ours_arg ps ao b1 o1 c1 w9 (HA.out.below hw9 HA.out.lt)).mono ?_
  rintro e w10 ⟨aoa3, ga3, capa3, rfl, hAa3, _, _, hb10⟩
  have hw10 : Below w.heap.size w w10 := hw9.trans (hb10.mono hw9.size)
  have Aa3_10 : Hid (Arg w10 ps aoa3 ga3 0) := hAa3
  clear hAa3
  go_wp2_with fail
  refine (ours_arg qs bo b2 o2 c2 w10 (HB.out.below hw10 HB.out.lt)).mono ?_
  rintro e w11 ⟨aob3, gb3, capb3, rfl, hAb3, _, _, hb11⟩
  have hw11 : Below w.heap.size w w11 := hw10.trans (hb11.mono hw10.size)
  have Aa3_11 : Hid (Arg w11 ps aoa3 ga3 0) := Aa3_10.out.below hb11 Aa3_10.out.lt
  have Ab3_11 : Hid (Arg w11 qs aob3 gb3 0) := hAb3
  clear hAb3
  go_wp2_with fail
  refine (HJ.out w11 aoa3 ga3 capa3 aob3 gb3 capb3 (HE.out.here hw11) Aa3_11.out Ab3_11.out).mono ?_
  rintro e w12 ⟨vj, rfl, hoj, hb12⟩
  have hw12 : Below w.heap.size w w12 := hw11.trans (hb12.mono hw11.size)
  have HOj : Hid (w12.ownsRow w11.heap.size 61 3 vj jl.length (cellsOf jl)) := hoj
  clear hoj
  go_wp2_with fail
  refine (HDj.out w12 _ vj (HE.out.here hw12) HOj.out).mono ?_
  rintro e w13 ⟨rfl, hb13⟩
  have hw13 : Below w.heap.size w w13 := hw12.trans (hb13.mono hw12.size)
  have rj_13 : Below w12.heap.size w12 w13 := hb13
  go_wp2_with (first | (go_at_call 13; refine (num_any 0 w13 (by decide) (by decide)).mono ?_; rintro e wq ⟨rfl, hww⟩; obtain rfl := hww.symm; clear hww) | fail)
  refine (ours_arg rs co b3 o3 c3 w13 (HC.out.below hw13 HC.out.lt)).mono ?_
  rintro e w14 ⟨aoc, gc, capc, rfl, hAc, _, _, hb14⟩
  have hw14 : Below w.heap.size w w14 := hw13.trans (hb14.mono hw13.size)
  have rj_14 : Below w12.heap.size w12 w14 := rj_13.trans (hb14.mono rj_13.size)
  have Ac_14 : Hid (Arg w14 rs aoc gc 0) := hAc
  clear hAc
  go_wp2_with fail
  refine (HD3.out w14 aoc gc capc (HE.out.here hw14) Ac_14.out).mono ?_
  rintro e w15 ⟨rfl, hb15⟩
  have hw15 : Below w.heap.size w w15 := hw14.trans (hb15.mono hw14.size)
  have rj_15 : Below w12.heap.size w12 w15 := rj_14.trans (hb15.mono rj_14.size)
  go_wp2_with (first | (go_at_call 13; refine (num_any 0 w15 (by decide) (by decide)).mono ?_; rintro e wq ⟨rfl, hww⟩; obtain rfl := hww.symm; clear hww) | fail)
  refine (ours_arg rs co b3 o3 c3 w15 (HC.out.below hw15 HC.out.lt)).mono ?_
  rintro e w16 ⟨aoc4, gc4, capc4, rfl, hAc4, _, _, hb16⟩
  have hw16 : Below w.heap.size w w16 := hw15.trans (hb16.mono hw15.size)
  have rj_16 : Below w12.heap.size w12 w16 := rj_15.trans (hb16.mono rj_15.size)
  have Ac4_16 : Hid (Arg w16 rs aoc4 gc4 0) := hAc4
  clear hAc4
  go_wp2_with fail
  refine (HJ2.out w16 _ vj aoc4 gc4 capc4 (HE.out.here hw16) (own_here HOj.out rj_16) Ac4_16.out).mono ?_
  rintro e w17 ⟨vd, rfl, hod, hb17⟩
  have hw17 : Below w.heap.size w w17 := hw16.trans (hb17.mono hw16.size)
  have rj_17 : Below w12.heap.size w12 w17 := rj_16.trans (hb17.mono rj_16.size)
  have HOd : Hid (w17.ownsRow w16.heap.size 61 3 vd dl.length (cellsOf dl)) := hod
  clear hod
  go_wp2_with fail
  refine (ours_arg qs bo b2 o2 c2 w17 (HB.out.below hw17 HB.out.lt)).mono ?_
  rintro e w18 ⟨aob5, gb5, capb5, rfl, hAb5, _, _, hb18⟩
  have hw18 : Below w.heap.size w w18 := hw17.trans (hb18.mono hw17.size)
  have rd_18 : Below w17.heap.size w17 w18 := hb18
  have Ab5_18 : Hid (Arg w18 qs aob5 gb5 0) := hAb5
  clear hAb5
  go_wp2_with fail
  refine (ours_arg rs co b3 o3 c3 w18 (HC.out.below hw18 HC.out.lt)).mono ?_
  rintro e w19 ⟨aoc5, gc5, capc5, rfl, hAc5, _, _, hb19⟩
  have hw19 : Below w.heap.size w w19 := hw18.trans (hb19.mono hw18.size)
  have rd_19 : Below w17.heap.size w17 w19 := rd_18.trans (hb19.mono rd_18.size)
  have Ab5_19 : Hid (Arg w19 qs aob5 gb5 0) := Ab5_18.out.below hb19 Ab5_18.out.lt
  have Ac5_19 : Hid (Arg w19 rs aoc5 gc5 0) := hAc5
  clear hAc5
  go_wp2_with fail
  refine (HJ3.out w19 aob5 gb5 capb5 aoc5 gc5 capc5 (HE.out.here hw19) Ab5_19.out Ac5_19.out).mono ?_
  rintro e w20 ⟨vq, rfl, hoq, hb20⟩
  have hw20 : Below w.heap.size w w20 := hw19.trans (hb20.mono hw19.size)
  have rd_20 : Below w17.heap.size w17 w20 := rd_19.trans (hb20.mono rd_19.size)
  have HOq : Hid (w20.ownsRow w19.heap.size 61 3 vq bl.length (cellsOf bl)) := hoq
  clear hoq
  go_wp2_with fail
  refine (ours_arg ps ao b1 o1 c1 w20 (HA.out.below hw20 HA.out.lt)).mono ?_
  rintro e w21 ⟨aoa6, ga6, capa6, rfl, hAa6, _, _, hb21⟩
  have hw21 : Below w.heap.size w w21 := hw20.trans (hb21.mono hw20.size)
  have rd_21 : Below w17.heap.size w17 w21 := rd_20.trans (hb21.mono rd_20.size)
  have rq_21 : Below w20.heap.size w20 w21 := hb21
  have Aa6_21 : Hid (Arg w21 ps aoa6 ga6 0) := hAa6
  clear hAa6
  go_wp2_with fail
  refine (HJ4.out w21 aoa6 ga6 capa6 _ vq (HE.out.here hw21) Aa6_21.out (own_here HOq.out rq_21)).mono ?_
  rintro e w22 ⟨vx, rfl, hox, hb22⟩
  have hw22 : Below w.heap.size w w22 := hw21.trans (hb22.mono hw21.size)
  have rd_22 : Below w17.heap.size w17 w22 := rd_21.trans (hb22.mono rd_21.size)
  have rq_22 : Below w20.heap.size w20 w22 := rq_21.trans (hb22.mono rq_21.size)
  have HOx : Hid (w22.ownsRow w21.heap.size 61 3 vx wl.length (cellsOf wl)) := hox
  clear hox
  go_wp2_with (first | (go_at_call 13; refine (num_any 0 w22 (by decide) (by decide)).mono ?_; rintro e wq ⟨rfl, hww⟩; obtain rfl := hww.symm; clear hww) | fail)
  refine (HDd.out w22 _ vd (HE.out.here hw22) (own_here HOd.out rd_22)).mono ?_
  rintro e w23 ⟨rfl, hb23⟩
  have hw23 : Below w.heap.size w w23 := hw22.trans (hb23.mono hw22.size)
  have rd_23 : Below w17.heap.size w17 w23 := rd_22.trans (hb23.mono rd_22.size)
  have rx_23 : Below w22.heap.size w22 w23 := hb23
  go_wp2_with fail
  refine (HDw.out w23 _ vx (HE.out.here hw23) (own_here HOx.out rx_23)).mono ?_
  rintro e w24 ⟨rfl, hb24⟩
  have hw24 : Below w.heap.size w w24 := hw23.trans (hb24.mono hw23.size)
  have rx_24 : Below w22.heap.size w22 w24 := rx_23.trans (hb24.mono rx_23.size)
  go_wp2_with (go_at_call 13; refine (num_any 0 w24 (by decide) (by decide)).mono ?_; rintro e wq ⟨rfl, hww⟩; obtain rfl := hww.symm; clear hww)
  go_ret
  exact ⟨rfl, hw24⟩
theorem both_walk {N : Nat} {f c : Addr} (text : ByteArray) (ps qs rs : List Pt) (ao bo co : Option Addr) (b1 o1 c1 b2 o2 c2 b3 o3 c3 : Nat) (w : World) (E : Env N f c w) (A : Arg w ps ao b1 o1) (B : Arg w qs bo b2 o2) (C : Arg w rs co b3 o3) (ht : text.size + (ps.length + textTo ps ps.length) + (qs.length + textTo qs qs.length) + (rs.length + textTo rs rs.length) ≤ 1048576) :
    Calls Tryd.prog 9 #[.string text, .slice ao ps.length c1, .slice bo qs.length c2, .slice co rs.length c3] w fun e w' => e = .returned (.bool true) ∧ Below w.heap.size w w' := by
  by_cases h1 : (refFit ps text.size).2 = 0
  · have F1 := Fts.of h1
    by_cases h2 : (refFit qs (doOut text ps).size).2 = 0
    · have F2 := Fts.of h2
      by_cases h3 : (refFit rs (doOut (doOut text ps) qs).size).2 = 0
      · exact both_d text ps qs rs ao bo co b1 o1 c1 b2 o2 c2 b3 o3 c3 w E A B C ht F1 F2 (Fts.of h3)
      · exact both_c text ps qs rs ao bo co b1 o1 c1 b2 o2 c2 b3 o3 c3 w E A B C ht F1 F2 h3
    · exact both_b text ps qs rs ao bo co b1 o1 c1 b2 o2 c2 b3 o3 c3 w E A B C ht F1 h2
  · exact both_a text ps qs rs ao bo co b1 o1 c1 b2 o2 c2 b3 o3 c3 w E A B C ht h1
end Go.Proofs.YtdlolnahbgecjaaDoor
