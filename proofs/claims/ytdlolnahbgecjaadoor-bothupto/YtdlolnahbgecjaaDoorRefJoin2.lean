import Derived.Test.YtdlolnahbgecjaaDoorRJ2
namespace Go.Proofs.YtdlolnahbgecjaaDoor
open Go.RowKit
set_option linter.unusedVariables false

set_option maxRecDepth 100000 in
set_option maxHeartbeats 8000000 in
theorem refJoin_ok (ps qs : List Pt) (ao bo : Option Addr) (b1 o1 c1 b2 o2 c2 : Nat) (w : World) (A : Arg w ps ao b1 o1) (B : Arg w qs bo b2 o2) (hc1 : ps.length ≤ c1) (hc2 : qs.length ≤ c2) (h : jCode ps qs = 0) :
    Calls Tryd.prog 21 #[.slice ao ps.length c1, .slice bo qs.length c2] w fun e w' => ∃ v, e = .returned (.tuple #[v, .int .i64 0]) ∧ Own w' w.heap.size v (settleP (Jn ps qs ws0)) ∧ Below w.heap.size w w' := by
  obtain ⟨hJ, g1, g2, ⟨s, hs⟩, hm⟩ := jok_start A B h
  have hb1 := made_bd (A.nn g1) _ _ hs
  have HJ0 : Hid (JOk ps qs ws0 0 0 0) := hJ
  have HI : Hid (∀ wx, Below w.heap.size w wx → RJ w wx (.slice ao ps.length c1) (.slice bo qs.length c2) (.slice none 0 0) ps qs ws0 b1 b2) := fun wx hb =>
    ⟨⟨ao, o1, c1, rfl, hc1, fun h => ⟨A.ao h, Nat.lt_of_lt_of_le (A.lt h) hb.size⟩, A.cells.below hb A.lt⟩, ⟨bo, o2, c2, rfl, hc2, fun h => ⟨B.ao h, Nat.lt_of_lt_of_le (B.lt h) hb.size⟩, B.cells.below hb B.lt⟩, World.ownsRow_nil _ _ _ _, fun _ h => by simp [Value.ownBlock] at h, fun _ h => by simp [Value.ownBlock] at h, hb⟩
  have HG1 : Hid (∀ wx, Below w.heap.size w wx → Calls Tryd.prog 27 #[.slice ao ps.length c1] wx fun e w' => e = .returned (.bool true) ∧ Below wx.heap.size wx w') := fun wx hb => by
    have A' := A.below hb A.lt
    have := good_any ps ao b1 o1 c1 wx A'.ao A'.lt A'.cells A'.len
    rw [g1] at this; exact this
  have HG2 : Hid (∀ wx, Below w.heap.size w wx → Calls Tryd.prog 27 #[.slice bo qs.length c2] wx fun e w' => e = .returned (.bool true) ∧ Below wx.heap.size wx w') := fun wx hb => by
    have A' := B.below hb B.lt
    have := good_any qs bo b2 o2 c2 wx A'.ao A'.lt A'.cells A'.len
    rw [g2] at this; exact this
  have hF1 : From ps = s := by simp [From, hs]
  have HF1 : Hid (∀ wx, Below w.heap.size w wx → Calls Tryd.prog 28 #[.slice ao ps.length c1] wx fun e w' => e = .returned (.int .i64 s) ∧ w' = wx) := fun wx hb => by
    have A' := A.below hb A.lt
    have := from_any ps ao b1 o1 c1 wx A'.ao A'.cells A'.len (A.nn g1)
    rw [hF1] at this; exact this
  have HF2 : Hid (∀ wx, Below w.heap.size w wx → Calls Tryd.prog 28 #[.slice bo qs.length c2] wx fun e w' => e = .returned (.int .i64 (madeTo ps ps.length)) ∧ w' = wx) := fun wx hb => by
    have A' := B.below hb B.lt
    have := from_any qs bo b2 o2 c2 wx A'.ao A'.cells A'.len (B.nn g2)
    rw [hm] at this; exact this
  have hRF : refFit ps s = (madeTo ps ps.length, 0) := by unfold refFit; rw [if_neg (by simp [g1]), hF1, if_neg (by omega)]
  have HT : Hid (∀ wx, Below w.heap.size w wx → Calls Tryd.prog 12 #[.slice ao ps.length c1, .int .i64 s] wx fun e w' => e = .returned (.tuple #[.int .i64 (madeTo ps ps.length), .int .i64 0]) ∧ Below wx.heap.size wx w') := fun wx hb => by
    have := refFit_any ps ao b1 o1 c1 s wx (A.below hb A.lt)
    rw [hRF] at this; exact this
  have hs0 : (s < 0) = False := by simp; omega
  have hd0 : decide (s < 0) = false := by simp; omega
  have hm0 : (madeTo ps ps.length < 0) = False := by simp; omega
  have hd1 : decide (madeTo ps ps.length < 0) = false := by simp; omega
  generalize madeTo ps ps.length = mm at *
  clear A B h hJ g1 g2 hs hm hb1 hc1 hc2 hF1 hRF
  generalize hjn : Jn ps qs ws0 = jn
  have HJn : Hid (Jn ps qs ws0 = jn) := hjn
  clear hjn
  go_enter Tryd.func21, Tryd.ntmps21
  go_wp2_with (go_at_call 27; refine (HG1.out w (Below.refl _ _)).mono ?_; rintro e w1 ⟨rfl, hb1⟩; refine stopHere ?_)
  unfold Hid
  go_wp2_with (go_at_call 27; refine (HG2.out w1 hb1).mono ?_; rintro e w2 ⟨rfl, hb2⟩; refine stopHere ?_)
  unfold Hid
  have hbw2 : Below w.heap.size w w2 := hb1.trans (hb2.mono hb1.size)
  go_wp2_with (go_at_call 28; refine (HF1.out w2 hbw2).mono ?_; rintro e w3 ⟨rfl, hww⟩; obtain rfl := hww.symm; refine stopHere ?_)
  unfold Hid
  go_wp2_with (go_at_call 12; refine (HT.out w2 hbw2).mono ?_; rintro e w3 ⟨rfl, hb3⟩; refine stopHere ?_)
  unfold Hid
  have hbw3 : Below w.heap.size w w3 := hbw2.trans (hb3.mono hbw2.size)
  go_wp2_with (go_at_call 28; refine (HF2.out w3 hbw3).mono ?_; rintro e w4 ⟨rfl, hww⟩; obtain rfl := hww.symm; refine stopHere ?_)
  unfold Hid
  have HI3 : Hid (RJ w w3 (.slice ao ps.length c1) (.slice bo qs.length c2) (.slice none 0 0) ps qs ws0 b1 b2) := HI.out w3 hbw3
  clear HI HG1 HG2 HF1 HF2 HT hb1 hb2 hb3 hbw2 hbw3
  --LOOP
  go_wp2
  go_loopg [0, 1, 10] (wt ps + wt qs) (fun k va vb vo wr => ∃ a b s S L A ga gb, wt a + wt b = k ∧ RJ w wr va vb vo a b s ga gb ∧ JOk a b s S L A ∧ Jn a b s = jn)
  case atStart => exact ⟨ps, qs, ws0, 0, 0, 0, b1, b2, rfl, HI3.out, HJ0.out, HJn.out⟩
  case round =>
    obtain ⟨a, b, s', S, L, A, ga, gb, hk, hst, hj, hn⟩ := hrel
    have HK : Hid (wt a + wt b = gk) := hk
    have HST : Hid (RJ w wr u0 u1 u10 a b s' ga gb) := hst
    have HJ : Hid (JOk a b s' S L A) := hj
    have HNn : Hid (Jn a b s' = jn) := hn
    clear hk hst hj hn HI3 HJ0 HJn
    by_cases hB : ∃ y b', b = y :: b' ∧ y.k = 2
    · cases a with
      | nil =>
        obtain ⟨⟨yk, yn, yt⟩, b', rfl, hy⟩ := hB
        obtain rfl : yk = 2 := hy
        obtain ⟨aq, ac, rfl⟩ := HST.out.sa.form0
        obtain ⟨off, cap, rfl, hcap, hg, hat⟩ := HST.out.sb.form
        obtain ⟨c0, c1, c2⟩ := hat.head
        have hlB : (0 : Int) < (b'.length : Int) + 1 := by omega
        have HX : Hid (JOk [] b' (layP s' ⟨2, yn, yt⟩) S (L + 3) (A + yt.size) ∧ Jn [] b' (layP s' ⟨2, yn, yt⟩) = jn) := ⟨HJ.out.add rfl, by rw [← HNn.out, Jn_add HJ.out.oka HJ.out.okb rfl]⟩
        have HCAP : Hid (b'.length + 1 ≤ cap) := hcap
        clear hat hcap
        go_wp2_with fail
        refine (rj_pushB HST.out HJ.out rfl).mono ?_
        rintro e w4 ⟨v4, rfl, st4⟩
        have HST4 : Hid (RJ w w4 _ _ v4 [] (⟨2, yn, yt⟩ :: b') (layP s' ⟨2, yn, yt⟩) ga gb) := st4
        clear st4 c0 c1 c2
        by_cases hc1 : cap = 1
        · subst hc1
          have hb' : b' = [] := List.eq_nil_of_length_eq_zero (by have := HCAP.out; omega)
          subst hb'
          go_wp2
          go_roundg (wt [] + wt [])
          case measure => have h1 := HK.out; have h2 := wt_cons ⟨2, yn, yt⟩ []; omega
          case rel => exact ⟨[], [], _, _, _, _, ga, gb, rfl, HST4.out.tailB1 _ _, HX.out.1, HX.out.2⟩
        · go_wp2
          go_roundg (wt [] + wt b')
          case measure => have h1 := HK.out; have h2 := wt_cons ⟨2, yn, yt⟩ b'; omega
          case rel => exact ⟨[], b', _, _, _, _, ga, gb, rfl, HST4.out.tailB hc1, HX.out.1, HX.out.2⟩
      | cons x a' =>
        obtain ⟨⟨yk, yn, yt⟩, b', rfl, hy⟩ := hB
        obtain rfl : yk = 2 := hy
        obtain ⟨aoff, ac, rfl, _, _, _⟩ := HST.out.sa.form
        have hlA : (0 : Int) < (a'.length : Int) + 1 := by omega
        obtain ⟨off, cap, rfl, hcap, hg, hat⟩ := HST.out.sb.form
        obtain ⟨c0, c1, c2⟩ := hat.head
        have hlB : (0 : Int) < (b'.length : Int) + 1 := by omega
        have HX : Hid (JOk (x :: a') b' (layP s' ⟨2, yn, yt⟩) S (L + 3) (A + yt.size) ∧ Jn (x :: a') b' (layP s' ⟨2, yn, yt⟩) = jn) := ⟨HJ.out.add rfl, by rw [← HNn.out, Jn_add HJ.out.oka HJ.out.okb rfl]⟩
        have HCAP : Hid (b'.length + 1 ≤ cap) := hcap
        clear hat hcap
        go_wp2_with fail
        refine (rj_pushB HST.out HJ.out rfl).mono ?_
        rintro e w4 ⟨v4, rfl, st4⟩
        have HST4 : Hid (RJ w w4 _ _ v4 (x :: a') (⟨2, yn, yt⟩ :: b') (layP s' ⟨2, yn, yt⟩) ga gb) := st4
        clear st4 c0 c1 c2
        by_cases hc1 : cap = 1
        · subst hc1
          have hb' : b' = [] := List.eq_nil_of_length_eq_zero (by have := HCAP.out; omega)
          subst hb'
          go_wp2
          go_roundg (wt (x :: a') + wt [])
          case measure => have h1 := HK.out; have h2 := wt_cons ⟨2, yn, yt⟩ []; omega
          case rel => exact ⟨(x :: a'), [], _, _, _, _, ga, gb, rfl, HST4.out.tailB1 _ _, HX.out.1, HX.out.2⟩
        · go_wp2
          go_roundg (wt (x :: a') + wt b')
          case measure => have h1 := HK.out; have h2 := wt_cons ⟨2, yn, yt⟩ b'; omega
          case rel => exact ⟨(x :: a'), b', _, _, _, _, ga, gb, rfl, HST4.out.tailB hc1, HX.out.1, HX.out.2⟩
    · by_cases hD : ∃ x a', a = x :: a' ∧ x.k = 3
      · obtain ⟨⟨xk, xn, xt⟩, a', rfl, hx⟩ := hD
        obtain rfl : xk = 3 := hx
        cases b with
        | nil =>
          obtain ⟨off, cap, rfl, hcap, hg, hat⟩ := HST.out.sa.form
          obtain ⟨c0, c1, c2⟩ := hat.head
          have hlA : (0 : Int) < (a'.length : Int) + 1 := by omega
          obtain ⟨bq, bc, rfl⟩ := HST.out.sb.form0
          have HX : Hid (JOk a' [] (layP s' ⟨3, xn, xt⟩) (S + xn) (L + 3) A ∧ Jn a' [] (layP s' ⟨3, xn, xt⟩) = jn) := ⟨HJ.out.drop rfl, by rw [← HNn.out, Jn_drop HJ.out.oka HJ.out.okb rfl]⟩
          have HCAP : Hid (a'.length + 1 ≤ cap) := hcap
          clear hat hcap hB
          go_wp2_with fail
          refine (rj_pushA HST.out HJ.out rfl).mono ?_
          rintro e w4 ⟨v4, rfl, st4⟩
          have HST4 : Hid (RJ w w4 _ _ v4 (⟨3, xn, xt⟩ :: a') [] (layP s' ⟨3, xn, xt⟩) ga gb) := st4
          clear st4 c0 c1 c2
          by_cases hc1 : cap = 1
          · subst hc1
            have ha' : a' = [] := List.eq_nil_of_length_eq_zero (by have := HCAP.out; omega)
            subst ha'
            go_wp2
            go_roundg (wt [] + wt [])
            case measure => have h1 := HK.out; have h2 := wt_cons ⟨3, xn, xt⟩ []; omega
            case rel => exact ⟨[], [], _, _, _, _, ga, gb, rfl, HST4.out.tailA1 _ _, HX.out.1, HX.out.2⟩
          · go_wp2
            go_roundg (wt a' + wt [])
            case measure => have h1 := HK.out; have h2 := wt_cons ⟨3, xn, xt⟩ a'; omega
            case rel => exact ⟨a', [], _, _, _, _, ga, gb, rfl, HST4.out.tailA hc1, HX.out.1, HX.out.2⟩
        | cons y b' =>
          obtain ⟨off, cap, rfl, hcap, hg, hat⟩ := HST.out.sa.form
          obtain ⟨c0, c1, c2⟩ := hat.head
          have hlA : (0 : Int) < (a'.length : Int) + 1 := by omega
          obtain ⟨boff, bc, rfl, _, hgb, hatb⟩ := HST.out.sb.form
          obtain ⟨d0, d1, d2⟩ := hatb.head
          have hlB : (0 : Int) < (b'.length : Int) + 1 := by omega
          have hy2 : (y.k == 2) = false := by simp; intro h; exact hB ⟨y, b', rfl, h⟩
          clear hatb
          have HX : Hid (JOk a' (y :: b') (layP s' ⟨3, xn, xt⟩) (S + xn) (L + 3) A ∧ Jn a' (y :: b') (layP s' ⟨3, xn, xt⟩) = jn) := ⟨HJ.out.drop rfl, by rw [← HNn.out, Jn_drop HJ.out.oka HJ.out.okb rfl]⟩
          have HCAP : Hid (a'.length + 1 ≤ cap) := hcap
          clear hat hcap hB
          go_wp2_with fail
          refine (rj_pushA HST.out HJ.out rfl).mono ?_
          rintro e w4 ⟨v4, rfl, st4⟩
          have HST4 : Hid (RJ w w4 _ _ v4 (⟨3, xn, xt⟩ :: a') (y :: b') (layP s' ⟨3, xn, xt⟩) ga gb) := st4
          clear st4 c0 c1 c2 d0 d1 d2
          by_cases hc1 : cap = 1
          · subst hc1
            have ha' : a' = [] := List.eq_nil_of_length_eq_zero (by have := HCAP.out; omega)
            subst ha'
            go_wp2
            go_roundg (wt [] + wt (y :: b'))
            case measure => have h1 := HK.out; have h2 := wt_cons ⟨3, xn, xt⟩ []; omega
            case rel => exact ⟨[], (y :: b'), _, _, _, _, ga, gb, rfl, HST4.out.tailA1 _ _, HX.out.1, HX.out.2⟩
          · go_wp2
            go_roundg (wt a' + wt (y :: b'))
            case measure => have h1 := HK.out; have h2 := wt_cons ⟨3, xn, xt⟩ a'; omega
            case rel => exact ⟨a', (y :: b'), _, _, _, _, ga, gb, rfl, HST4.out.tailA hc1, HX.out.1, HX.out.2⟩
      · cases a with
        | nil =>
          cases b with
          | nil =>
            obtain ⟨aq, ac, rfl⟩ := HST.out.sa.form0
            obtain ⟨bq, bc, rfl⟩ := HST.out.sb.form0
            have HE : Hid (Own wr w.heap.size u10 (settleP jn) ∧ Below w.heap.size w wr) := by
              have h := HNn.out
              rw [Jn_nil] at h
              rw [← h]
              exact ⟨HST.out.o, HST.out.bl⟩
            clear hB hD HST
            go_wp2
            go_ret2
            exact ⟨u10, rfl, HE.out⟩
          | cons y b' => exact absurd ⟨y, b', rfl, HJ.out.left⟩ hB
        | cons x a' =>
          cases b with
          | nil => exact absurd ⟨x, a', rfl, HJ.out.right⟩ hD
          | cons y b' =>
            have hx : x.k ≠ 3 := fun h => hD ⟨x, a', rfl, h⟩
            have hy : y.k ≠ 2 := fun h => hB ⟨y, b', rfl, h⟩
            clear hD hB
            by_cases hx1 : x.k = 1
            · have ox := (allOk_cons HJ.out.oka).1
              have oy := (allOk_cons HJ.out.okb).1
              obtain ⟨m, hm⟩ : ∃ m, min (pl x) (pl y) = m := ⟨_, rfl⟩
              obtain ⟨ex, ext⟩ := pl_n ox (by omega)
              obtain ⟨ey, eyt⟩ := pl_n oy hy
              obtain ⟨n1, n2, n3, n4, _⟩ := HJ.out.nbd hy
              have hj2 := HJ.out.both hx hy
              have hn2 := Jn_both (s := s') HJ.out.oka HJ.out.okb hx hy
              obtain ⟨hl1, hl2, hck, hcy, hm1⟩ := HJ.out.layBoth hx hy hm
              rw [hm] at hj2 hn2
              rw [HNn.out, stepJ_keep ox oy hx1 hy hm1 (by omega) (by omega)] at hn2
              rw [stepJ_keep ox oy hx1 hy hm1 (by omega) (by omega)] at hj2
              have HX : Hid ((∃ S' A', JOk (restP x m ++ a') (restP y m ++ b') (layP s' (cut y 0 m)) S' (L + 3) A') ∧ Jn (restP x m ++ a') (restP y m ++ b') (layP s' (cut y 0 m)) = jn) := ⟨hj2, hn2.symm⟩
              have HM : Hid (wt (restP x m ++ a') + wt (restP y m ++ b') < gk) := by
                show _ < _
                have h1 := HK.out
                have h2 := rest_wt ox (k := m) hm1
                have h3 := rest_wt oy (k := m) hm1
                simp only [wt] at h1
                rw [wt_append, wt_append]
                omega
              have HHa : Hid (∀ wx va vb, RJ w wx va vb u10 (x :: a') (y :: b') s' ga gb → Calls Tryd.prog 34 #[va, .int .i64 m] wx fun e w' => ∃ v' g', e = .returned (.tuple #[.agg #[.int .i64 (cut x 0 m).k, .int .i64 (cut x 0 m).n, .string (cut x 0 m).t], v']) ∧ RJ w w' v' vb u10 (restP x m ++ a') (y :: b') s' g' gb) := fun wx va vb h => rj_headA h m n3 ox (by omega) (by omega) n1
              have HHb : Hid (∀ wx va vb g, RJ w wx va vb u10 (restP x m ++ a') (y :: b') s' g gb → Calls Tryd.prog 34 #[vb, .int .i64 m] wx fun e w' => ∃ v' g', e = .returned (.tuple #[.agg #[.int .i64 (cut y 0 m).k, .int .i64 (cut y 0 m).n, .string (cut y 0 m).t], v']) ∧ RJ w w' va v' u10 (restP x m ++ a') (restP y m ++ b') s' g g') := fun wx va vb g h => rj_headB h m n4 oy hy (by omega) n2
              have HP : Hid (∀ wx va vb g g', RJ w wx va vb u10 (restP x m ++ a') (restP y m ++ b') s' g g' → Calls Tryd.prog 33 #[u10, .agg #[.int .i64 (cut y 0 m).k, .int .i64 (cut y 0 m).n, .string (cut y 0 m).t]] wx fun e w' => ∃ v', e = .returned v' ∧ RJ w w' va vb v' (restP x m ++ a') (restP y m ++ b') (layP s' (cut y 0 m)) g g') := fun wx va vb g g' h => by
                obtain ⟨k1, k2, k3⟩ := hl2 hx1
                exact rj_push h HJ.out.s _ k1 k2 HJ.out.small.2.1 k3
              obtain ⟨off, cap, rfl, hcap, hg, hat⟩ := HST.out.sa.form
              obtain ⟨boff, bcap, rfl, hcapb, hgb, hatb⟩ := HST.out.sb.form
              obtain ⟨c0, c1, c2⟩ := hat.head
              obtain ⟨d0, d1, d2⟩ := hatb.head
              have hlA : (0 : Int) < (a'.length : Int) + 1 := by omega
              have hlB : (0 : Int) < (b'.length : Int) + 1 := by omega
              have hy2 : (y.k == 2) = false := by simpa using hy
              clear hj2 hn2 hl1 hl2 hck hcy ox oy ext eyt n1 n2 n3 n4 hx hy hcap hcapb hat hatb
              generalize cut x 0 m = cx at *
              generalize cut y 0 m = cy at *
              generalize restP x m ++ a' = xa at *
              generalize restP y m ++ b' = yb at *
              generalize layP s' cy = s2 at *
              obtain ⟨xk, xn, xt⟩ := x
              obtain ⟨yk, yn, yt⟩ := y
              simp only at hx1 ex ey c0 c1 c2 d0 d1 d2 hy2 hm
              subst hx1
              by_cases hlt : yn < xn
              · obtain rfl : yn = (m : Int) := by omega
                clear ex ey hm hm1
                go_wp2_with fail
                refine (HHa.out wr _ _ HST.out).mono ?_
                rintro e w1 ⟨v1, g1, rfl, st1⟩
                have HST1 : Hid (RJ w (w1.alloc (.cells #[.int .i64 cx.k, .int .i64 cx.n, .string cx.t] 60)) v1 _ u10 xa (⟨yk, m, yt⟩ :: b') s' g1 gb) := st1.here ((Below.refl _ _).alloc (Nat.le_refl _) _)
                clear st1 c0 c1 c2 d0 d1 d2
                go_wp2_with fail
                refine (HHb.out _ _ _ _ HST1.out).mono ?_
                rintro e w2 ⟨v2, g2, rfl, st2⟩
                have HST2 : Hid (RJ w (w2.alloc (.cells #[.int .i64 cy.k, .int .i64 cy.n, .string cy.t] 60)) v1 v2 u10 xa yb s' g1 g2) := st2.here ((Below.refl _ _).alloc (Nat.le_refl _) _)
                clear st2
                go_wp2_with fail
                refine (HP.out _ _ _ _ _ HST2.out).mono ?_
                rintro e w3 ⟨v3, rfl, st3⟩
                have HST3 : Hid (RJ w w3 v1 v2 v3 xa yb s2 g1 g2) := st3
                clear st3
                go_wp2
                go_roundg (wt xa + wt yb)
                case measure => exact HM.out
                case rel => obtain ⟨⟨S', A', hjj⟩, hnn⟩ := HX.out; exact ⟨xa, yb, s2, S', _, A', g1, g2, rfl, HST3.out, hjj, hnn⟩
              · obtain rfl : xn = (m : Int) := by omega
                clear ex ey hm hm1
                go_wp2_with fail
                refine (HHa.out wr _ _ HST.out).mono ?_
                rintro e w1 ⟨v1, g1, rfl, st1⟩
                have HST1 : Hid (RJ w (w1.alloc (.cells #[.int .i64 cx.k, .int .i64 cx.n, .string cx.t] 60)) v1 _ u10 xa (⟨yk, yn, yt⟩ :: b') s' g1 gb) := st1.here ((Below.refl _ _).alloc (Nat.le_refl _) _)
                clear st1 c0 c1 c2 d0 d1 d2
                go_wp2_with fail
                refine (HHb.out _ _ _ _ HST1.out).mono ?_
                rintro e w2 ⟨v2, g2, rfl, st2⟩
                have HST2 : Hid (RJ w (w2.alloc (.cells #[.int .i64 cy.k, .int .i64 cy.n, .string cy.t] 60)) v1 v2 u10 xa yb s' g1 g2) := st2.here ((Below.refl _ _).alloc (Nat.le_refl _) _)
                clear st2
                go_wp2_with fail
                refine (HP.out _ _ _ _ _ HST2.out).mono ?_
                rintro e w3 ⟨v3, rfl, st3⟩
                have HST3 : Hid (RJ w w3 v1 v2 v3 xa yb s2 g1 g2) := st3
                clear st3
                go_wp2
                go_roundg (wt xa + wt yb)
                case measure => exact HM.out
                case rel => obtain ⟨⟨S', A', hjj⟩, hnn⟩ := HX.out; exact ⟨xa, yb, s2, S', _, A', g1, g2, rfl, HST3.out, hjj, hnn⟩
            · obtain ⟨i0, hi0, hz0, hz1, hz2⟩ := info_parts Tryd.info60
              have ox := (allOk_cons HJ.out.oka).1
              have oy := (allOk_cons HJ.out.okb).1
              have hx2 : x.k = 2 := by rcases ox with ⟨h | h, _⟩ | ⟨h, _⟩ <;> omega
              obtain ⟨m, hm⟩ : ∃ m, min (pl x) (pl y) = m := ⟨_, rfl⟩
              obtain ⟨ex, exn⟩ := pl_t ox hx2
              obtain ⟨ey, eyt⟩ := pl_n oy hy
              obtain ⟨n1, n2, n3, n4, n5⟩ := HJ.out.nbd hy
              have hj2 := HJ.out.both hx hy
              have hn2 := Jn_both (s := s') HJ.out.oka HJ.out.okb hx hy
              obtain ⟨hl1, hl2, hck, hcy, hm1⟩ := HJ.out.layBoth hx hy hm
              rw [hm] at hj2 hn2
              rw [HNn.out] at hn2
              have HX : Hid ((∃ S' A', JOk (restP x m ++ a') (restP y m ++ b') (stepJ s' (cut x 0 m) (cut y 0 m)) S' (L + 3) A') ∧ Jn (restP x m ++ a') (restP y m ++ b') (stepJ s' (cut x 0 m) (cut y 0 m)) = jn) := ⟨hj2, hn2.symm⟩
              have HM : Hid (wt (restP x m ++ a') + wt (restP y m ++ b') < gk) := by
                show _ < _
                have h1 := HK.out
                have h2 := rest_wt ox (k := m) hm1
                have h3 := rest_wt oy (k := m) hm1
                simp only [wt] at h1
                rw [wt_append, wt_append]
                omega
              have HHb : Hid (∀ wx va vb, RJ w wx va vb u10 (x :: a') (y :: b') s' ga gb → Calls Tryd.prog 34 #[vb, .int .i64 m] wx fun e w' => ∃ v' g', e = .returned (.tuple #[.agg #[.int .i64 y.k, .int .i64 (cut y 0 m).n, .string (cut y 0 m).t], v']) ∧ RJ w w' va v' u10 (x :: a') (restP y m ++ b') s' ga g') := fun wx va vb h => by
                have := rj_headB h m n4 oy hy (by omega) n2
                rw [hcy] at this; exact this
              have ecx : cut x 0 m = ⟨2, 0, x.t.extract 0 m⟩ := by unfold cut; rw [if_pos hx2, hx2, exn, Nat.zero_add]
              have HP : Hid (∀ wx va vb g', RJ w wx va vb u10 (x :: a') (restP y m ++ b') s' ga g' → Calls Tryd.prog 33 #[u10, .agg #[.int .i64 2, .int .i64 0, .string (x.t.extract 0 m)]] wx fun e w' => ∃ v', e = .returned v' ∧ RJ w w' va vb v' (x :: a') (restP y m ++ b') (layP s' (cut x 0 m)) ga g') := fun wx va vb g' h => by
                have := rj_push h HJ.out.s _ hl1.1 hl1.2.1 HJ.out.small.2.1 hl1.2.2
                rw [ecx] at this ⊢; exact this
              have HS1 : Hid ((cut y 0 m).k = 1 → stepJ s' (cut x 0 m) (cut y 0 m) = layP s' (cut x 0 m)) := fun h => stepJ_add1 h
              have HS3 : Hid ((cut y 0 m).k ≠ 1 → stepJ s' (cut x 0 m) (cut y 0 m) = s') := fun h => stepJ_add3 h (by omega)
              rw [hcy] at HS1 HS3
              have hR0 : pl x ≤ pl y → restP x m = [] := fun h => rest_all (by omega)
              have hR1 : pl y < pl x → restP x m = [⟨2, 0, x.t.extract m x.t.size⟩] := fun h => by
                rw [rest_part (by omega)]; unfold cut; rw [if_pos hx2, hx2, exn, ex, show m + (x.t.size - m) = x.t.size by omega]
              obtain ⟨off, cap, rfl, hcap, hg, hat⟩ := HST.out.sa.form
              obtain ⟨boff, bcap, rfl, hcapb, hgb, hatb⟩ := HST.out.sb.form
              obtain ⟨c0, c1, c2⟩ := hat.head
              obtain ⟨d0, d1, d2⟩ := hatb.head
              have hlA : (0 : Int) < (a'.length : Int) + 1 := by omega
              have hlB : (0 : Int) < (b'.length : Int) + 1 := by omega
              have hy13 : y.k = 1 ∨ y.k = 3 := by rcases oy with ⟨h | h, _⟩ | ⟨h, _⟩ <;> omega
              clear hj2 hn2 hl1 hl2 hck hcy ox oy eyt n1 n2 n4 hx hy hcap hcapb hat hatb ecx hx1
              generalize hcx : cut x 0 m = cx at *
              generalize hcy : cut y 0 m = cy at *
              generalize stepJ s' cx cy = s2 at *
              generalize restP y m ++ b' = yb at *
              generalize hxa : restP x m ++ a' = xa at *
              clear hcx hcy
              have HXA : Hid (restP x m ++ a' = xa) := hxa
              clear hxa
              obtain ⟨xk, xn, xt⟩ := x
              obtain ⟨yk, yn, yt⟩ := y
              simp only at ex exn ey c0 c1 c2 d0 d1 d2 hm hx2 hy13 n3 n5 HHb HP HS1 HS3 hR0 hR1
              subst hx2 exn
              by_cases hlt : yn < xt.size
              · obtain rfl : yn = (m : Int) := by omega
                have HRX : Hid (⟨2, 0, xt.extract m xt.size⟩ :: a' = xa) := by
                  have h := HXA.out; rw [hR1 (by omega)] at h; exact h
                have hm0 : (0 : Int) ≤ m := by omega
                have hmle : (m : Int) ≤ xt.size := by omega
                have hmn : m ≤ xt.size := by omega
                clear hR0 hR1 HXA ey hm
                rcases hy13 with rfl | rfl
                · go_wp2_with fail
                  refine (HHb.out wr _ _ HST.out).mono ?_
                  rintro e w1 ⟨v1, g1, rfl, st1⟩
                  have HST1 : Hid (RJ w (w1.alloc (.cells #[.int .i64 1, .int .i64 cy.n, .string cy.t] 60)) _ v1 u10 (⟨2, 0, xt⟩ :: a') yb s' ga g1) := st1.here ((Below.refl _ _).alloc (Nat.le_refl _) _)
                  have hcw : w1.cell? ⟨ga, off + 2, none⟩ = some (.string xt) := st1.sa.cells.1.head.2.2
                  have hgw : ga < w1.heap.size := st1.sa.cells.2
                  have hgn : ga ≠ w1.heap.size := by omega
                  have HSE : Hid (s2 = layP s' cx) := HS1.out (by first | trivial | rfl)
                  clear st1 c0 c1 c2 d0 d1 d2 HS1 HS3 HHb HST HJ HNn HK
                  go_wp2_with fail
                  refine (HP.out _ _ _ _ HST1.out).mono ?_
                  rintro e w2 ⟨v2, rfl, st2⟩
                  have HST2 : Hid (RJ w w2 _ v1 v2 (⟨2, 0, xt⟩ :: a') yb (layP s' cx) ga g1) := st2
                  have hcw2 : w2.cell? ⟨ga, off + 2, none⟩ = some (.string xt) := st2.sa.cells.1.head.2.2
                  have HAT : Hid (At w2 ga off (⟨2, 0, xt⟩ :: a')) := st2.sa.cells.1
                  have hgw2 : ga < w2.heap.size := st2.sa.cells.2
                  clear st2 hcw hgw hgn HP HST1
                  go_wp2_with (at_builtin; refine stopHere ?_)
                  unfold Hid
                  have HZ : Hid (Own (w2.alloc (.cells #[] 60)) w2.heap.size (.slice (some ⟨w2.heap.size, 0, none⟩) 0 0) []) := own_zero w2
                  refine wpList_append_lies _ rfl _ _ _ rfl w2.heap.size 60 i0 _ 3 32 Tryd.underlying22 hi0 hz0 hz1 hz2 rfl (by omega) (.slice (some ⟨w2.heap.size, 0, none⟩) 0 0) 0 [] rfl (HZ.out.alloc _) ⟨w2.heap.size + 1, 0, none⟩ 1 1 [.int .i64 2, .int .i64 0, .string (xt.extract m xt.size)] rfl rfl (World.news_of_block (cs := #[.int .i64 2, .int .i64 0, .string (xt.extract m xt.size)]) (t := 60) (fr := (0, 0)) (by have h := heap_alloc_new (w2.alloc (.cells #[] 60)) (.cells #[.int .i64 2, .int .i64 0, .string (xt.extract m xt.size)] 60); rw [show (w2.alloc (.cells #[] 60)).heap.size = w2.heap.size + 1 by simp] at h; exact h)) (by simp [Value.oneCell']) (by omega) (by unfold maxLen; omega) (by omega) (by simp; omega) (w2.heap.size + 2) (by simp) ?_
                  intro gg cap2 w5 hown5 hgrow5 hat5 hlt5
                  have HB5 : Hid (Below w2.heap.size w2 w5) := (((Below.refl _ _).alloc (Nat.le_refl _) _).alloc (by simp) _).grown hgrow5 (by simp; omega) (ownsRow_block HZ.out)
                  have HO5 : Hid (Own w5 w2.heap.size (.slice (some ⟨gg, 0, none⟩) 1 cap2) [⟨2, 0, xt.extract m xt.size⟩]) := hown5
                  clear hown5 hgrow5 hat5 hcw2
                  go_wp2
                  go_loopw [19, 20] (fun v i wq => ∃ j : Nat, j ≤ a'.length ∧ i = .int .i64 ((j : Int) + 1) ∧ Own wq w2.heap.size v ([⟨2, 0, xt.extract m xt.size⟩] ++ a'.take j) ∧ Below w2.heap.size w2 wq) (fun _ i _ => a'.length + 1 - (intOf i).toNat)
                  case atStart => exact ⟨0, Nat.zero_le _, rfl, by rw [List.take_zero, List.append_nil]; exact HO5.out, HB5.out⟩
                  case round =>
                    obtain ⟨j, hj, rfl, hown, hbl⟩ := hrel
                    have hsz := hbl.size
                    by_cases hjl : j < a'.length
                    · obtain ⟨e0, e1, e2⟩ := HAT.out (j + 1) (by simp; omega)
                      rw [show nth (⟨2, 0, xt⟩ :: a') (j + 1) = nth a' j by simp [nth]] at e0 e1 e2
                      have f0 := (hbl.cell (p := ⟨ga, off + (j + 1) * 3, none⟩) hgw2).trans e0
                      have f1 := (hbl.cell (p := ⟨ga, off + (j + 1) * 3 + 1, none⟩) hgw2).trans e1
                      have f2 := (hbl.cell (p := ⟨ga, off + (j + 1) * 3 + 2, none⟩) hgw2).trans e2
                      have hj0 : (0 : Int) ≤ (j : Int) + 1 := by omega
                      have hj1 : (j : Int) + 1 < (a'.length : Int) + 1 := by omega
                      have HOj : Hid (wr.ownsRow w2.heap.size 60 3 u19 (j + 1) (cellsOf ([⟨2, 0, xt.extract m xt.size⟩] ++ a'.take j))) := by
                        have h : wr.ownsRow w2.heap.size 60 3 u19 (List.length ([⟨2, 0, xt.extract m xt.size⟩] ++ a'.take j)) _ := hown
                        rw [show List.length ([⟨2, 0, xt.extract m xt.size⟩] ++ a'.take j) = j + 1 by simp; omega] at h; exact h
                      obtain ⟨ao7, cap7, hu7⟩ := own_slice60 HOj.out
                      subst hu7
                      have HBl : Hid (Below w2.heap.size w2 wr) := hbl
                      have hgr : ga ≠ wr.heap.size := by omega
                      clear e0 e1 e2 hown hbl
                      go_wp2_with (at_builtin; refine stopHere ?_)
                      unfold Hid
                      refine wpList_append_lies _ rfl _ _ _ rfl w2.heap.size 60 i0 _ 3 32 Tryd.underlying22 hi0 hz0 hz1 hz2 rfl (by omega) (.slice ao7 (j + 1) cap7) (j + 1) (cellsOf ([⟨2, 0, xt.extract m xt.size⟩] ++ a'.take j)) rfl (HOj.out.alloc _) ⟨wr.heap.size, 0, none⟩ 1 1 [.int .i64 (nth a' j).k, .int .i64 (nth a' j).n, .string (nth a' j).t] rfl rfl (World.news_of_block (cs := #[.int .i64 (nth a' j).k, .int .i64 (nth a' j).n, .string (nth a' j).t]) (t := 60) (fr := (0, 0)) (heap_alloc_new wr _)) (by simp [Value.oneCell']) (by omega) (by unfold maxLen; omega) (by omega) (by simp; omega) (wr.heap.size + 1) (by simp) ?_
                      intro gg cap2 wz hown2 hgrow hatz hltz
                      have HB2 : Hid (Below w2.heap.size w2 wz) := (HBl.out.alloc (by omega) _).grown hgrow (by simp; omega) (ownsRow_block HOj.out)
                      have HO2 : Hid (Own wz w2.heap.size (.slice (some ⟨gg, 0, none⟩) ((j + 1) + 1) cap2) ([⟨2, 0, xt.extract m xt.size⟩] ++ a'.take (j + 1))) := by
                        rw [take_nth a' j hjl, ← List.append_assoc]
                        exact own_snoc_of (n := j + 1) (nth a' j) (by simp; omega) hown2
                      clear hown2 hgrow hatz
                      go_wp2
                      go_roundw
                      case rel => exact ⟨j + 1, by omega, by go_num, HO2.out, HB2.out⟩
                      case measure => simp [intOf]; omega
                    · obtain rfl : j = a'.length := by omega
                      rw [List.take_length] at hown
                      obtain ⟨gz, stz⟩ := HST2.out.setOwn (xa := xa) (by rw [← HRX.out]; exact hown) hbl
                      have HSTz : Hid (RJ w wr u19 v1 v2 xa yb (layP s' cx) gz g1) := stz
                      clear stz hown hbl
                      go_wp2
                      go_roundg (wt xa + wt yb)
                      case measure => exact HM.out
                      case rel => obtain ⟨⟨S', A', hjj⟩, hnn⟩ := HX.out; rw [HSE.out] at hjj hnn; exact ⟨xa, yb, _, S', _, A', gz, g1, rfl, HSTz.out, hjj, hnn⟩
                · go_wp2_with fail
                  refine (HHb.out wr _ _ HST.out).mono ?_
                  rintro e w1 ⟨v1, g1, rfl, st1⟩
                  have HSE : Hid (s2 = s') := HS3.out (by first | decide | trivial | simp)
                  have hst1 : RJ w (w1.alloc (.cells #[.int .i64 3, .int .i64 cy.n, .string cy.t] 60)) _ v1 u10 (⟨2, 0, xt⟩ :: a') yb s' ga g1 := st1.here ((Below.refl _ _).alloc (Nat.le_refl _) _)
                  have hyc : (w1.alloc (.cells #[.int .i64 3, .int .i64 cy.n, .string cy.t] 60)).cell? ⟨w1.heap.size, 0, none⟩ = some (.int .i64 3) := (Blk.new w1 _ 60).cell 0 rfl
                  clear st1 c0 c1 c2 d0 d1 d2 HS1 HS3 HHb HST HJ HNn HK HP
                  generalize hw2 : (w1.alloc (.cells #[.int .i64 3, .int .i64 cy.n, .string cy.t] 60)) = w2 at *
                  have HST2 : Hid (RJ w w2 _ v1 u10 (⟨2, 0, xt⟩ :: a') yb s' ga g1) := hst1
                  have hcw2 : w2.cell? ⟨ga, off + 2, none⟩ = some (.string xt) := hst1.sa.cells.1.head.2.2
                  have HAT : Hid (At w2 ga off (⟨2, 0, xt⟩ :: a')) := hst1.sa.cells.1
                  have hgw2 : ga < w2.heap.size := hst1.sa.cells.2
                  clear hst1
                  go_wp2_with (at_builtin; refine stopHere ?_)
                  unfold Hid
                  have HZ : Hid (Own (w2.alloc (.cells #[] 60)) w2.heap.size (.slice (some ⟨w2.heap.size, 0, none⟩) 0 0) []) := own_zero w2
                  refine wpList_append_lies _ rfl _ _ _ rfl w2.heap.size 60 i0 _ 3 32 Tryd.underlying22 hi0 hz0 hz1 hz2 rfl (by omega) (.slice (some ⟨w2.heap.size, 0, none⟩) 0 0) 0 [] rfl (HZ.out.alloc _) ⟨w2.heap.size + 1, 0, none⟩ 1 1 [.int .i64 2, .int .i64 0, .string (xt.extract m xt.size)] rfl rfl (World.news_of_block (cs := #[.int .i64 2, .int .i64 0, .string (xt.extract m xt.size)]) (t := 60) (fr := (0, 0)) (by have h := heap_alloc_new (w2.alloc (.cells #[] 60)) (.cells #[.int .i64 2, .int .i64 0, .string (xt.extract m xt.size)] 60); rw [show (w2.alloc (.cells #[] 60)).heap.size = w2.heap.size + 1 by simp] at h; exact h)) (by simp [Value.oneCell']) (by omega) (by unfold maxLen; omega) (by omega) (by simp; omega) (w2.heap.size + 2) (by simp) ?_
                  intro gg cap2 w5 hown5 hgrow5 hat5 hlt5
                  have HB5 : Hid (Below w2.heap.size w2 w5) := (((Below.refl _ _).alloc (Nat.le_refl _) _).alloc (by simp) _).grown hgrow5 (by simp; omega) (ownsRow_block HZ.out)
                  have HO5 : Hid (Own w5 w2.heap.size (.slice (some ⟨gg, 0, none⟩) 1 cap2) [⟨2, 0, xt.extract m xt.size⟩]) := hown5
                  clear hown5 hgrow5 hat5 hcw2
                  go_wp2
                  go_loopw [19, 20] (fun v i wq => ∃ j : Nat, j ≤ a'.length ∧ i = .int .i64 ((j : Int) + 1) ∧ Own wq w2.heap.size v ([⟨2, 0, xt.extract m xt.size⟩] ++ a'.take j) ∧ Below w2.heap.size w2 wq) (fun _ i _ => a'.length + 1 - (intOf i).toNat)
                  case atStart => exact ⟨0, Nat.zero_le _, rfl, by rw [List.take_zero, List.append_nil]; exact HO5.out, HB5.out⟩
                  case round =>
                    obtain ⟨j, hj, rfl, hown, hbl⟩ := hrel
                    have hsz := hbl.size
                    by_cases hjl : j < a'.length
                    · obtain ⟨e0, e1, e2⟩ := HAT.out (j + 1) (by simp; omega)
                      rw [show nth (⟨2, 0, xt⟩ :: a') (j + 1) = nth a' j by simp [nth]] at e0 e1 e2
                      have f0 := (hbl.cell (p := ⟨ga, off + (j + 1) * 3, none⟩) hgw2).trans e0
                      have f1 := (hbl.cell (p := ⟨ga, off + (j + 1) * 3 + 1, none⟩) hgw2).trans e1
                      have f2 := (hbl.cell (p := ⟨ga, off + (j + 1) * 3 + 2, none⟩) hgw2).trans e2
                      have hj0 : (0 : Int) ≤ (j : Int) + 1 := by omega
                      have hj1 : (j : Int) + 1 < (a'.length : Int) + 1 := by omega
                      have HOj : Hid (wr.ownsRow w2.heap.size 60 3 u19 (j + 1) (cellsOf ([⟨2, 0, xt.extract m xt.size⟩] ++ a'.take j))) := by
                        have h : wr.ownsRow w2.heap.size 60 3 u19 (List.length ([⟨2, 0, xt.extract m xt.size⟩] ++ a'.take j)) _ := hown
                        rw [show List.length ([⟨2, 0, xt.extract m xt.size⟩] ++ a'.take j) = j + 1 by simp; omega] at h; exact h
                      obtain ⟨ao7, cap7, hu7⟩ := own_slice60 HOj.out
                      subst hu7
                      have HBl : Hid (Below w2.heap.size w2 wr) := hbl
                      have hgr : ga ≠ wr.heap.size := by omega
                      clear e0 e1 e2 hown hbl
                      go_wp2_with (at_builtin; refine stopHere ?_)
                      unfold Hid
                      refine wpList_append_lies _ rfl _ _ _ rfl w2.heap.size 60 i0 _ 3 32 Tryd.underlying22 hi0 hz0 hz1 hz2 rfl (by omega) (.slice ao7 (j + 1) cap7) (j + 1) (cellsOf ([⟨2, 0, xt.extract m xt.size⟩] ++ a'.take j)) rfl (HOj.out.alloc _) ⟨wr.heap.size, 0, none⟩ 1 1 [.int .i64 (nth a' j).k, .int .i64 (nth a' j).n, .string (nth a' j).t] rfl rfl (World.news_of_block (cs := #[.int .i64 (nth a' j).k, .int .i64 (nth a' j).n, .string (nth a' j).t]) (t := 60) (fr := (0, 0)) (heap_alloc_new wr _)) (by simp [Value.oneCell']) (by omega) (by unfold maxLen; omega) (by omega) (by simp; omega) (wr.heap.size + 1) (by simp) ?_
                      intro gg cap2 wz hown2 hgrow hatz hltz
                      have HB2 : Hid (Below w2.heap.size w2 wz) := (HBl.out.alloc (by omega) _).grown hgrow (by simp; omega) (ownsRow_block HOj.out)
                      have HO2 : Hid (Own wz w2.heap.size (.slice (some ⟨gg, 0, none⟩) ((j + 1) + 1) cap2) ([⟨2, 0, xt.extract m xt.size⟩] ++ a'.take (j + 1))) := by
                        rw [take_nth a' j hjl, ← List.append_assoc]
                        exact own_snoc_of (n := j + 1) (nth a' j) (by simp; omega) hown2
                      clear hown2 hgrow hatz
                      go_wp2
                      go_roundw
                      case rel => exact ⟨j + 1, by omega, by go_num, HO2.out, HB2.out⟩
                      case measure => simp [intOf]; omega
                    · obtain rfl : j = a'.length := by omega
                      rw [List.take_length] at hown
                      obtain ⟨gz, stz⟩ := HST2.out.setOwn (xa := xa) (by rw [← HRX.out]; exact hown) hbl
                      have HSTz : Hid (RJ w wr u19 v1 u10 xa yb s' gz g1) := stz
                      clear stz hown hbl
                      go_wp2
                      go_roundg (wt xa + wt yb)
                      case measure => exact HM.out
                      case rel => obtain ⟨⟨S', A', hjj⟩, hnn⟩ := HX.out; rw [HSE.out] at hjj hnn; exact ⟨xa, yb, _, S', _, A', gz, g1, rfl, HSTz.out, hjj, hnn⟩
              · obtain rfl : m = xt.size := by omega
                have HRX : Hid (a' = xa) := by
                  have h := HXA.out; rw [hR0 (by omega)] at h; exact h
                clear hR0 hR1 HXA ey hm
                rcases hy13 with rfl | rfl
                · go_wp2_with fail
                  refine (HHb.out wr _ _ HST.out).mono ?_
                  rintro e w1 ⟨v1, g1, rfl, st1⟩
                  have HST1 : Hid (RJ w (w1.alloc (.cells #[.int .i64 1, .int .i64 cy.n, .string cy.t] 60)) _ v1 u10 (⟨2, 0, xt⟩ :: a') yb s' ga g1) := st1.here ((Below.refl _ _).alloc (Nat.le_refl _) _)
                  have hcw : w1.cell? ⟨ga, off + 2, none⟩ = some (.string xt) := st1.sa.cells.1.head.2.2
                  have hgw : ga < w1.heap.size := st1.sa.cells.2
                  have hgn : ga ≠ w1.heap.size := by omega
                  have HSE : Hid (s2 = layP s' cx) := HS1.out (by first | trivial | rfl)
                  clear st1 c0 c1 c2 d0 d1 d2 HS1 HS3 HHb HST HJ HNn HK
                  rw [show xt.extract 0 xt.size = xt from ByteArray.extract_zero_size] at HP
                  go_wp2_with fail
                  refine (HP.out _ _ _ _ HST1.out).mono ?_
                  rintro e w2 ⟨v2, rfl, st2⟩
                  have HST2 : Hid (RJ w w2 _ v1 v2 (⟨2, 0, xt⟩ :: a') yb (layP s' cx) ga g1) := st2
                  have hcw2 : w2.cell? ⟨ga, off + 2, none⟩ = some (.string xt) := st2.sa.cells.1.head.2.2
                  have HAT : Hid (At w2 ga off (⟨2, 0, xt⟩ :: a')) := st2.sa.cells.1
                  have hgw2 : ga < w2.heap.size := st2.sa.cells.2
                  clear st2 hcw hgw hgn HP HST1
                  have HZ : Hid (Own (w2.alloc (.cells #[] 60)) w2.heap.size (.slice (some ⟨w2.heap.size, 0, none⟩) 0 0) []) := own_zero w2
                  go_wp2
                  go_loopw [19, 20] (fun v i wq => ∃ j : Nat, j ≤ a'.length ∧ i = .int .i64 ((j : Int) + 1) ∧ Own wq w2.heap.size v (([] : List Pt) ++ a'.take j) ∧ Below w2.heap.size w2 wq) (fun _ i _ => a'.length + 1 - (intOf i).toNat)
                  case atStart => exact ⟨0, Nat.zero_le _, rfl, by rw [List.take_zero, List.append_nil]; exact HZ.out, (Below.refl _ _).alloc (Nat.le_refl _) _⟩
                  case round =>
                    obtain ⟨j, hj, rfl, hown, hbl⟩ := hrel
                    have hsz := hbl.size
                    by_cases hjl : j < a'.length
                    · obtain ⟨e0, e1, e2⟩ := HAT.out (j + 1) (by simp; omega)
                      rw [show nth (⟨2, 0, xt⟩ :: a') (j + 1) = nth a' j by simp [nth]] at e0 e1 e2
                      have f0 := (hbl.cell (p := ⟨ga, off + (j + 1) * 3, none⟩) hgw2).trans e0
                      have f1 := (hbl.cell (p := ⟨ga, off + (j + 1) * 3 + 1, none⟩) hgw2).trans e1
                      have f2 := (hbl.cell (p := ⟨ga, off + (j + 1) * 3 + 2, none⟩) hgw2).trans e2
                      have hj0 : (0 : Int) ≤ (j : Int) + 1 := by omega
                      have hj1 : (j : Int) + 1 < (a'.length : Int) + 1 := by omega
                      have HOj : Hid (wr.ownsRow w2.heap.size 60 3 u19 (j + 0) (cellsOf (([] : List Pt) ++ a'.take j))) := by
                        have h : wr.ownsRow w2.heap.size 60 3 u19 (List.length (([] : List Pt) ++ a'.take j)) _ := hown
                        rw [show List.length (([] : List Pt) ++ a'.take j) = j + 0 by simp; omega] at h; exact h
                      obtain ⟨ao7, cap7, hu7⟩ := own_slice60 HOj.out
                      subst hu7
                      have HBl : Hid (Below w2.heap.size w2 wr) := hbl
                      have hgr : ga ≠ wr.heap.size := by omega
                      clear e0 e1 e2 hown hbl
                      go_wp2_with (at_builtin; refine stopHere ?_)
                      unfold Hid
                      refine wpList_append_lies _ rfl _ _ _ rfl w2.heap.size 60 i0 _ 3 32 Tryd.underlying22 hi0 hz0 hz1 hz2 rfl (by omega) (.slice ao7 (j + 0) cap7) (j + 0) (cellsOf (([] : List Pt) ++ a'.take j)) rfl (HOj.out.alloc _) ⟨wr.heap.size, 0, none⟩ 1 1 [.int .i64 (nth a' j).k, .int .i64 (nth a' j).n, .string (nth a' j).t] rfl rfl (World.news_of_block (cs := #[.int .i64 (nth a' j).k, .int .i64 (nth a' j).n, .string (nth a' j).t]) (t := 60) (fr := (0, 0)) (heap_alloc_new wr _)) (by simp [Value.oneCell']) (by omega) (by unfold maxLen; omega) (by omega) (by simp; omega) (wr.heap.size + 1) (by simp) ?_
                      intro gg cap2 wz hown2 hgrow hatz hltz
                      have HB2 : Hid (Below w2.heap.size w2 wz) := (HBl.out.alloc (by omega) _).grown hgrow (by simp; omega) (ownsRow_block HOj.out)
                      have HO2 : Hid (Own wz w2.heap.size (.slice (some ⟨gg, 0, none⟩) ((j + 0) + 1) cap2) (([] : List Pt) ++ a'.take (j + 1))) := by
                        rw [take_nth a' j hjl, ← List.append_assoc]
                        exact own_snoc_of (n := j + 0) (nth a' j) (by simp; omega) hown2
                      clear hown2 hgrow hatz
                      go_wp2
                      go_roundw
                      case rel => exact ⟨j + 1, by omega, by go_num, HO2.out, HB2.out⟩
                      case measure => simp [intOf]; omega
                    · obtain rfl : j = a'.length := by omega
                      rw [List.take_length] at hown
                      obtain ⟨gz, stz⟩ := HST2.out.setOwn (xa := xa) (by rw [← HRX.out]; exact hown) hbl
                      have HSTz : Hid (RJ w wr u19 v1 v2 xa yb (layP s' cx) gz g1) := stz
                      clear stz hown hbl
                      go_wp2
                      go_roundg (wt xa + wt yb)
                      case measure => exact HM.out
                      case rel => obtain ⟨⟨S', A', hjj⟩, hnn⟩ := HX.out; rw [HSE.out] at hjj hnn; exact ⟨xa, yb, _, S', _, A', gz, g1, rfl, HSTz.out, hjj, hnn⟩
                · go_wp2_with fail
                  refine (HHb.out wr _ _ HST.out).mono ?_
                  rintro e w1 ⟨v1, g1, rfl, st1⟩
                  have HSE : Hid (s2 = s') := HS3.out (by first | decide | trivial | simp)
                  have hst1 : RJ w (w1.alloc (.cells #[.int .i64 3, .int .i64 cy.n, .string cy.t] 60)) _ v1 u10 (⟨2, 0, xt⟩ :: a') yb s' ga g1 := st1.here ((Below.refl _ _).alloc (Nat.le_refl _) _)
                  have hyc : (w1.alloc (.cells #[.int .i64 3, .int .i64 cy.n, .string cy.t] 60)).cell? ⟨w1.heap.size, 0, none⟩ = some (.int .i64 3) := (Blk.new w1 _ 60).cell 0 rfl
                  clear st1 c0 c1 c2 d0 d1 d2 HS1 HS3 HHb HST HJ HNn HK HP
                  generalize hw2 : (w1.alloc (.cells #[.int .i64 3, .int .i64 cy.n, .string cy.t] 60)) = w2 at *
                  have HST2 : Hid (RJ w w2 _ v1 u10 (⟨2, 0, xt⟩ :: a') yb s' ga g1) := hst1
                  have hcw2 : w2.cell? ⟨ga, off + 2, none⟩ = some (.string xt) := hst1.sa.cells.1.head.2.2
                  have HAT : Hid (At w2 ga off (⟨2, 0, xt⟩ :: a')) := hst1.sa.cells.1
                  have hgw2 : ga < w2.heap.size := hst1.sa.cells.2
                  clear hst1
                  have HZ : Hid (Own (w2.alloc (.cells #[] 60)) w2.heap.size (.slice (some ⟨w2.heap.size, 0, none⟩) 0 0) []) := own_zero w2
                  go_wp2
                  go_loopw [19, 20] (fun v i wq => ∃ j : Nat, j ≤ a'.length ∧ i = .int .i64 ((j : Int) + 1) ∧ Own wq w2.heap.size v (([] : List Pt) ++ a'.take j) ∧ Below w2.heap.size w2 wq) (fun _ i _ => a'.length + 1 - (intOf i).toNat)
                  case atStart => exact ⟨0, Nat.zero_le _, rfl, by rw [List.take_zero, List.append_nil]; exact HZ.out, (Below.refl _ _).alloc (Nat.le_refl _) _⟩
                  case round =>
                    obtain ⟨j, hj, rfl, hown, hbl⟩ := hrel
                    have hsz := hbl.size
                    by_cases hjl : j < a'.length
                    · obtain ⟨e0, e1, e2⟩ := HAT.out (j + 1) (by simp; omega)
                      rw [show nth (⟨2, 0, xt⟩ :: a') (j + 1) = nth a' j by simp [nth]] at e0 e1 e2
                      have f0 := (hbl.cell (p := ⟨ga, off + (j + 1) * 3, none⟩) hgw2).trans e0
                      have f1 := (hbl.cell (p := ⟨ga, off + (j + 1) * 3 + 1, none⟩) hgw2).trans e1
                      have f2 := (hbl.cell (p := ⟨ga, off + (j + 1) * 3 + 2, none⟩) hgw2).trans e2
                      have hj0 : (0 : Int) ≤ (j : Int) + 1 := by omega
                      have hj1 : (j : Int) + 1 < (a'.length : Int) + 1 := by omega
                      have HOj : Hid (wr.ownsRow w2.heap.size 60 3 u19 (j + 0) (cellsOf (([] : List Pt) ++ a'.take j))) := by
                        have h : wr.ownsRow w2.heap.size 60 3 u19 (List.length (([] : List Pt) ++ a'.take j)) _ := hown
                        rw [show List.length (([] : List Pt) ++ a'.take j) = j + 0 by simp; omega] at h; exact h
                      obtain ⟨ao7, cap7, hu7⟩ := own_slice60 HOj.out
                      subst hu7
                      have HBl : Hid (Below w2.heap.size w2 wr) := hbl
                      have hgr : ga ≠ wr.heap.size := by omega
                      clear e0 e1 e2 hown hbl
                      go_wp2_with (at_builtin; refine stopHere ?_)
                      unfold Hid
                      refine wpList_append_lies _ rfl _ _ _ rfl w2.heap.size 60 i0 _ 3 32 Tryd.underlying22 hi0 hz0 hz1 hz2 rfl (by omega) (.slice ao7 (j + 0) cap7) (j + 0) (cellsOf (([] : List Pt) ++ a'.take j)) rfl (HOj.out.alloc _) ⟨wr.heap.size, 0, none⟩ 1 1 [.int .i64 (nth a' j).k, .int .i64 (nth a' j).n, .string (nth a' j).t] rfl rfl (World.news_of_block (cs := #[.int .i64 (nth a' j).k, .int .i64 (nth a' j).n, .string (nth a' j).t]) (t := 60) (fr := (0, 0)) (heap_alloc_new wr _)) (by simp [Value.oneCell']) (by omega) (by unfold maxLen; omega) (by omega) (by simp; omega) (wr.heap.size + 1) (by simp) ?_
                      intro gg cap2 wz hown2 hgrow hatz hltz
                      have HB2 : Hid (Below w2.heap.size w2 wz) := (HBl.out.alloc (by omega) _).grown hgrow (by simp; omega) (ownsRow_block HOj.out)
                      have HO2 : Hid (Own wz w2.heap.size (.slice (some ⟨gg, 0, none⟩) ((j + 0) + 1) cap2) (([] : List Pt) ++ a'.take (j + 1))) := by
                        rw [take_nth a' j hjl, ← List.append_assoc]
                        exact own_snoc_of (n := j + 0) (nth a' j) (by simp; omega) hown2
                      clear hown2 hgrow hatz
                      go_wp2
                      go_roundw
                      case rel => exact ⟨j + 1, by omega, by go_num, HO2.out, HB2.out⟩
                      case measure => simp [intOf]; omega
                    · obtain rfl : j = a'.length := by omega
                      rw [List.take_length] at hown
                      obtain ⟨gz, stz⟩ := HST2.out.setOwn (xa := xa) (by rw [← HRX.out]; exact hown) hbl
                      have HSTz : Hid (RJ w wr u19 v1 u10 xa yb s' gz g1) := stz
                      clear stz hown hbl
                      go_wp2
                      go_roundg (wt xa + wt yb)
                      case measure => exact HM.out
                      case rel => obtain ⟨⟨S', A', hjj⟩, hnn⟩ := HX.out; rw [HSE.out] at hjj hnn; exact ⟨xa, yb, _, S', _, A', gz, g1, rfl, HSTz.out, hjj, hnn⟩
end Go.Proofs.YtdlolnahbgecjaaDoor
namespace Go.Proofs.YtdlolnahbgecjaaDoor
open Go.RowKit
set_option linter.unusedVariables false

set_option maxRecDepth 100000 in
set_option maxHeartbeats 4000000 in
theorem refJoin_any (ps qs : List Pt) (ao bo : Option Addr) (b1 o1 c1 b2 o2 c2 : Nat) (w : World) (A : Arg w ps ao b1 o1) (B : Arg w qs bo b2 o2) (hc1 : ps.length ≤ c1) (hc2 : qs.length ≤ c2) :
    Calls Tryd.prog 21 #[.slice ao ps.length c1, .slice bo qs.length c2] w fun e w' => ∃ v, e = .returned (.tuple #[v, .int .i64 (jCode ps qs)]) ∧ Own w' w.heap.size v (jOut ps qs) ∧ Below w.heap.size w w' := by
  have GA : ∀ wx, Below w.heap.size w wx → Calls Tryd.prog 27 #[.slice ao ps.length c1] wx fun e w' => e = .returned (.bool (Good ps)) ∧ Below wx.heap.size wx w' := fun wx hb => by
    have A' := A.below hb A.lt
    exact good_any ps ao b1 o1 c1 wx A'.ao A'.lt A'.cells A'.len
  have GB : ∀ wx, Below w.heap.size w wx → Calls Tryd.prog 27 #[.slice bo qs.length c2] wx fun e w' => e = .returned (.bool (Good qs)) ∧ Below wx.heap.size wx w' := fun wx hb => by
    have A' := B.below hb B.lt
    exact good_any qs bo b2 o2 c2 wx A'.ao A'.lt A'.cells A'.len
  by_cases hg : Good ps = false ∨ Good qs = false
  · have hc : jCode ps qs = 1 := by unfold jCode; rw [if_pos hg]
    have HO : Hid (jOut ps qs = []) := by show _ = _; unfold jOut; rw [if_neg (by omega)]
    rw [hc, HO.out]
    clear hc
    cases g1 : Good ps with
    | false =>
      rw [g1] at GA
      have HA : Hid (∀ wx, Below w.heap.size w wx → Calls Tryd.prog 27 #[.slice ao ps.length c1] wx fun e w' => e = .returned (.bool false) ∧ Below wx.heap.size wx w') := GA
      clear GA GB A B hc1 hc2 hg g1
      go_enter Tryd.func21, Tryd.ntmps21
      go_wp2_with fail
      refine (HA.out w (Below.refl _ _)).mono ?_
      rintro e w1 ⟨rfl, hb1⟩
      go_wp2
      go_ret2
      exact ⟨_, rfl, World.ownsRow_nil _ _ _ _, hb1⟩
    | true =>
      have g2 : Good qs = false := by
        rcases hg with h | h
        · rw [g1] at h; cases h
        · exact h
      rw [g1] at GA
      rw [g2] at GB
      have HA : Hid (∀ wx, Below w.heap.size w wx → Calls Tryd.prog 27 #[.slice ao ps.length c1] wx fun e w' => e = .returned (.bool true) ∧ Below wx.heap.size wx w') := GA
      have HB : Hid (∀ wx, Below w.heap.size w wx → Calls Tryd.prog 27 #[.slice bo qs.length c2] wx fun e w' => e = .returned (.bool false) ∧ Below wx.heap.size wx w') := GB
      clear GA GB A B hc1 hc2 hg g1 g2
      go_enter Tryd.func21, Tryd.ntmps21
      go_wp2_with fail
      refine (HA.out w (Below.refl _ _)).mono ?_
      rintro e w1 ⟨rfl, hb1⟩
      go_wp2_with fail
      refine (HB.out w1 hb1).mono ?_
      rintro e w2 ⟨rfl, hb2⟩
      go_wp2
      go_ret2
      exact ⟨_, rfl, World.ownsRow_nil _ _ _ _, hb1.trans (hb2.mono hb1.size)⟩
  · have g1 : Good ps = true := by cases e : Good ps with | true => rfl | false => exact absurd (Or.inl e) hg
    have g2 : Good qs = true := by cases e : Good qs with | true => rfl | false => exact absurd (Or.inr e) hg
    rw [g1] at GA
    rw [g2] at GB
    have HA : Hid (∀ wx, Below w.heap.size w wx → Calls Tryd.prog 27 #[.slice ao ps.length c1] wx fun e w' => e = .returned (.bool true) ∧ Below wx.heap.size wx w') := GA
    have HB : Hid (∀ wx, Below w.heap.size w wx → Calls Tryd.prog 27 #[.slice bo qs.length c2] wx fun e w' => e = .returned (.bool true) ∧ Below wx.heap.size wx w') := GB
    have HF1 : Hid (∀ wx, Below w.heap.size w wx → Calls Tryd.prog 28 #[.slice ao ps.length c1] wx fun e w' => e = .returned (.int .i64 (From ps)) ∧ w' = wx) := fun wx hb => by
      have A' := A.below hb A.lt
      exact from_any ps ao b1 o1 c1 wx A'.ao A'.cells A'.len (A.nn g1)
    by_cases hf : From ps < 0
    · have hc : jCode ps qs = 2 := by unfold jCode; rw [if_neg hg, if_pos hf]
      have HO : Hid (jOut ps qs = []) := by show _ = _; unfold jOut; rw [if_neg (by omega)]
      rw [hc, HO.out]
      clear GA GB A B hc1 hc2 hg g1 g2 hc
      generalize From ps = fp at *
      go_enter Tryd.func21, Tryd.ntmps21
      go_wp2_with fail
      refine (HA.out w (Below.refl _ _)).mono ?_
      rintro e w1 ⟨rfl, hb1⟩
      go_wp2_with fail
      refine (HB.out w1 hb1).mono ?_
      rintro e w2 ⟨rfl, hb2⟩
      have hbw2 : Below w.heap.size w w2 := hb1.trans (hb2.mono hb1.size)
      go_wp2_with fail
      refine (HF1.out w2 hbw2).mono ?_
      rintro e w3 ⟨rfl, hww⟩
      obtain rfl := hww.symm
      go_wp2
      go_ret2
      exact ⟨_, rfl, World.ownsRow_nil _ _ _ _, hbw2⟩
    · by_cases hf2 : From qs < 0 ∨ From qs ≠ madeTo ps ps.length
      · have hc : jCode ps qs = 2 := by unfold jCode; rw [if_neg hg, if_neg hf, if_pos hf2]
        have HO : Hid (jOut ps qs = []) := by show _ = _; unfold jOut; rw [if_neg (by omega)]
        rw [hc, HO.out]
        have HF2 : Hid (∀ wx, Below w.heap.size w wx → Calls Tryd.prog 28 #[.slice bo qs.length c2] wx fun e w' => e = .returned (.int .i64 (From qs)) ∧ w' = wx) := fun wx hb => by
          have A' := B.below hb B.lt
          exact from_any qs bo b2 o2 c2 wx A'.ao A'.cells A'.len (B.nn g2)
        have hRF : refFit ps (From ps) = (madeTo ps ps.length, 0) := by unfold refFit; rw [if_neg (by simp [g1]), if_neg (by omega)]
        have HT : Hid (∀ wx, Below w.heap.size w wx → Calls Tryd.prog 12 #[.slice ao ps.length c1, .int .i64 (From ps)] wx fun e w' => e = .returned (.tuple #[.int .i64 (madeTo ps ps.length), .int .i64 0]) ∧ Below wx.heap.size wx w') := fun wx hb => by
          have := refFit_any ps ao b1 o1 c1 (From ps) wx (A.below hb A.lt)
          rw [hRF] at this; exact this
        clear GA GB A B hc1 hc2 hg g1 g2 hc hRF
        generalize madeTo ps ps.length = mm at *
        generalize From ps = fp at *
        generalize From qs = fq at *
        have hd0 : decide (fp < 0) = false := by simpa using hf
        by_cases hq : fq < 0
        · clear hf2
          go_enter Tryd.func21, Tryd.ntmps21
          go_wp2_with fail
          refine (HA.out w (Below.refl _ _)).mono ?_
          rintro e w1 ⟨rfl, hb1⟩
          go_wp2_with fail
          refine (HB.out w1 hb1).mono ?_
          rintro e w2 ⟨rfl, hb2⟩
          have hbw2 : Below w.heap.size w w2 := hb1.trans (hb2.mono hb1.size)
          go_wp2_with fail
          refine (HF1.out w2 hbw2).mono ?_
          rintro e w3 ⟨rfl, hww⟩
          obtain rfl := hww.symm
          go_wp2_with fail
          refine (HT.out w2 hbw2).mono ?_
          rintro e w3 ⟨rfl, hb3⟩
          have hbw3 : Below w.heap.size w w3 := hbw2.trans (hb3.mono hbw2.size)
          go_wp2_with fail
          refine (HF2.out w3 hbw3).mono ?_
          rintro e w4 ⟨rfl, hww'⟩
          obtain rfl := hww'.symm
          go_wp2
          go_ret2
          exact ⟨_, rfl, World.ownsRow_nil _ _ _ _, hbw3⟩
        · have hne : (fq != mm) = true := by
            rcases hf2 with h | h
            · exact absurd h hq
            · simpa using h
          have hd1 : decide (fq < 0) = false := by simpa using hq
          clear hf2
          go_enter Tryd.func21, Tryd.ntmps21
          go_wp2_with fail
          refine (HA.out w (Below.refl _ _)).mono ?_
          rintro e w1 ⟨rfl, hb1⟩
          go_wp2_with fail
          refine (HB.out w1 hb1).mono ?_
          rintro e w2 ⟨rfl, hb2⟩
          have hbw2 : Below w.heap.size w w2 := hb1.trans (hb2.mono hb1.size)
          go_wp2_with fail
          refine (HF1.out w2 hbw2).mono ?_
          rintro e w3 ⟨rfl, hww⟩
          obtain rfl := hww.symm
          go_wp2_with fail
          refine (HT.out w2 hbw2).mono ?_
          rintro e w3 ⟨rfl, hb3⟩
          have hbw3 : Below w.heap.size w w3 := hbw2.trans (hb3.mono hbw2.size)
          go_wp2_with fail
          refine (HF2.out w3 hbw3).mono ?_
          rintro e w4 ⟨rfl, hww'⟩
          obtain rfl := hww'.symm
          go_wp2
          go_ret2
          exact ⟨_, rfl, World.ownsRow_nil _ _ _ _, hbw3⟩
      · have hc : jCode ps qs = 0 := by unfold jCode; rw [if_neg hg, if_neg hf, if_neg hf2]
        have HO : Hid (jOut ps qs = settleP (Jn ps qs ws0)) := by show _ = _; unfold jOut; rw [if_pos hc]
        rw [hc, HO.out]
        exact refJoin_ok ps qs ao bo b1 o1 c1 b2 o2 c2 w A B hc1 hc2 hc
end Go.Proofs.YtdlolnahbgecjaaDoor
