import Derived.Test.YtdlolnahbgecjaaDoorRJ2
import Derived.Test.YtdlolnahbgecjaaDoorFitsWalk
namespace Go.Proofs.YtdlolnahbgecjaaDoor
open Go.RowKit
set_option linter.unusedVariables false

set_option maxRecDepth 100000 in
set_option maxHeartbeats 8000000 in
theorem joined_any (ra rb b1 b2 : Nat) (w : World) (ps qs : List Pt) (R1 : Rr w.heap.size w ra b1 ps) (R2 : Rr w.heap.size w rb b2 qs) (hab : ra ≠ rb) (h12 : b1 ≠ rb) (h21 : b2 ≠ ra) (hJ : JOk ps qs ws0 0 0 0) :
    Calls Tryd.prog 48 #[.pointer (some ⟨ra, 0, none⟩), .pointer (some ⟨rb, 0, none⟩)] w fun e w' => ∃ v, e = .returned v ∧ w'.ownsRow w.heap.size 61 3 v (settleP (Jn ps qs ws0)).length (cellsOf (settleP (Jn ps qs ws0))) ∧ Wr (fun k => k = ra ∨ k = rb) w w' := by
  have hb0 : Below w.heap.size w (w.alloc (.cells #[.slice none 0 0, .pointer none, .slice none 0 0, .int .i64 0] 107)) := (Below.refl _ _).alloc (Nat.le_refl _) _
  have HJ0 : Hid (JOk ps qs ws0 0 0 0) := hJ
  have HS0 : Hid (JSt w.heap.size ra rb b1 b2 w (w.alloc (.cells #[.slice none 0 0, .pointer none, .slice none 0 0, .int .i64 0] 107)) ps qs ws0) :=
    ⟨R1.below hb0, R2.below hb0, ⟨_, _, _, Blk.new w _ 107, Or.inl rfl, World.ownsRow_nil _ _ _ _, World.ownsRow_nil _ _ _ _, Nat.le_refl _, hb0.size⟩, Wr.here hb0⟩
  have HN : Hid (ra ≠ rb ∧ b1 ≠ rb ∧ b2 ≠ ra) := ⟨hab, h12, h21⟩
  clear R1 R2 hab h12 h21 hJ hb0
  generalize hjn : Jn ps qs ws0 = jn
  have HJn : Hid (Jn ps qs ws0 = jn) := hjn
  clear hjn
  go_enter Tryd.func48, Tryd.ntmps48
  go_wp2
  go_loopg [] (wt ps + wt qs) (fun k wr => ∃ a b s S L A, wt a + wt b = k ∧ JSt w.heap.size ra rb b1 b2 w wr a b s ∧ JOk a b s S L A ∧ Jn a b s = jn)
  case atStart => exact ⟨ps, qs, ws0, 0, 0, 0, rfl, HS0.out, HJ0.out, HJn.out⟩
  case round =>
    obtain ⟨a, b, s, S, L, A, hk, hst, hj, hn⟩ := hrel
    have HK : Hid (wt a + wt b = gk) := hk
    have HST : Hid (JSt w.heap.size ra rb b1 b2 w wr a b s) := hst
    have HJ : Hid (JOk a b s S L A) := hj
    have HNn : Hid (Jn a b s = jn) := hn
    clear hk hst hj hn
    by_cases hD : ∃ x a', a = x :: a' ∧ x.k = 3
    · obtain ⟨⟨xk, xn, xt⟩, a', rfl, hx⟩ := hD
      obtain rfl : xk = 3 := hx
      have HL : Hid (∀ wx, JSt w.heap.size ra rb b1 b2 w wx a' b s → Calls Tryd.prog 56 #[.pointer (some ⟨w.heap.size, 0, none⟩), .agg #[.int .i64 3, .int .i64 xn, .string xt]] wx fun e w' => e = .returned (.tuple #[]) ∧ JSt w.heap.size ra rb b1 b2 w w' a' b (layP s ⟨3, xn, xt⟩)) := fun wx h => by
        obtain ⟨h1, h2, h3⟩ := HJ.out.layDrop rfl
        exact js_lay h HJ.out.s _ h1 h2 HJ.out.small.2.1 h3
      go_wp2_with fail
      refine (js_kindA HST.out).mono ?_
      rintro e w1 ⟨rfl, st1⟩
      have HST1 : Hid (JSt w.heap.size ra rb b1 b2 w w1 (⟨3, xn, xt⟩ :: a') b s) := st1
      clear st1
      go_wp2_with fail
      refine (js_kindA HST1.out).mono ?_
      rintro e w2 ⟨rfl, st2⟩
      have HST2 : Hid (JSt w.heap.size ra rb b1 b2 w w2 (⟨3, xn, xt⟩ :: a') b s) := st2
      clear st2
      go_wp2_with fail
      refine (js_restA HST2.out HN.out.1 HN.out.2.2).mono ?_
      rintro e w3 ⟨rfl, st3⟩
      have HST3 : Hid (JSt w.heap.size ra rb b1 b2 w w3 a' b s) := st3
      clear st3
      go_wp2_with fail
      refine (HL.out w3 HST3.out).mono ?_
      rintro e w4 ⟨rfl, st4⟩
      have HST4 : Hid (JSt w.heap.size ra rb b1 b2 w w4 a' b (layP s ⟨3, xn, xt⟩)) := st4
      clear st4
      go_wp2
      go_roundg (wt a' + wt b)
      case measure => have h1 := HK.out; have h2 := wt_cons ⟨3, xn, xt⟩ a'; omega
      case rel => exact ⟨a', b, _, _, _, _, rfl, HST4.out, HJ.out.drop rfl, by rw [← HNn.out, Jn_drop HJ.out.oka HJ.out.okb rfl]⟩
    · by_cases hB : ∃ y b', b = y :: b' ∧ y.k = 2
      · obtain ⟨⟨yk, yn, yt⟩, b', rfl, hy⟩ := hB
        obtain rfl : yk = 2 := hy
        have HL : Hid (∀ wx, JSt w.heap.size ra rb b1 b2 w wx a b' s → Calls Tryd.prog 56 #[.pointer (some ⟨w.heap.size, 0, none⟩), .agg #[.int .i64 2, .int .i64 yn, .string yt]] wx fun e w' => e = .returned (.tuple #[]) ∧ JSt w.heap.size ra rb b1 b2 w w' a b' (layP s ⟨2, yn, yt⟩)) := fun wx h => by
          obtain ⟨h1, h2, h3⟩ := HJ.out.layAdd rfl
          exact js_lay h HJ.out.s _ h1 h2 HJ.out.small.2.1 h3
        have HX : Hid (JOk a b' (layP s ⟨2, yn, yt⟩) S (L + 3) (A + yt.size) ∧ Jn a b' (layP s ⟨2, yn, yt⟩) = jn) := ⟨HJ.out.add rfl, by rw [← HNn.out, Jn_add HJ.out.oka HJ.out.okb rfl]⟩
        cases a with
        | nil =>
          clear hD
          go_wp2_with fail
          refine (js_kindA HST.out).mono ?_
          rintro e w1 ⟨rfl, st1⟩
          have HST1 : Hid (JSt w.heap.size ra rb b1 b2 w w1 [] (⟨2, yn, yt⟩ :: b') s) := st1
          clear st1
          go_wp2_with fail
          refine (js_kindB HST1.out).mono ?_
          rintro e w2 ⟨rfl, st2⟩
          have HST2 : Hid (JSt w.heap.size ra rb b1 b2 w w2 [] (⟨2, yn, yt⟩ :: b') s) := st2
          clear st2
          go_wp2_with fail
          refine (js_kindA HST2.out).mono ?_
          rintro e w3 ⟨rfl, st3⟩
          have HST3 : Hid (JSt w.heap.size ra rb b1 b2 w w3 [] (⟨2, yn, yt⟩ :: b') s) := st3
          clear st3
          go_wp2_with fail
          refine (js_kindB HST3.out).mono ?_
          rintro e w4 ⟨rfl, st4⟩
          have HST4 : Hid (JSt w.heap.size ra rb b1 b2 w w4 [] (⟨2, yn, yt⟩ :: b') s) := st4
          clear st4
          go_wp2_with fail
          refine (js_restB HST4.out HN.out.1 HN.out.2.1).mono ?_
          rintro e w5 ⟨rfl, st5⟩
          have HST5 : Hid (JSt w.heap.size ra rb b1 b2 w w5 [] b' s) := st5
          clear st5
          go_wp2_with fail
          refine (HL.out w5 HST5.out).mono ?_
          rintro e w6 ⟨rfl, st6⟩
          have HST6 : Hid (JSt w.heap.size ra rb b1 b2 w w6 [] b' (layP s ⟨2, yn, yt⟩)) := st6
          clear st6
          go_wp2
          go_roundg (wt [] + wt b')
          case measure => have h1 := HK.out; have h2 := wt_cons ⟨2, yn, yt⟩ b'; omega
          case rel => exact ⟨[], b', _, _, _, _, rfl, HST6.out, HX.out.1, HX.out.2⟩
        | cons x a' =>
          have hx3 : (x.k == 3) = false := by simp; intro h; exact hD ⟨x, a', rfl, h⟩
          have hx0 : (x.k != 0) = true := by simp; exact okP_kind (allOk_cons HJ.out.oka).1
          clear hD
          go_wp2_with fail
          refine (js_kindA HST.out).mono ?_
          rintro e w1 ⟨rfl, st1⟩
          have HST1 : Hid (JSt w.heap.size ra rb b1 b2 w w1 (x :: a') (⟨2, yn, yt⟩ :: b') s) := st1
          clear st1
          go_wp2_with fail
          refine (js_kindA HST1.out).mono ?_
          rintro e w3 ⟨rfl, st3⟩
          have HST3 : Hid (JSt w.heap.size ra rb b1 b2 w w3 (x :: a') (⟨2, yn, yt⟩ :: b') s) := st3
          clear st3
          go_wp2_with fail
          refine (js_kindB HST3.out).mono ?_
          rintro e w4 ⟨rfl, st4⟩
          have HST4 : Hid (JSt w.heap.size ra rb b1 b2 w w4 (x :: a') (⟨2, yn, yt⟩ :: b') s) := st4
          clear st4
          go_wp2_with fail
          refine (js_restB HST4.out HN.out.1 HN.out.2.1).mono ?_
          rintro e w5 ⟨rfl, st5⟩
          have HST5 : Hid (JSt w.heap.size ra rb b1 b2 w w5 (x :: a') b' s) := st5
          clear st5
          go_wp2_with fail
          refine (HL.out w5 HST5.out).mono ?_
          rintro e w6 ⟨rfl, st6⟩
          have HST6 : Hid (JSt w.heap.size ra rb b1 b2 w w6 (x :: a') b' (layP s ⟨2, yn, yt⟩)) := st6
          clear st6
          go_wp2
          go_roundg (wt (x :: a') + wt b')
          case measure => have h1 := HK.out; have h2 := wt_cons ⟨2, yn, yt⟩ b'; omega
          case rel => exact ⟨x :: a', b', _, _, _, _, rfl, HST6.out, HX.out.1, HX.out.2⟩
      · cases a with
        | nil =>
          cases b with
          | nil =>
            clear hD hB
            have HE : Hid (s = jn) := by have h := HNn.out; rw [Jn_nil] at h; exact h
            go_wp2_with fail
            refine (js_kindA HST.out).mono ?_
            rintro e w1 ⟨rfl, st1⟩
            have HST1 : Hid (JSt w.heap.size ra rb b1 b2 w w1 [] [] s) := st1
            clear st1
            go_wp2_with fail
            refine (js_kindB HST1.out).mono ?_
            rintro e w2 ⟨rfl, st2⟩
            have HST2 : Hid (JSt w.heap.size ra rb b1 b2 w w2 [] [] s) := st2
            clear st2
            obtain ⟨o2, p2, v2, W2⟩ := HST2.out.wt
            have HC : Hid (Calls Tryd.prog 57 #[.pointer (some ⟨w.heap.size, 0, none⟩)] w2 fun e w' => ∃ v, e = .returned v ∧ w'.ownsRow w.heap.size 61 3 v (settleP s).length (cellsOf (settleP s)) ∧ Fr w.heap.size [107, 61, 5] w2 w') := change_any w.heap.size w.heap.size w2 s o2 p2 v2 W2 HJ.out.s.w.drop (by have h1 := HJ.out.s.w.len; have h2 := HJ.out.small.2.1; omega)
            clear W2
            go_wp2_with fail
            refine HC.out.mono ?_
            rintro e w3 ⟨v3, rfl, hO3, F3⟩
            have HF : Hid (w3.ownsRow w.heap.size 61 3 v3 (settleP jn).length (cellsOf (settleP jn)) ∧ Wr (fun k => k = ra ∨ k = rb) w w3) := by
              rw [← HE.out]; exact ⟨hO3, HST2.out.fr.then_below (F3.below HST2.out.r1.bw)⟩
            clear hO3 F3
            go_wp2
            go_ret
            exact ⟨v3, rfl, HF.out⟩
          | cons y b' => exact absurd ⟨y, b', rfl, HJ.out.left⟩ hB
        | cons x a' =>
          cases b with
          | nil => exact absurd ⟨x, a', rfl, HJ.out.right⟩ hD
          | cons y b' =>
            have hx : x.k ≠ 3 := fun h => hD ⟨x, a', rfl, h⟩
            have hy : y.k ≠ 2 := fun h => hB ⟨y, b', rfl, h⟩
            have hx3 : (x.k == 3) = false := by simpa using hx
            have hx0 : (x.k != 0) = true := by simp; exact okP_kind (allOk_cons HJ.out.oka).1
            have hy2 : (y.k == 2) = false := by simpa using hy
            obtain ⟨m, hm⟩ : ∃ m, min (pl x) (pl y) = m := ⟨_, rfl⟩
            have HAb : Hid (∀ wx, JSt w.heap.size ra rb b1 b2 w wx (x :: a') (y :: b') s → Calls Tryd.prog 62 #[.pointer (some ⟨ra, 0, none⟩), .pointer (some ⟨rb, 0, none⟩)] wx fun e w' => e = .returned (.tuple #[.agg #[.int .i64 (cut x 0 m).k, .int .i64 (cut x 0 m).n, .string (cut x 0 m).t], .agg #[.int .i64 (cut y 0 m).k, .int .i64 (cut y 0 m).n, .string (cut y 0 m).t]]) ∧ JSt w.heap.size ra rb b1 b2 w w' (restP x m ++ a') (restP y m ++ b') s) := fun wx h => js_abreast h HN.out.1 HN.out.2.1 HN.out.2.2 m hm
            have hj2 := HJ.out.both hx hy
            have hn2 := Jn_both (s := s) HJ.out.oka HJ.out.okb hx hy
            obtain ⟨hl1, hl2, hck, hcy, hm1⟩ := HJ.out.layBoth hx hy hm
            rw [hm] at hj2 hn2
            rw [HNn.out] at hn2
            have HM : Hid (wt (restP x m ++ a') + wt (restP y m ++ b') < gk) := by
              show _ < _
              have h1 := HK.out
              have h2 := rest_wt (allOk_cons HJ.out.oka).1 (k := m) hm1
              have h3 := rest_wt (allOk_cons HJ.out.okb).1 (k := m) hm1
              simp only [wt] at h1
              rw [wt_append, wt_append]
              omega
            have HX : Hid ((∃ S' A', JOk (restP x m ++ a') (restP y m ++ b') (stepJ s (cut x 0 m) (cut y 0 m)) S' (L + 3) A') ∧ Jn (restP x m ++ a') (restP y m ++ b') (stepJ s (cut x 0 m) (cut y 0 m)) = jn) := ⟨hj2, hn2.symm⟩
            have HP : Hid (∀ wx, (cut y 0 m).k = 1 → JSt w.heap.size ra rb b1 b2 w wx (restP x m ++ a') (restP y m ++ b') s → Calls Tryd.prog 56 #[.pointer (some ⟨w.heap.size, 0, none⟩), .agg #[.int .i64 (cut x 0 m).k, .int .i64 (cut x 0 m).n, .string (cut x 0 m).t]] wx fun e w' => e = .returned (.tuple #[]) ∧ JSt w.heap.size ra rb b1 b2 w w' (restP x m ++ a') (restP y m ++ b') (stepJ s (cut x 0 m) (cut y 0 m))) := fun wx h1 h => by
              unfold stepJ; rw [if_pos h1]
              exact js_lay h HJ.out.s _ hl1.1 hl1.2.1 HJ.out.small.2.1 hl1.2.2
            have HQ : Hid (∀ wx, (cut y 0 m).k ≠ 1 → (cut x 0 m).k = 1 → JSt w.heap.size ra rb b1 b2 w wx (restP x m ++ a') (restP y m ++ b') s → Calls Tryd.prog 56 #[.pointer (some ⟨w.heap.size, 0, none⟩), .agg #[.int .i64 (cut y 0 m).k, .int .i64 (cut y 0 m).n, .string (cut y 0 m).t]] wx fun e w' => e = .returned (.tuple #[]) ∧ JSt w.heap.size ra rb b1 b2 w w' (restP x m ++ a') (restP y m ++ b') (stepJ s (cut x 0 m) (cut y 0 m))) := fun wx h1 h2 h => by
              unfold stepJ; rw [if_neg h1, if_pos h2]
              obtain ⟨k1, k2, k3⟩ := hl2 (by omega)
              exact js_lay h HJ.out.s _ k1 k2 HJ.out.small.2.1 k3
            have HZ : Hid ((cut y 0 m).k ≠ 1 → (cut x 0 m).k ≠ 1 → stepJ s (cut x 0 m) (cut y 0 m) = s) := fun h1 h2 => by
              unfold stepJ; rw [if_neg h1, if_neg h2]
            clear hD hB hx hy hm hj2 hn2 hl1 hl2 hck hcy hm1
            generalize cut x 0 m = cx at *
            generalize cut y 0 m = cy at *
            generalize stepJ s cx cy = s' at *
            generalize restP x m ++ a' = xa at *
            generalize restP y m ++ b' = yb at *
            go_wp2_with fail
            refine (js_kindA HST.out).mono ?_
            rintro e w1 ⟨rfl, st1⟩
            have HST1 : Hid (JSt w.heap.size ra rb b1 b2 w w1 (x :: a') (y :: b') s) := st1
            clear st1
            go_wp2_with fail
            refine (js_kindA HST1.out).mono ?_
            rintro e w2 ⟨rfl, st2⟩
            have HST2 : Hid (JSt w.heap.size ra rb b1 b2 w w2 (x :: a') (y :: b') s) := st2
            clear st2
            go_wp2_with fail
            refine (js_kindB HST2.out).mono ?_
            rintro e w3 ⟨rfl, st3⟩
            have HST3 : Hid (JSt w.heap.size ra rb b1 b2 w w3 (x :: a') (y :: b') s) := st3
            clear st3
            go_wp2_with fail
            refine (HAb.out w3 HST3.out).mono ?_
            rintro e w4 ⟨rfl, st4⟩
            have hb5 : Below w4.heap.size w4 ((w4.alloc (.cells #[.int .i64 cx.k, .int .i64 cx.n, .string cx.t] 61)).alloc (.cells #[.int .i64 cy.k, .int .i64 cy.n, .string cy.t] 61)) := ((Below.refl _ _).alloc (Nat.le_refl _) _).alloc (by simp) _
            have HST5 : Hid (JSt w.heap.size ra rb b1 b2 w ((w4.alloc (.cells #[.int .i64 cx.k, .int .i64 cx.n, .string cx.t] 61)).alloc (.cells #[.int .i64 cy.k, .int .i64 cy.n, .string cy.t] 61)) xa yb s) := st4.here hb5
            clear st4 hb5
            obtain ⟨ck, cn, ct⟩ := cx
            obtain ⟨dk, dn, dt⟩ := cy
            simp only at HST5 HP HQ HZ ⊢
            by_cases q1 : dk = 1
            · subst q1
              go_wp2_with fail
              refine (HP.out _ (by first | trivial | rfl) HST5.out).mono ?_
              rintro e w6 ⟨rfl, st6⟩
              have HST6 : Hid (JSt w.heap.size ra rb b1 b2 w w6 xa yb s') := st6
              clear st6
              go_wp2
              go_roundg (wt xa + wt yb)
              case measure => exact HM.out
              case rel => obtain ⟨⟨S', A', hjj⟩, hnn⟩ := HX.out; exact ⟨xa, yb, s', S', _, A', rfl, HST6.out, hjj, hnn⟩
            · have hd1 : (dk == 1) = false := by simpa using q1
              by_cases p1 : ck = 1
              · subst p1
                have HQ1 : Hid (dk ≠ 1) := q1
                clear q1
                go_wp2_with fail
                refine (HQ.out _ HQ1.out (by first | trivial | rfl) HST5.out).mono ?_
                rintro e w6 ⟨rfl, st6⟩
                have HST6 : Hid (JSt w.heap.size ra rb b1 b2 w w6 xa yb s') := st6
                clear st6
                go_wp2
                go_roundg (wt xa + wt yb)
                case measure => exact HM.out
                case rel => obtain ⟨⟨S', A', hjj⟩, hnn⟩ := HX.out; exact ⟨xa, yb, s', S', _, A', rfl, HST6.out, hjj, hnn⟩
              · have hc1 : (ck == 1) = false := by simpa using p1
                have HE : Hid (s' = s) := HZ.out q1 p1
                clear q1 p1
                go_wp2
                go_roundg (wt xa + wt yb)
                case measure => exact HM.out
                case rel => obtain ⟨⟨S', A', hjj⟩, hnn⟩ := HX.out; rw [HE.out] at hjj hnn; exact ⟨xa, yb, s, S', _, A', rfl, HST5.out, hjj, hnn⟩
end Go.Proofs.YtdlolnahbgecjaaDoor
namespace Go.Proofs.YtdlolnahbgecjaaDoor
open Go.RowKit
set_option linter.unusedVariables false

theorem check_good {N : Nat} {f c : Addr} (ps : List Pt) (ao : Option Addr) (b off cap : Nat) (w : World) (E : Env N f c w) (A : Arg w ps ao b off) (hg : Good ps = true) :
    Calls Tryd.prog 36 #[.slice ao ps.length cap] w fun e w' => e = .returned .nilIface ∧ Below w.heap.size w w' := by
  refine (check_any ps ao b off cap w E A).mono ?_
  rw [hg]
  rintro e w1 ⟨v, rfl, rfl, hb⟩
  exact ⟨rfl, hb⟩
theorem check_bad {N : Nat} {f c : Addr} (ps : List Pt) (ao : Option Addr) (b off cap : Nat) (w : World) (E : Env N f c w) (A : Arg w ps ao b off) (hg : Good ps = false) :
    Calls Tryd.prog 36 #[.slice ao ps.length cap] w fun e w' => ∃ t' p', e = .returned (.iface t' p') ∧ ErrIs w' (.iface t' p') (some c) ∧ Below w.heap.size w w' := by
  refine (check_any ps ao b off cap w E A).mono ?_
  rw [hg]
  rintro e w1 ⟨v, rfl, ⟨d, hv⟩, hb⟩
  obtain ⟨t', p', rfl⟩ := hv.shape
  exact ⟨t', p', rfl, ⟨d, hv⟩, hb⟩

set_option maxRecDepth 100000 in
set_option maxHeartbeats 2000000 in
theorem checkBoth_good {N : Nat} {f c : Addr} (ps qs : List Pt) (ao bo : Option Addr) (b1 o1 c1 b2 o2 c2 : Nat) (w : World) (E : Env N f c w) (A : Arg w ps ao b1 o1) (B : Arg w qs bo b2 o2) (hg : Good ps = true ∧ Good qs = true) :
    Calls Tryd.prog 47 #[.slice ao ps.length c1, .slice bo qs.length c2] w fun e w' => e = .returned .nilIface ∧ Below w.heap.size w w' := by
  have H1 := check_good ps ao b1 o1 c1 w E A hg.1
  have H2 : ∀ wx, Below w.heap.size w wx → _ := fun wx hb => check_good qs bo b2 o2 c2 wx (E.here hb) (B.below hb B.lt) hg.2
  have HC1 : Hid (Calls Tryd.prog 36 #[.slice ao ps.length c1] w fun e w' => e = .returned .nilIface ∧ Below w.heap.size w w') := H1
  have HC2 : Hid (∀ wx, Below w.heap.size w wx → Calls Tryd.prog 36 #[.slice bo qs.length c2] wx fun e w' => e = .returned .nilIface ∧ Below wx.heap.size wx w') := H2
  clear H1 H2 E A B hg
  go_enter Tryd.func47, Tryd.ntmps47
  go_wp2_with fail
  refine HC1.out.mono ?_
  rintro e w1 ⟨rfl, hb1⟩
  go_wp2_with fail
  refine (HC2.out w1 hb1).mono ?_
  rintro e w2 ⟨rfl, hb2⟩
  go_wp2
  go_ret
  exact ⟨rfl, hb1.trans (hb2.mono hb1.size)⟩

set_option maxRecDepth 100000 in
set_option maxHeartbeats 2000000 in
theorem checkBoth_bad {N : Nat} {f c : Addr} (ps qs : List Pt) (ao bo : Option Addr) (b1 o1 c1 b2 o2 c2 : Nat) (w : World) (E : Env N f c w) (A : Arg w ps ao b1 o1) (B : Arg w qs bo b2 o2) (hg : Good ps = false ∨ Good qs = false) :
    Calls Tryd.prog 47 #[.slice ao ps.length c1, .slice bo qs.length c2] w fun e w' => ∃ t' p', e = .returned (.iface t' p') ∧ ErrIs w' (.iface t' p') (some c) ∧ Below w.heap.size w w' := by
  cases g1 : Good ps with
  | false =>
    have HC1 : Hid (Calls Tryd.prog 36 #[.slice ao ps.length c1] w fun e w' => ∃ t' p', e = .returned (.iface t' p') ∧ ErrIs w' (.iface t' p') (some c) ∧ Below w.heap.size w w') := check_bad ps ao b1 o1 c1 w E A g1
    clear E A B hg g1
    go_enter Tryd.func47, Tryd.ntmps47
    go_wp2_with fail
    refine HC1.out.mono ?_
    rintro e w1 ⟨t', p', rfl, hv1, hb1⟩
    have HV1 : Hid (ErrIs w1 (.iface t' p') (some c)) := hv1
    clear hv1
    go_wp2
    go_ret
    exact ⟨_, _, rfl, errIs_wrap HV1.out rfl _, hb1.alloc hb1.size _⟩
  | true =>
    have g2 : Good qs = false := by rcases hg with h | h; · rw [g1] at h; cases h
                                    · exact h
    have HC1 : Hid (Calls Tryd.prog 36 #[.slice ao ps.length c1] w fun e w' => e = .returned .nilIface ∧ Below w.heap.size w w') := check_good ps ao b1 o1 c1 w E A g1
    have HC2 : Hid (∀ wx, Below w.heap.size w wx → Calls Tryd.prog 36 #[.slice bo qs.length c2] wx fun e w' => ∃ t' p', e = .returned (.iface t' p') ∧ ErrIs w' (.iface t' p') (some c) ∧ Below wx.heap.size wx w') := fun wx hb => check_bad qs bo b2 o2 c2 wx (E.here hb) (B.below hb B.lt) g2
    clear E A B hg g1 g2
    go_enter Tryd.func47, Tryd.ntmps47
    go_wp2_with fail
    refine HC1.out.mono ?_
    rintro e w1 ⟨rfl, hb1⟩
    go_wp2_with fail
    refine (HC2.out w1 hb1).mono ?_
    rintro e w2 ⟨t', p', rfl, hv2, hb2⟩
    have HV2 : Hid (ErrIs w2 (.iface t' p') (some c)) := hv2
    clear hv2
    go_wp2
    go_ret
    exact ⟨_, _, rfl, errIs_wrap HV2.out rfl _, (hb1.trans (hb2.mono hb1.size)).alloc (Nat.le_trans hb1.size hb2.size) _⟩

theorem size_good {N : Nat} {f c : Addr} (ps : List Pt) (ao : Option Addr) (b off cap : Nat) (w : World) (E : Env N f c w) (A : Arg w ps ao b off) (hg : Good ps = true) {s : Int} (hf : fromTo ps ps.length = some s) :
    Calls Tryd.prog 37 #[.slice ao ps.length cap] w fun e w' => e = .returned (.tuple #[.int .i64 s, .int .i64 (madeTo ps ps.length), .nilIface]) ∧ Below w.heap.size w w' := by
  refine (size_any ps ao b off cap w E (A.lst hg) A.ao A.cells A.lt).mono ?_
  rintro e w2 ⟨o, m, v, rfl, ⟨h, rfl, rfl⟩ | ⟨h, _⟩, hb⟩
  · rw [hf] at h; simp at h; subst h; exact ⟨rfl, hb⟩
  · rw [hf] at h; simp at h
theorem size_bad {N : Nat} {f c : Addr} (ps : List Pt) (ao : Option Addr) (b off cap : Nat) (w : World) (E : Env N f c w) (A : Arg w ps ao b off) (hg : Good ps = true) (hf : fromTo ps ps.length = none) :
    Calls Tryd.prog 37 #[.slice ao ps.length cap] w fun e w' => ∃ t' p', e = .returned (.tuple #[.int .i64 0, .int .i64 0, .iface t' p']) ∧ ErrIs w' (.iface t' p') (some f) ∧ Below w.heap.size w w' := by
  refine (size_any ps ao b off cap w E (A.lst hg) A.ao A.cells A.lt).mono ?_
  rintro e w2 ⟨o, m, v, rfl, h | ⟨_, rfl, rfl, ⟨d, hv⟩⟩, hb⟩
  · rw [hf] at h; simp at h
  · obtain ⟨t', p', rfl⟩ := hv.shape
    exact ⟨t', p', rfl, ⟨d, hv⟩, hb⟩
theorem rr_start {w W : World} {ps : List Pt} {ao : Option Addr} {b off cap rb : Nat} (A : Arg w ps ao b off) (hg : Good ps = true) (hb : Below w.heap.size w W) (R : Rd W rb (.slice ao ps.length cap) 0 0) (hr : w.heap.size ≤ rb) :
    ∃ b', Rr W.heap.size W rb b' ps ∧ (b' < w.heap.size ∨ b' = rb) := by
  have hsz : ∀ i, psz (nth ps i) ≤ 9223372036854775807 := fun i => by
    by_cases hi : i < ps.length
    · have hts := size_le_text ps i hi
      have htx := A.text
      exact (psz_ok (good_nth hg i hi) (A.num i).2 (by omega)).2
    · simp [nth, psz, List.getD, List.getElem?_eq_none (by omega : ps.length ≤ i)]
  have hu : (0 : Nat) < ps.length → 0 < pl (nth ps 0) := fun h => by have := pl_pos (nth_ok (good_allOk hg) h); omega
  rcases Nat.eq_zero_or_pos ps.length with hz | hz
  · exact ⟨rb, ⟨⟨off, cap, ao, ps, 0, 0, R, by omega, hu, by rw [remL_zero (good_allOk hg)]; rfl, fun i hi => by omega, fun h => by omega, good_allOk hg, A.len, hsz⟩, R.lt, Nat.le_refl _⟩, Or.inr rfl⟩
  · have hlt := A.lt hz
    have hs := hb.size
    exact ⟨b, ⟨⟨off, cap, ao, ps, 0, 0, R, by omega, hu, by rw [remL_zero (good_allOk hg)]; rfl, A.cells.below hb A.lt, fun h => ⟨A.ao h, by omega, by omega⟩, good_allOk hg, A.len, hsz⟩, R.lt, Nat.le_refl _⟩, Or.inl hlt⟩

def jErr (ps qs : List Pt) (f c : Addr) : Option Addr := if jCode ps qs = 0 then none else if jCode ps qs = 1 then some c else some f
theorem jErr_or (ps qs : List Pt) (f c : Addr) : jErr ps qs f c = none ∨ jErr ps qs f c = some f ∨ jErr ps qs f c = some c := by
  unfold jErr; split
  · exact Or.inl rfl
  · split
    · exact Or.inr (Or.inr rfl)
    · exact Or.inr (Or.inl rfl)
theorem jCode_or (ps qs : List Pt) : jCode ps qs = 0 ∨ jCode ps qs = 1 ∨ jCode ps qs = 2 := by
  unfold jCode; split
  · simp
  · split
    · simp
    · split <;> simp
theorem jErr_num (ps qs : List Pt) (f c : Addr) (h : f ≠ c) : numOf f c (jErr ps qs f c) = jCode ps qs := by
  rcases jCode_or ps qs with e | e | e <;> simp [jErr, e, numOf, h]
theorem jCode_zero {ps qs : List Pt} (g1 : Good ps = true) (g2 : Good qs = true) {s : Int} (hf : fromTo ps ps.length = some s) (hs : 0 ≤ s) (h : fitErr qs (madeTo ps ps.length) ⟨0, 0, none⟩ ⟨1, 0, none⟩ = none) : jCode ps qs = 0 := by
  unfold fitErr at h
  rw [if_neg (by simp [g2])] at h
  have hF : From ps = s := by simp [From, hf]
  unfold jCode
  rw [if_neg (by simp [g1, g2]), if_neg (by omega), if_neg (by intro h'; rw [if_pos h'] at h; cases h)]
end Go.Proofs.YtdlolnahbgecjaaDoor
namespace Go.Proofs.YtdlolnahbgecjaaDoor
open Go.RowKit
set_option linter.unusedVariables false

theorem wr_two_below {ra rb B : Nat} {w w' : World} (h : Wr (fun k => k = ra ∨ k = rb) w w') (h1 : B ≤ ra) (h2 : B ≤ rb) (h3 : B ≤ w.heap.size) : Below B w w' := h.below (fun k hk e => by omega) h3

set_option maxRecDepth 100000 in
set_option maxHeartbeats 4000000 in
theorem join_any {N : Nat} {f c : Addr} (ps qs : List Pt) (ao bo : Option Addr) (b1 o1 c1 b2 o2 c2 : Nat) (w : World) (E : Env N f c w) (A : Arg w ps ao b1 o1) (B : Arg w qs bo b2 o2) :
    Calls Tryd.prog 32 #[.slice ao ps.length c1, .slice bo qs.length c2] w fun e w' => ∃ r v, e = .returned (.tuple #[r, v]) ∧ w'.ownsRow w.heap.size 61 3 r (jOut ps qs).length (cellsOf (jOut ps qs)) ∧ ErrIs w' v (jErr ps qs f c) ∧ Below w.heap.size w w' := by
  have HE : Hid (Env N f c w) := E
  by_cases hg : Good ps = false ∨ Good qs = false
  · have hc : jCode ps qs = 1 := by unfold jCode; rw [if_pos hg]
    have HO : Hid (jOut ps qs = []) := by show _ = _; unfold jOut; rw [if_neg (by omega)]
    have HR : Hid (jErr ps qs f c = some c) := by show _ = _; unfold jErr; rw [if_neg (by omega), if_pos hc]
    have HC := checkBoth_bad ps qs ao bo b1 o1 c1 b2 o2 c2 w E A B hg
    have HC' : Hid (Calls Tryd.prog 47 #[.slice ao ps.length c1, .slice bo qs.length c2] w fun e w' => ∃ t' p', e = .returned (.iface t' p') ∧ ErrIs w' (.iface t' p') (some c) ∧ Below w.heap.size w w') := HC
    clear HC E A B hg hc
    rw [HO.out, HR.out]
    go_enter Tryd.func32, Tryd.ntmps32
    go_wp2_with fail
    refine HC'.out.mono ?_
    rintro e w1 ⟨t', p', rfl, hv1, hb1⟩
    have HV1 : Hid (ErrIs w1 (.iface t' p') (some c)) := hv1
    clear hv1
    go_wp2
    go_ret2
    exact ⟨.slice none 0 0, .iface 76 (.pointer (some ⟨w1.heap.size, 0, none⟩)), rfl, World.ownsRow_nil _ _ _ _, errIs_wrap HV1.out rfl _, hb1.alloc hb1.size _⟩
  · have g1 : Good ps = true := by cases e : Good ps with | true => rfl | false => exact absurd (Or.inl e) hg
    have g2 : Good qs = true := by cases e : Good qs with | true => rfl | false => exact absurd (Or.inr e) hg
    have HC : Hid (Calls Tryd.prog 47 #[.slice ao ps.length c1, .slice bo qs.length c2] w fun e w' => e = .returned .nilIface ∧ Below w.heap.size w w') := checkBoth_good ps qs ao bo b1 o1 c1 b2 o2 c2 w E A B ⟨g1, g2⟩
    cases hf : fromTo ps ps.length with
    | none =>
      have hF : From ps = -1 := by unfold From; rw [hf]; rfl
      have hc : jCode ps qs = 2 := by unfold jCode; rw [if_neg hg, if_pos (by omega)]
      have HO : Hid (jOut ps qs = []) := by show _ = _; unfold jOut; rw [if_neg (by omega)]
      have HR : Hid (jErr ps qs f c = some f) := by show _ = _; unfold jErr; rw [if_neg (by omega), if_neg (by omega)]
      have HS : Hid (∀ wx, Below w.heap.size w wx → Calls Tryd.prog 37 #[.slice ao ps.length c1] wx fun e w' => ∃ t' p', e = .returned (.tuple #[.int .i64 0, .int .i64 0, .iface t' p']) ∧ ErrIs w' (.iface t' p') (some f) ∧ Below wx.heap.size wx w') := fun wx hb => size_bad ps ao b1 o1 c1 wx (E.here hb) (A.below hb A.lt) g1 hf
      clear E A B hg hc g1 g2 hf hF
      rw [HO.out, HR.out]
      go_enter Tryd.func32, Tryd.ntmps32
      go_wp2_with fail
      refine HC.out.mono ?_
      rintro e w1 ⟨rfl, hb1⟩
      go_wp2_with fail
      refine (HS.out w1 hb1).mono ?_
      rintro e w2 ⟨t', p', rfl, hv2, hb2⟩
      have HV2 : Hid (ErrIs w2 (.iface t' p') (some f)) := hv2
      clear hv2
      go_wp2
      go_ret2
      exact ⟨.slice none 0 0, .iface 76 (.pointer (some ⟨w2.heap.size, 0, none⟩)), rfl, World.ownsRow_nil _ _ _ _, errIs_wrap HV2.out rfl _, (hb1.trans (hb2.mono hb1.size)).alloc (Nat.le_trans hb1.size hb2.size) _⟩
    | some s =>
      have hF : From ps = s := by unfold From; rw [hf]; rfl
      have hsb := made_bd (A.nn g1) _ _ hf
      have htx := A.text
      have HS : Hid (∀ wx, Below w.heap.size w wx → Calls Tryd.prog 37 #[.slice ao ps.length c1] wx fun e w' => e = .returned (.tuple #[.int .i64 s, .int .i64 (madeTo ps ps.length), .nilIface]) ∧ Below wx.heap.size wx w') := fun wx hb => size_good ps ao b1 o1 c1 wx (E.here hb) (A.below hb A.lt) g1 hf
      have HFit := fun wx (hb : Below w.heap.size w wx) => fit_any qs bo b2 o2 c2 (madeTo ps ps.length) wx (E.here hb) (B.below hb B.lt) (by omega) (by omega)
      by_cases hfit : From qs < 0 ∨ From qs ≠ madeTo ps ps.length
      · have hc : jCode ps qs = 2 := by unfold jCode; rw [if_neg hg, if_neg (by omega), if_pos hfit]
        have HO : Hid (jOut ps qs = []) := by show _ = _; unfold jOut; rw [if_neg (by omega)]
        have HR : Hid (jErr ps qs f c = some f) := by show _ = _; unfold jErr; rw [if_neg (by omega), if_neg (by omega)]
        have hfe : fitErr qs (madeTo ps ps.length) f c = some f := by unfold fitErr; rw [if_neg (by simp [g2]), if_pos hfit]
        have hfv : fitVal qs (madeTo ps ps.length) = 0 := by unfold fitVal refFit; rw [if_neg (by simp [g2]), if_pos hfit]
        have HT : Hid (∀ wx, Below w.heap.size w wx → Calls Tryd.prog 25 #[.slice bo qs.length c2, .int .i64 (madeTo ps ps.length)] wx fun e w' => ∃ t' p', e = .returned (.tuple #[.int .i64 0, .iface t' p']) ∧ ErrIs w' (.iface t' p') (some f) ∧ Below wx.heap.size wx w') := fun wx hb => by
          refine (HFit wx hb).mono ?_
          rw [hfe, hfv]
          rintro e w1 ⟨v, rfl, ⟨d, hv⟩, hb⟩
          obtain ⟨t', p', rfl⟩ := hv.shape
          exact ⟨t', p', rfl, ⟨d, hv⟩, hb⟩
        clear HFit E A B hg hc g1 g2 hf hF hsb htx hfit hfe hfv
        rw [HO.out, HR.out]
        generalize madeTo ps ps.length = mm at *
        go_enter Tryd.func32, Tryd.ntmps32
        go_wp2_with fail
        refine HC.out.mono ?_
        rintro e w1 ⟨rfl, hb1⟩
        go_wp2_with fail
        refine (HS.out w1 hb1).mono ?_
        rintro e w2 ⟨rfl, hb2⟩
        have hbw2 : Below w.heap.size w w2 := hb1.trans (hb2.mono hb1.size)
        go_wp2_with fail
        refine (HT.out w2 hbw2).mono ?_
        rintro e w3 ⟨t', p', rfl, hv3, hb3⟩
        have HV3 : Hid (ErrIs w3 (.iface t' p') (some f)) := hv3
        clear hv3
        go_wp2
        go_ret2
        exact ⟨.slice none 0 0, .iface 76 (.pointer (some ⟨w3.heap.size, 0, none⟩)), rfl, World.ownsRow_nil _ _ _ _, errIs_wrap HV3.out rfl _, (hbw2.trans (hb3.mono hbw2.size)).alloc (Nat.le_trans hbw2.size hb3.size) _⟩
      · have hc : jCode ps qs = 0 := by unfold jCode; rw [if_neg hg, if_neg (by omega), if_neg hfit]
        have HO : Hid (jOut ps qs = settleP (Jn ps qs ws0)) := by show _ = _; unfold jOut; rw [if_pos hc]
        have HR : Hid (jErr ps qs f c = none) := by show _ = _; unfold jErr; rw [if_pos hc]
        have hfe : fitErr qs (madeTo ps ps.length) f c = none := by unfold fitErr; rw [if_neg (by simp [g2]), if_neg hfit]
        have HT : Hid (∀ wx, Below w.heap.size w wx → Calls Tryd.prog 25 #[.slice bo qs.length c2, .int .i64 (madeTo ps ps.length)] wx fun e w' => e = .returned (.tuple #[.int .i64 (fitVal qs (madeTo ps ps.length)), .nilIface]) ∧ Below wx.heap.size wx w') := fun wx hb => by
          refine (HFit wx hb).mono ?_
          rw [hfe]
          rintro e w1 ⟨v, rfl, rfl, hb⟩
          exact ⟨rfl, hb⟩
        have HJ : Hid (JOk ps qs ws0 0 0 0) := (jok_start A B hc).1
        have HD : Hid (∀ wx, Below w.heap.size w wx → Calls Tryd.prog 48 #[.pointer (some ⟨wx.heap.size, 0, none⟩), .pointer (some ⟨wx.heap.size + 1, 0, none⟩)] ((wx.alloc (.cells #[.slice ao ps.length c1, .int .i64 0, .int .i64 0] 110)).alloc (.cells #[.slice bo qs.length c2, .int .i64 0, .int .i64 0] 110)) fun e w' => ∃ v, e = .returned v ∧ w'.ownsRow w.heap.size 61 3 v (settleP (Jn ps qs ws0)).length (cellsOf (settleP (Jn ps qs ws0))) ∧ Below w.heap.size w w') := fun wx hb => by
          have hs := hb.size
          have hb2 : Below w.heap.size w ((wx.alloc (.cells #[.slice ao ps.length c1, .int .i64 0, .int .i64 0] 110)).alloc (.cells #[.slice bo qs.length c2, .int .i64 0, .int .i64 0] 110)) := (hb.alloc hs _).alloc (by simp; omega) _
          obtain ⟨d1, r1, q1⟩ := rr_start (cap := c1) (rb := wx.heap.size) A g1 hb2 ((Blk.new wx _ 110).alloc _) hs
          obtain ⟨d2, r2, q2⟩ := rr_start (cap := c2) (rb := wx.heap.size + 1) B g2 hb2 (Blk.new' _ 110 (by simp)) (by omega)
          refine (joined_any wx.heap.size (wx.heap.size + 1) d1 d2 _ ps qs r1 r2 (by omega) (by omega) (by omega) HJ.out).mono ?_
          rintro e w' ⟨v, rfl, ho, hw⟩
          exact ⟨v, rfl, ownsRow_weak' ho hb2.size, hb2.trans (wr_two_below hw hs (by omega) hb2.size)⟩
        clear HFit E A B hg hc g1 g2 hf hF hsb htx hfit hfe
        rw [HO.out, HR.out]
        generalize fitVal qs (madeTo ps ps.length) = fv at *
        generalize madeTo ps ps.length = mm at *
        generalize settleP (Jn ps qs ws0) = jo at *
        go_enter Tryd.func32, Tryd.ntmps32
        go_wp2_with fail
        refine HC.out.mono ?_
        rintro e w1 ⟨rfl, hb1⟩
        go_wp2_with fail
        refine (HS.out w1 hb1).mono ?_
        rintro e w2 ⟨rfl, hb2⟩
        have hbw2 : Below w.heap.size w w2 := hb1.trans (hb2.mono hb1.size)
        go_wp2_with fail
        refine (HT.out w2 hbw2).mono ?_
        rintro e w3 ⟨rfl, hb3⟩
        have hbw3 : Below w.heap.size w w3 := hbw2.trans (hb3.mono hbw2.size)
        go_wp2_with fail
        refine (read_any ao ps.length c1 w3).mono ?_
        rintro e w4 ⟨rfl, rfl⟩
        go_wp2_with fail
        refine (read_any bo qs.length c2 _).mono ?_
        rintro e w5 ⟨rfl, rfl⟩
        go_wp2_with fail
        refine (HD.out w3 hbw3).mono ?_
        rintro e w6 ⟨v, rfl, ho, hb6⟩
        have HF : Hid (w6.ownsRow w.heap.size 61 3 v jo.length (cellsOf jo) ∧ Below w.heap.size w w6) := ⟨ho, hb6⟩
        clear ho hb6
        go_wp2
        go_ret2
        exact ⟨v, .nilIface, rfl, HF.out.1, rfl, HF.out.2⟩

set_option maxRecDepth 100000 in
set_option maxHeartbeats 2000000 in
theorem joinF_any {N : Nat} {f c : Addr} (ps qs : List Pt) (ao bo : Option Addr) (b1 o1 c1 b2 o2 c2 : Nat) (w : World) (E : Env N f c w) (A : Arg w ps ao b1 o1) (B : Arg w qs bo b2 o2) :
    Calls Tryd.prog 20 #[.slice ao ps.length c1, .slice bo qs.length c2] w fun e w' => ∃ r, e = .returned (.tuple #[r, .int .i64 (jCode ps qs)]) ∧ w'.ownsRow w.heap.size 61 3 r (jOut ps qs).length (cellsOf (jOut ps qs)) ∧ Below w.heap.size w w' := by
  have HF : Hid (Calls Tryd.prog 32 #[.slice ao ps.length c1, .slice bo qs.length c2] w fun e w' => ∃ r v, e = .returned (.tuple #[r, v]) ∧ w'.ownsRow w.heap.size 61 3 r (jOut ps qs).length (cellsOf (jOut ps qs)) ∧ ErrIs w' v (jErr ps qs f c) ∧ Below w.heap.size w w') := join_any ps qs ao bo b1 o1 c1 b2 o2 c2 w E A B
  have HN : Hid (numOf f c (jErr ps qs f c) = jCode ps qs) := jErr_num ps qs f c E.ne
  have HE : Hid (Env N f c w) := E
  have HR : Hid (jErr ps qs f c = none ∨ jErr ps qs f c = some f ∨ jErr ps qs f c = some c) := jErr_or ps qs f c
  clear E A B
  rw [← HN.out]
  generalize jErr ps qs f c = je at *
  generalize jOut ps qs = jo at *
  go_enter Tryd.func20, Tryd.ntmps20
  go_wp2_with fail
  refine HF.out.mono ?_
  rintro e w1 ⟨r, v, rfl, hO, hv, hb1⟩
  have HV : Hid (ErrIs w1 v je) := hv
  have HO : Hid (w1.ownsRow w.heap.size 61 3 r jo.length (cellsOf jo)) := hO
  clear hv hO
  go_wp2_with fail
  refine (number_any v je w1 (HE.out.here hb1) HR.out HV.out).mono ?_
  rintro e w2 ⟨rfl, hww⟩
  obtain rfl := hww.symm
  go_wp2
  go_ret2
  exact ⟨r, rfl, HO.out, hb1⟩
end Go.Proofs.YtdlolnahbgecjaaDoor
