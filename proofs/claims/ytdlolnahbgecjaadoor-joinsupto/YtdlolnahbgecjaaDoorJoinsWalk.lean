import Derived.Test.YtdlolnahbgecjaaDoorRefJoin2
import Derived.Test.YtdlolnahbgecjaaDoorJoinG
import Derived.Test.YtdlolnahbgecjaaDoorShortsWalk
namespace Go.Proofs.YtdlolnahbgecjaaDoor
open Go.RowKit
set_option linter.unusedVariables false

theorem JOk.fin : ∀ (n : Nat) (a b : List Pt) (s : WS) (S : Int) (L A : Nat), wt a + wt b ≤ n → JOk a b s S L A → ∃ S' L' A', SOk (Jn a b s) S' L' A' ∧ L' ≤ 10000000
  | n, [], [], s, S, L, A, _, h => ⟨S, L, A, by rw [Jn_nil]; exact h.s, by have := h.len; omega⟩
  | 0, x :: a, b, s, S, L, A, hn, h => by simp only [wt] at hn; omega
  | 0, [], y :: b, s, S, L, A, hn, h => by simp only [wt] at hn; omega
  | n + 1, [], y :: b, s, S, L, A, hn, h => by
    have hy := h.left
    rw [Jn_add h.oka h.okb hy]
    have := wt_cons y b
    exact JOk.fin n [] b _ _ _ _ (by omega) (h.add hy)
  | n + 1, x :: a, b, s, S, L, A, hn, h => by
    by_cases hx : x.k = 3
    · rw [Jn_drop h.oka h.okb hx]
      have := wt_cons x a
      exact JOk.fin n a b _ _ _ _ (by omega) (h.drop hx)
    · cases b with
      | nil => exact absurd h.right hx
      | cons y b =>
        by_cases hy : y.k = 2
        · rw [Jn_add h.oka h.okb hy]
          have := wt_cons y b
          exact JOk.fin n (x :: a) b _ _ _ _ (by omega) (h.add hy)
        · rw [Jn_both h.oka h.okb hx hy]
          obtain ⟨S', A', h'⟩ := h.both hx hy
          have p1 := pl_pos (allOk_cons h.oka).1
          have p2 := pl_pos (allOk_cons h.okb).1
          have h2 := rest_wt (allOk_cons h.oka).1 (k := min (pl x) (pl y)) (by omega)
          have h3 := rest_wt (allOk_cons h.okb).1 (k := min (pl x) (pl y)) (by omega)
          simp only [wt] at hn
          exact JOk.fin n _ _ _ _ _ _ (by rw [wt_append, wt_append]; omega) h'
theorem jOut_len {w : World} {ps qs : List Pt} {ao bo : Option Addr} {b1 o1 b2 o2 : Nat} (A : Arg w ps ao b1 o1) (B : Arg w qs bo b2 o2) : (jOut ps qs).length ≤ 100000000 := by
  unfold jOut
  split
  · rename_i h
    obtain ⟨S', L', A', h1, h2⟩ := JOk.fin _ _ _ _ _ _ _ (Nat.le_refl _) (jok_start A B h).1
    have := h1.p.len
    omega
  · simp
theorem jCode_bd (ps qs : List Pt) : 0 ≤ jCode ps qs ∧ jCode ps qs ≤ 100 := by rcases jCode_or ps qs with h | h | h <;> omega

set_option maxRecDepth 100000 in
set_option maxHeartbeats 2000000 in
theorem joins_walk {N : Nat} {f c : Addr} (ps qs : List Pt) (ao bo : Option Addr) (b1 o1 c1 b2 o2 c2 : Nat) (w : World) (E : Env N f c w) (A : Arg w ps ao b1 o1) (B : Arg w qs bo b2 o2) (hc1 : ps.length ≤ c1) (hc2 : qs.length ≤ c2) :
    Calls Tryd.prog 6 #[.slice ao ps.length c1, .slice bo qs.length c2] w fun e w' => e = .returned (.bool true) ∧ Below w.heap.size w w' := by
  have HE : Hid (Env N f c w) := E
  have HA : Hid (Arg w ps ao b1 o1) := A
  have HB : Hid (Arg w qs bo b2 o2) := B
  have hc := jCode_bd ps qs
  have HLen : Hid ((jOut ps qs).length ≤ 100000000) := jOut_len A B
  have HF : Hid (∀ wx ao' g cap' bo' h dap', Env N f c wx → Arg wx ps ao' g 0 → Arg wx qs bo' h 0 → Calls Tryd.prog 20 #[.slice ao' ps.length cap', .slice bo' qs.length dap'] wx fun e w' => ∃ r, e = .returned (.tuple #[r, .int .i64 (jCode ps qs)]) ∧ w'.ownsRow wx.heap.size 61 3 r (jOut ps qs).length (cellsOf (jOut ps qs)) ∧ Below wx.heap.size wx w') := fun wx ao' g cap' bo' h dap' Ex Ax Bx => joinF_any ps qs ao' bo' g 0 cap' h 0 dap' wx Ex Ax Bx
  have HR : Hid (∀ wx, Arg wx ps ao b1 o1 → Arg wx qs bo b2 o2 → Calls Tryd.prog 21 #[.slice ao ps.length c1, .slice bo qs.length c2] wx fun e w' => ∃ v, e = .returned (.tuple #[v, .int .i64 (jCode ps qs)]) ∧ Own w' wx.heap.size v (jOut ps qs) ∧ Below wx.heap.size wx w') := fun wx Ax Bx => refJoin_any ps qs ao bo b1 o1 c1 b2 o2 c2 wx Ax Bx hc1 hc2
  have HL : Hid (ps.length ≤ 100000000 ∧ qs.length ≤ 100000000) := by have := A.len; have := B.len; exact ⟨by omega, by omega⟩
  generalize jOut ps qs = so at *
  generalize jCode ps qs = r2 at *
  clear E A B hc1 hc2
  go_enter Tryd.func6, Tryd.ntmps6
  go_wp2_with fail
  refine (ours_arg ps ao b1 o1 c1 w HA.out).mono ?_
  rintro e w1 ⟨ao', g, cap', rfl, hA1, hg1, ho1, hb1⟩
  have HA1 : Hid (Arg w1 ps ao' g 0) := hA1
  have HB1 : Hid (Arg w1 qs bo b2 o2) := HB.out.below hb1 HB.out.lt
  clear hA1 hg1 ho1
  go_wp2_with fail
  refine (ours_arg qs bo b2 o2 c2 w1 HB1.out).mono ?_
  rintro e w2 ⟨bo', h, dap', rfl, hB2, hg2, ho2, hb2⟩
  have HA2 : Hid (Arg w2 ps ao' g 0) := HA1.out.below hb2 HA1.out.lt
  have HB2 : Hid (Arg w2 qs bo' h 0) := hB2
  have hbw2 : Below w.heap.size w w2 := hb1.trans (hb2.mono hb1.size)
  clear hB2 hg2 ho2
  go_wp2_with fail
  refine (HF.out w2 ao' g cap' bo' h dap' (HE.out.here hbw2) HA2.out HB2.out).mono ?_
  rintro e w3 ⟨s, rfl, hs3, hb3⟩
  have HS : Hid (w3.ownsRow w2.heap.size 61 3 s so.length (cellsOf so)) := hs3
  have hbw3 : Below w.heap.size w w3 := hbw2.trans (hb3.mono hbw2.size)
  have HA3 : Hid (Arg w3 ps ao' g 0) := HA2.out.below hb3 HA2.out.lt
  have HB3 : Hid (Arg w3 qs bo' h 0) := HB2.out.below hb3 HB2.out.lt
  clear hs3
  go_wp2_with fail
  refine (HF.out w3 ao' g cap' bo' h dap' (HE.out.here hbw3) HA3.out HB3.out).mono ?_
  rintro e w4 ⟨o, rfl, ho4, hb4⟩
  have HO : Hid (w4.ownsRow w3.heap.size 61 3 o so.length (cellsOf so)) := ho4
  have hbw4 : Below w.heap.size w w4 := hbw3.trans (hb4.mono hbw3.size)
  clear ho4
  go_wp2_with fail
  refine (spoil_any w3.heap.size w4 o so.length (cellsOf so) HLen.out HO.out).mono ?_
  rintro e w5 ⟨rfl, hwr⟩
  have hb5 : Below w3.heap.size w3 w5 := hb4.trans (spoil_below HO.out hwr (Nat.le_refl _) hb4.size)
  have hbw5 : Below w.heap.size w w5 := hbw3.trans (hb5.mono hbw3.size)
  clear hwr
  go_wp2_with fail
  refine (HR.out w5 (HA.out.below hbw5 HA.out.lt) (HB.out.below hbw5 HB.out.lt)).mono ?_
  rintro e w6 ⟨t, rfl, ht6, hb6⟩
  have HT : Hid (Own w6 w5.heap.size t so) := ht6
  have hb36 : Below w3.heap.size w3 w6 := hb5.trans (hb6.mono hb5.size)
  have hbw6 : Below w.heap.size w w6 := hbw3.trans (hb36.mono hbw3.size)
  have HA6 : Hid (Arg w6 ps ao' g 0) := HA3.out.below hb36 HA3.out.lt
  have HB6 : Hid (Arg w6 qs bo' h 0) := HB3.out.below hb36 HB3.out.lt
  have HC6 : Hid (Arg w6 ps ao b1 o1) := HA.out.below hbw6 HA.out.lt
  have HD6 : Hid (Arg w6 qs bo b2 o2) := HB.out.below hbw6 HB.out.lt
  clear ht6
  go_wp2_with fail
  refine (same_any ps ao' ao g 0 b1 o1 cap' c1 w6 HL.out.1 (fun h => ⟨HA6.out.ao h, HA6.out.lt h⟩) (fun h => ⟨HC6.out.ao h, HC6.out.lt h⟩) HA6.out.cells HC6.out.cells).mono ?_
  rintro e w7 ⟨rfl, hb7⟩
  have HB7 : Hid (Arg w7 qs bo' h 0) := HB6.out.below hb7 HB6.out.lt
  have HD7 : Hid (Arg w7 qs bo b2 o2) := HD6.out.below hb7 HD6.out.lt
  go_wp2_with fail
  refine (same_any qs bo' bo h 0 b2 o2 dap' c2 w7 HL.out.2 (fun h => ⟨HB7.out.ao h, HB7.out.lt h⟩) (fun h => ⟨HD7.out.ao h, HD7.out.lt h⟩) HB7.out.cells HD7.out.cells).mono ?_
  rintro e w8 ⟨rfl, hb8⟩
  have hb68 : Below w6.heap.size w6 w8 := hb7.trans (hb8.mono hb7.size)
  have hb38 : Below w3.heap.size w3 w8 := hb36.trans (hb68.mono hb36.size)
  obtain ⟨so1, sg, scap, hsv, hsa, hsc, _⟩ := Owns.form (show Owns w8 w2.heap.size s so from own_here HS.out hb38)
  obtain ⟨to1, tg, tcap, htv, hta, htc⟩ := Own.form (show Own w8 w5.heap.size t so from own_here HT.out hb68)
  subst hsv htv
  go_wp2_with fail
  refine (same_any so so1 to1 sg 0 tg 0 scap tcap w8 HLen.out (fun h => ⟨(hsa h).1, (hsa h).2.2⟩) hta hsc htc).mono ?_
  rintro e w9 ⟨rfl, hb9⟩
  clear hsa hsc hta htc
  go_wp2_with (go_at_call 13; refine (num_any r2 w9 hc.1 hc.2).mono ?_; rintro e w10 ⟨rfl, hww⟩; obtain rfl := hww.symm)
  go_ret
  have hbw8 : Below w.heap.size w w8 := hbw6.trans (hb68.mono hbw6.size)
  exact ⟨rfl, hbw8.trans (hb9.mono hbw8.size)⟩
end Go.Proofs.YtdlolnahbgecjaaDoor
