import Derived.Test.YtdlolnahbgecjaaDoorTurnG
namespace Go.Proofs.YtdlolnahbgecjaaDoor
open Go.RowKit
set_option linter.unusedVariables false

/-- what lies where in the reference's turn -/
structure RT (w0 wr : World) (vx vy vs vt : Value) (a b : List Pt) (s t : WS) (ga gb : Nat) : Prop where
  s : RJ w0 wr vx vy vs a b s ga gb
  t : RJ w0 wr vx vy vt a b t ga gb
  ap : ∀ k, vs.ownBlock = some k → vt.ownBlock ≠ some k
theorem RT.swap {w0 wr : World} {vx vy vs vt : Value} {a b : List Pt} {s t : WS} {ga gb : Nat} (h : RT w0 wr vx vy vs vt a b s t ga gb) : RT w0 wr vx vy vt vs a b t s ga gb := ⟨h.t, h.s, fun k h1 h2 => h.ap k h2 h1⟩
theorem RT.here {w0 wr w' : World} {vx vy vs vt : Value} {a b : List Pt} {s t : WS} {ga gb : Nat} (h : RT w0 wr vx vy vs vt a b s t ga gb) (hb : Below wr.heap.size wr w') : RT w0 w' vx vy vs vt a b s t ga gb := ⟨h.s.here hb, h.t.here hb, h.ap⟩
theorem RT.tailA {w0 wr : World} {vy vs vt : Value} {a b : List Pt} {x : Pt} {s t : WS} {ga gb off cap : Nat} (h : RT w0 wr (.slice (some ⟨ga, off, none⟩) (a.length + 1) cap) vy vs vt (x :: a) b s t ga gb) (hc : cap ≠ 1) : RT w0 wr (.slice (some ⟨ga, off + 3, none⟩) a.length (cap - 1)) vy vs vt a b s t ga gb := ⟨h.s.tailA hc, h.t.tailA hc, h.ap⟩
theorem RT.tailB {w0 wr : World} {vx vs vt : Value} {a b : List Pt} {y : Pt} {s t : WS} {ga gb off cap : Nat} (h : RT w0 wr vx (.slice (some ⟨gb, off, none⟩) (b.length + 1) cap) vs vt a (y :: b) s t ga gb) (hc : cap ≠ 1) : RT w0 wr vx (.slice (some ⟨gb, off + 3, none⟩) b.length (cap - 1)) vs vt a b s t ga gb := ⟨h.s.tailB hc, h.t.tailB hc, h.ap⟩
theorem RT.tailA1 {w0 wr : World} {vx vy vs vt : Value} {b : List Pt} {x : Pt} {s t : WS} {ga gb : Nat} (h : RT w0 wr vx vy vs vt [x] b s t ga gb) (ao : Option Addr) (cap : Nat) : RT w0 wr (.slice ao 0 cap) vy vs vt [] b s t ga gb := ⟨h.s.tailA1 ao cap, h.t.tailA1 ao cap, h.ap⟩
theorem RT.tailB1 {w0 wr : World} {vx vy vs vt : Value} {a : List Pt} {y : Pt} {s t : WS} {ga gb : Nat} (h : RT w0 wr vx vy vs vt a [y] s t ga gb) (ao : Option Addr) (cap : Nat) : RT w0 wr vx (.slice ao 0 cap) vs vt a [] s t ga gb := ⟨h.s.tailB1 ao cap, h.t.tailB1 ao cap, h.ap⟩
theorem rt_pushS {w0 wr : World} {vx vy vs vt : Value} {a b : List Pt} {s t : WS} {ga gb : Nat} {S : Int} {L A : Nat} (h : RT w0 wr vx vy vs vt a b s t ga gb) (hs : SOk s S L A) (p : Pt) (hp : okP p) (hS : S + p.n ≤ 9223372036854775807) (hL : L ≤ 100000000) (hA : A + p.t.size ≤ 100000000) :
    Calls Tryd.prog 33 #[vs, .agg #[.int .i64 p.k, .int .i64 p.n, .string p.t]] wr fun e w' => ∃ v', e = .returned v' ∧ RT w0 w' vx vy v' vt a b (layP s p) t ga gb := by
  refine (push_any wr vs (settleP s) p S L A h.s.bl.size h.s.o hp hs.p hS hL hA).mono ?_
  rintro e w' ⟨v', rfl, hO, hG⟩
  have h1 : RJ w0 w' vx vy v' a b (layP s p) ga gb := h.s.grow (by rw [hs.step hp]; exact hO) hG
  refine ⟨v', rfl, h1, ⟨h1.sa, h1.sb, ownsRow_wr h.t.o hG.1 (fun k hk e => h.ap k e.symm hk), h.t.da, h.t.db, h1.bl⟩, fun k hk hk' => ?_⟩
  rcases hG.2 k hk with e | e
  · exact h.ap k e hk'
  · have := own_block_lt h.t.o hk'; omega
theorem rt_pushT {w0 wr : World} {vx vy vs vt : Value} {a b : List Pt} {s t : WS} {ga gb : Nat} {S : Int} {L A : Nat} (h : RT w0 wr vx vy vs vt a b s t ga gb) (hs : SOk t S L A) (p : Pt) (hp : okP p) (hS : S + p.n ≤ 9223372036854775807) (hL : L ≤ 100000000) (hA : A + p.t.size ≤ 100000000) :
    Calls Tryd.prog 33 #[vt, .agg #[.int .i64 p.k, .int .i64 p.n, .string p.t]] wr fun e w' => ∃ v', e = .returned v' ∧ RT w0 w' vx vy vs v' a b s (layP t p) ga gb := by
  refine (rt_pushS h.swap hs p hp hS hL hA).mono ?_
  rintro e w' ⟨v', rfl, h1⟩
  exact ⟨v', rfl, h1.swap⟩
theorem rt_headA {w0 wr : World} {vx vy vs vt : Value} {x : Pt} {a b : List Pt} {s t : WS} {ga gb : Nat} (h : RT w0 wr vx vy vs vt (x :: a) b s t ga gb) (m : Nat) (hl : a.length ≤ 100000000) (ox : okP x) (hx : x.k ≠ 2) (hm : m ≤ pl x) (hn : x.n ≤ 9223372036854775807) :
    Calls Tryd.prog 34 #[vx, .int .i64 m] wr fun e w' => ∃ v' g', e = .returned (.tuple #[.agg #[.int .i64 (cut x 0 m).k, .int .i64 (cut x 0 m).n, .string (cut x 0 m).t], v']) ∧ RT w0 w' v' vy vs vt (restP x m ++ a) b s t g' gb := by
  refine (head_any x a vx ga wr m h.s.sa hl ox hx hm hn).mono ?_
  rintro e w' ⟨v', g', rfl, hs, hg, hb⟩
  exact ⟨v', g', rfl, h.s.setA hs hg hb, h.t.setA hs hg hb, h.ap⟩
theorem rt_headB {w0 wr : World} {vx vy vs vt : Value} {y : Pt} {a b : List Pt} {s t : WS} {ga gb : Nat} (h : RT w0 wr vx vy vs vt a (y :: b) s t ga gb) (m : Nat) (hl : b.length ≤ 100000000) (oy : okP y) (hy : y.k ≠ 2) (hm : m ≤ pl y) (hn : y.n ≤ 9223372036854775807) :
    Calls Tryd.prog 34 #[vy, .int .i64 m] wr fun e w' => ∃ v' g', e = .returned (.tuple #[.agg #[.int .i64 (cut y 0 m).k, .int .i64 (cut y 0 m).n, .string (cut y 0 m).t], v']) ∧ RT w0 w' vx v' vs vt a (restP y m ++ b) s t ga g' := by
  refine (head_any y b vy gb wr m h.s.sb hl oy hy hm hn).mono ?_
  rintro e w' ⟨v', g', rfl, hs, hg, hb⟩
  exact ⟨v', g', rfl, h.s.setB hs hg hb, h.t.setB hs hg hb, h.ap⟩
theorem rt_pushS' {w0 wr : World} {vx vy vs vt : Value} {a b : List Pt} {s t : WS} {ga gb : Nat} {S : Int} {L A : Nat} (h : RT w0 wr vx vy vs vt a b s t ga gb) (hs : SOk s S L A) (p : Pt) (hp : okP p) (hS : S + p.n ≤ 9223372036854775807) (hL : L ≤ 100000000) (hA : A + p.t.size ≤ 100000000) :
    Calls Tryd.prog 33 #[vs, .agg #[.int .i64 p.k, .int .i64 p.n, .string p.t]] wr fun e w' => ∃ v', e = .returned v' ∧ RT w0 w' vx vy v' vt a b (layP s p) t ga gb ∧ ∀ k cs T, vs.ownBlock ≠ some k → Blk wr k cs T → Blk w' k cs T := by
  refine (push_any wr vs (settleP s) p S L A h.s.bl.size h.s.o hp hs.p hS hL hA).mono ?_
  rintro e w' ⟨v', rfl, hO, hG⟩
  have h1 : RJ w0 w' vx vy v' a b (layP s p) ga gb := h.s.grow (by rw [hs.step hp]; exact hO) hG
  refine ⟨v', rfl, ⟨h1, ⟨h1.sa, h1.sb, ownsRow_wr h.t.o hG.1 (fun k hk e => h.ap k e.symm hk), h.t.da, h.t.db, h1.bl⟩, fun k hk hk' => ?_⟩, fun k cs T hk hB => hB.wr hG.1 (fun e => hk e.symm)⟩
  rcases hG.2 k hk with e | e
  · exact h.ap k e hk'
  · have := own_block_lt h.t.o hk'; omega
theorem rt_headB' {w0 wr : World} {vx vy vs vt : Value} {y : Pt} {a b : List Pt} {s t : WS} {ga gb : Nat} (h : RT w0 wr vx vy vs vt a (y :: b) s t ga gb) (m : Nat) (hl : b.length ≤ 100000000) (oy : okP y) (hy : y.k ≠ 2) (hm : m ≤ pl y) (hn : y.n ≤ 9223372036854775807) :
    Calls Tryd.prog 34 #[vy, .int .i64 m] wr fun e w' => ∃ v' g', e = .returned (.tuple #[.agg #[.int .i64 (cut y 0 m).k, .int .i64 (cut y 0 m).n, .string (cut y 0 m).t], v']) ∧ RT w0 w' vx v' vs vt a (restP y m ++ b) s t ga g' ∧ Below wr.heap.size wr w' := by
  refine (head_any y b vy gb wr m h.s.sb hl oy hy hm hn).mono ?_
  rintro e w' ⟨v', g', rfl, hs, hg, hb⟩
  exact ⟨v', g', rfl, ⟨h.s.setB hs hg hb, h.t.setB hs hg hb, h.ap⟩, hb⟩
theorem TOk.nbd {a b : List Pt} {x y : Pt} {s t : WS} {S : Int} {L A : Nat} {S' : Int} {L' A' : Nat} (h : TOk (x :: a) (y :: b) s t S L A S' L' A') : x.n ≤ 9223372036854775807 ∧ y.n ≤ 9223372036854775807 := by
  obtain ⟨ox, ha⟩ := allOk_cons h.oka
  obtain ⟨oy, hb⟩ := allOk_cons h.okb
  have h1 := h.sum
  have h2 := h.sum'
  have h3 := h.s.nn
  have h4 := h.t.nn
  have h5 := allOk_nn ha
  have h6 := allOk_nn hb
  simp only [sumL] at h1 h2
  exact ⟨by omega, by omega⟩
theorem rt_start {w w5 w6 : World} {l r : List Pt} {v1 v2 : Value} (ho1 : Own w5 w.heap.size v1 l) (hb6 : Below w5.heap.size w5 w6) (ho2 : Own w6 w5.heap.size v2 r) (hb : Below w.heap.size w w6) : ∃ g1 g2, RT w w6 v1 v2 (.slice none 0 0) (.slice none 0 0) l r ws0 ws0 g1 g2 := by
  obtain ⟨g1, s1, _⟩ := Own.sl ho1
  obtain ⟨g2, s2, _⟩ := Own.sl ho2
  have hj : RJ w w6 v1 v2 (.slice none 0 0) l r ws0 g1 g2 := ⟨s1.here hb6, s2, World.ownsRow_nil _ _ _ _, fun _ h => by simp [Value.ownBlock] at h, fun _ h => by simp [Value.ownBlock] at h, hb⟩
  exact ⟨g1, g2, hj, hj, fun k h => by simp [Value.ownBlock] at h⟩
end Go.Proofs.YtdlolnahbgecjaaDoor
namespace Go.Proofs.YtdlolnahbgecjaaDoor
open Go.RowKit
set_option linter.unusedVariables false

set_option maxRecDepth 100000 in
set_option maxHeartbeats 8000000 in
theorem refTurn_ok (ps qs : List Pt) (ao bo : Option Addr) (b1 o1 c1 b2 o2 c2 : Nat) (w : World) (A : Arg w ps ao b1 o1) (B : Arg w qs bo b2 o2) (g1 : Good ps = true) (g2 : Good qs = true) (n : Int) (hf1 : fromTo ps ps.length = some n) (hf2 : fromTo qs qs.length = some n) :
    Calls Tryd.prog 23 #[.slice ao ps.length c1, .slice bo qs.length c2] w fun e w' => ∃ u v, e = .returned (.tuple #[u, v, .int .i64 0]) ∧ Own w' w.heap.size u (settleP (Tn (shortL ps) (shortL qs) ws0 ws0).1) ∧ Own w' w.heap.size v (settleP (Tn (shortL ps) (shortL qs) ws0 ws0).2) ∧ Below w.heap.size w w' := by
  have hn0 := (made_bd (A.nn g1) _ _ hf1).1
  have k1 := sh_ok A g1 hf1
  have k2 := sh_ok B g2 hf2
  have HJ0 : Hid (TOk (shortL ps) (shortL qs) ws0 ws0 0 0 0 0 0 0) := tok_start k1.1 k2.1 (by rw [k1.2, k2.2])
  have HG1 : Hid (∀ wx, Below w.heap.size w wx → Calls Tryd.prog 27 #[.slice ao ps.length c1] wx fun e w' => e = .returned (.bool true) ∧ Below wx.heap.size wx w') := fun wx hb => by
    have A' := A.below hb A.lt
    have := good_any ps ao b1 o1 c1 wx A'.ao A'.lt A'.cells A'.len
    rw [g1] at this; exact this
  have HG2 : Hid (∀ wx, Below w.heap.size w wx → Calls Tryd.prog 27 #[.slice bo qs.length c2] wx fun e w' => e = .returned (.bool true) ∧ Below wx.heap.size wx w') := fun wx hb => by
    have A' := B.below hb B.lt
    have := good_any qs bo b2 o2 c2 wx A'.ao A'.lt A'.cells A'.len
    rw [g2] at this; exact this
  have hF1 : From ps = n := by simp [From, hf1]
  have hF2 : From qs = n := by simp [From, hf2]
  have HF1 : Hid (∀ wx, Below w.heap.size w wx → Calls Tryd.prog 28 #[.slice ao ps.length c1] wx fun e w' => e = .returned (.int .i64 n) ∧ w' = wx) := fun wx hb => by
    have A' := A.below hb A.lt
    have := from_any ps ao b1 o1 c1 wx A'.ao A'.cells A'.len (A.nn g1)
    rw [hF1] at this; exact this
  have HF2 : Hid (∀ wx, Below w.heap.size w wx → Calls Tryd.prog 28 #[.slice bo qs.length c2] wx fun e w' => e = .returned (.int .i64 n) ∧ w' = wx) := fun wx hb => by
    have A' := B.below hb B.lt
    have := from_any qs bo b2 o2 c2 wx A'.ao A'.cells A'.len (B.nn g2)
    rw [hF2] at this; exact this
  have HR1 : Hid (∀ wx, Below w.heap.size w wx → Calls Tryd.prog 30 #[.slice ao ps.length c1] wx fun e w' => ∃ v, e = .returned v ∧ Own w' wx.heap.size v (shortL ps) ∧ Below wx.heap.size wx w') := fun wx hb => rshort_any ps ao b1 o1 c1 n wx (A.lst g1) hf1 A.ao (A.cells.below hb A.lt) (fun h => Nat.lt_of_lt_of_le (A.lt h) hb.size)
  have HR2 : Hid (∀ wx, Below w.heap.size w wx → Calls Tryd.prog 30 #[.slice bo qs.length c2] wx fun e w' => ∃ v, e = .returned v ∧ Own w' wx.heap.size v (shortL qs) ∧ Below wx.heap.size wx w') := fun wx hb => rshort_any qs bo b2 o2 c2 n wx (B.lst g2) hf2 B.ao (B.cells.below hb B.lt) (fun h => Nat.lt_of_lt_of_le (B.lt h) hb.size)
  have hs0 : (n < 0) = False := by simp; omega
  have hd0 : decide (n < 0) = false := by simp; omega
  clear A B g1 g2 hf1 hf2 k1 k2 hF1 hF2 hn0
  generalize shortL ps = l at *
  generalize shortL qs = r at *
  generalize hjn : Tn l r ws0 ws0 = jn
  have HJn : Hid (Tn l r ws0 ws0 = jn) := hjn
  clear hjn
  go_enter Tryd.func23, Tryd.ntmps23
  go_wp2_with fail
  refine (HG1.out w (Below.refl _ _)).mono ?_
  rintro e w1 ⟨rfl, hb1⟩
  go_wp2_with fail
  refine (HG2.out w1 hb1).mono ?_
  rintro e w2 ⟨rfl, hb2⟩
  have hbw2 : Below w.heap.size w w2 := hb1.trans (hb2.mono hb1.size)
  go_wp2_with fail
  refine (HF1.out w2 hbw2).mono ?_
  rintro e w3 ⟨rfl, hww⟩
  obtain rfl := hww.symm
  clear hww
  go_wp2_with fail
  refine (HF2.out w2 hbw2).mono ?_
  rintro e w3 ⟨rfl, hww⟩
  obtain rfl := hww.symm
  clear hww
  go_wp2_with fail
  refine (HR1.out w2 hbw2).mono ?_
  rintro e w5 ⟨v1, rfl, ho5, hb5⟩
  have HO5 : Hid (Own w5 w2.heap.size v1 l) := ho5
  have hbw5 : Below w.heap.size w w5 := hbw2.trans (hb5.mono hbw2.size)
  clear ho5
  go_wp2_with fail
  refine (HR2.out w5 hbw5).mono ?_
  rintro e w6 ⟨v2, rfl, ho6, hb6⟩
  have hbw6 : Below w.heap.size w w6 := hbw5.trans (hb6.mono hbw5.size)
  obtain ⟨e1, e2, hst⟩ := rt_start (w := w) (ownsRow_weak' HO5.out hbw2.size) hb6 ho6 hbw6
  have HI : Hid (RT w w6 v1 v2 (.slice none 0 0) (.slice none 0 0) l r ws0 ws0 e1 e2) := hst
  clear ho6 hst HG1 HG2 HF1 HF2 HR1 HR2 hb1 hb2 hb5 hb6 hbw2 hbw5 hbw6 HO5
  go_wp2
  go_loopg [9, 10, 11, 12] (wt l + wt r) (fun k va vb vs vt wr => ∃ a b s t S L A S' L' A' ga gb, wt a + wt b = k ∧ RT w wr va vb vs vt a b s t ga gb ∧ TOk a b s t S L A S' L' A' ∧ Tn a b s t = jn)
  case atStart => exact ⟨l, r, ws0, ws0, 0, 0, 0, 0, 0, 0, e1, e2, rfl, HI.out, HJ0.out, HJn.out⟩
  case round =>
    obtain ⟨a, b, s, t, S, L, A, S', L', A', ga, gb, hk, hst, hj, hn⟩ := hrel
    have HK : Hid (wt a + wt b = gk) := hk
    have HST : Hid (RT w wr u9 u10 u11 u12 a b s t ga gb) := hst
    have HJ : Hid (TOk a b s t S L A S' L' A') := hj
    have HNn : Hid (Tn a b s t = jn) := hn
    clear hk hst hj hn HI HJ0 HJn
    by_cases hA : ∃ x a', a = x :: a' ∧ x.k = 2
    · obtain ⟨⟨xk, xn, xt⟩, a', rfl, hx⟩ := hA
      obtain rfl : xk = 2 := hx
      cases b with
      | nil =>
        obtain ⟨bq, bcap, rfl⟩ := HST.out.s.sb.form0
        obtain ⟨off, cap, rfl, hcap, hg, hat⟩ := HST.out.s.sa.form
        obtain ⟨c0, c1, c2⟩ := hat.head
        have hlA : (0 : Int) < (a'.length : Int) + 1 := by omega
        have hsm := HJ.out.small
        have htl : xt.size ≤ textL (⟨2, xn, xt⟩ :: a') := by simp only [textL]; omega
        have htx := HJ.out.txt
        have oxx := (allOk_cons HJ.out.oka).1
        have HP : Hid (∀ wx va vb, RT w wx va vb u11 u12 (⟨2, xn, xt⟩ :: a') [] s t ga gb → Calls Tryd.prog 33 #[u11, .agg #[.int .i64 2, .int .i64 xn, .string xt]] wx fun e w' => ∃ v', e = .returned v' ∧ RT w w' va vb v' u12 (⟨2, xn, xt⟩ :: a') [] (layP s ⟨2, xn, xt⟩) t ga gb) := fun wx va vb h => rt_pushS h HJ.out.s ⟨2, xn, xt⟩ oxx (by have := (pl_t oxx rfl).2; simp only at this; simp only; omega) (by omega) (by simp only; omega)
        have HQ : Hid (∀ wx va vb vs, RT w wx va vb vs u12 (⟨2, xn, xt⟩ :: a') [] (layP s ⟨2, xn, xt⟩) t ga gb → Calls Tryd.prog 33 #[u12, .agg #[.int .i64 1, .int .i64 (xt.size : Nat), .string ⟨#[]⟩]] wx fun e w' => ∃ v', e = .returned v' ∧ RT w w' va vb vs v' (⟨2, xn, xt⟩ :: a') [] (layP s ⟨2, xn, xt⟩) (layP t (keepPt ⟨2, xn, xt⟩)) ga gb) := fun wx va vb vs h => rt_pushT h HJ.out.t (keepPt ⟨2, xn, xt⟩) (keepPt_ok oxx rfl) (by show S' + ((xt.size : Nat) : Int) ≤ _; omega) (by omega) (by show A' + 0 ≤ _; omega)
        have HX : Hid (TOk a' [] (layP s ⟨2, xn, xt⟩) (layP t (keepPt ⟨2, xn, xt⟩)) S (L + 3) (A + xt.size) (S' + xt.size) (L' + 3) A' ∧ Tn a' [] (layP s ⟨2, xn, xt⟩) (layP t (keepPt ⟨2, xn, xt⟩)) = jn) := ⟨HJ.out.addA rfl, by rw [← HNn.out, Tn_addA HJ.out.oka HJ.out.okb rfl]⟩
        have HCAP : Hid (a'.length + 1 ≤ cap) := hcap
        clear hat hcap hsm htl htx oxx
        go_wp2_with fail
        refine (HP.out wr _ _ HST.out).mono ?_
        rintro e w4 ⟨v4, rfl, st4⟩
        have HST4 : Hid (RT w w4 _ _ v4 u12 (⟨2, xn, xt⟩ :: a') [] (layP s ⟨2, xn, xt⟩) t ga gb) := st4
        have d2 : w4.cell? ⟨ga, off + 2, none⟩ = some (.string xt) := st4.s.sa.cells.1.head.2.2
        clear st4 c0 c1 c2
        go_wp2_with fail
        refine (HQ.out w4 _ _ _ HST4.out).mono ?_
        rintro e w5 ⟨v5, rfl, st5⟩
        have HST5 : Hid (RT w w5 _ _ v4 v5 (⟨2, xn, xt⟩ :: a') [] (layP s ⟨2, xn, xt⟩) (layP t (keepPt ⟨2, xn, xt⟩)) ga gb) := st5
        clear st5 d2
        by_cases hc1 : cap = 1
        · subst hc1
          have ha' : a' = [] := List.eq_nil_of_length_eq_zero (by have := HCAP.out; omega)
          subst ha'
          go_wp2
          go_roundg (wt [] + wt [])
          case measure => have h1 := HK.out; have h2 := wt_cons ⟨2, xn, xt⟩ []; omega
          case rel => exact ⟨[], [], _, _, _, _, _, _, _, _, ga, gb, rfl, HST5.out.tailA1 _ _, HX.out.1, HX.out.2⟩
        · go_wp2
          go_roundg (wt a' + wt [])
          case measure => have h1 := HK.out; have h2 := wt_cons ⟨2, xn, xt⟩ a'; omega
          case rel => exact ⟨a', [], _, _, _, _, _, _, _, _, ga, gb, rfl, HST5.out.tailA hc1, HX.out.1, HX.out.2⟩
      | cons y b' =>
        obtain ⟨boff, bcap, rfl, _, _, _⟩ := HST.out.s.sb.form
        have hlB : (0 : Int) < (b'.length : Int) + 1 := by omega
        obtain ⟨off, cap, rfl, hcap, hg, hat⟩ := HST.out.s.sa.form
        obtain ⟨c0, c1, c2⟩ := hat.head
        have hlA : (0 : Int) < (a'.length : Int) + 1 := by omega
        have hsm := HJ.out.small
        have htl : xt.size ≤ textL (⟨2, xn, xt⟩ :: a') := by simp only [textL]; omega
        have htx := HJ.out.txt
        have oxx := (allOk_cons HJ.out.oka).1
        have HP : Hid (∀ wx va vb, RT w wx va vb u11 u12 (⟨2, xn, xt⟩ :: a') (y :: b') s t ga gb → Calls Tryd.prog 33 #[u11, .agg #[.int .i64 2, .int .i64 xn, .string xt]] wx fun e w' => ∃ v', e = .returned v' ∧ RT w w' va vb v' u12 (⟨2, xn, xt⟩ :: a') (y :: b') (layP s ⟨2, xn, xt⟩) t ga gb) := fun wx va vb h => rt_pushS h HJ.out.s ⟨2, xn, xt⟩ oxx (by have := (pl_t oxx rfl).2; simp only at this; simp only; omega) (by omega) (by simp only; omega)
        have HQ : Hid (∀ wx va vb vs, RT w wx va vb vs u12 (⟨2, xn, xt⟩ :: a') (y :: b') (layP s ⟨2, xn, xt⟩) t ga gb → Calls Tryd.prog 33 #[u12, .agg #[.int .i64 1, .int .i64 (xt.size : Nat), .string ⟨#[]⟩]] wx fun e w' => ∃ v', e = .returned v' ∧ RT w w' va vb vs v' (⟨2, xn, xt⟩ :: a') (y :: b') (layP s ⟨2, xn, xt⟩) (layP t (keepPt ⟨2, xn, xt⟩)) ga gb) := fun wx va vb vs h => rt_pushT h HJ.out.t (keepPt ⟨2, xn, xt⟩) (keepPt_ok oxx rfl) (by show S' + ((xt.size : Nat) : Int) ≤ _; omega) (by omega) (by show A' + 0 ≤ _; omega)
        have HX : Hid (TOk a' (y :: b') (layP s ⟨2, xn, xt⟩) (layP t (keepPt ⟨2, xn, xt⟩)) S (L + 3) (A + xt.size) (S' + xt.size) (L' + 3) A' ∧ Tn a' (y :: b') (layP s ⟨2, xn, xt⟩) (layP t (keepPt ⟨2, xn, xt⟩)) = jn) := ⟨HJ.out.addA rfl, by rw [← HNn.out, Tn_addA HJ.out.oka HJ.out.okb rfl]⟩
        have HCAP : Hid (a'.length + 1 ≤ cap) := hcap
        clear hat hcap hsm htl htx oxx
        go_wp2_with fail
        refine (HP.out wr _ _ HST.out).mono ?_
        rintro e w4 ⟨v4, rfl, st4⟩
        have HST4 : Hid (RT w w4 _ _ v4 u12 (⟨2, xn, xt⟩ :: a') (y :: b') (layP s ⟨2, xn, xt⟩) t ga gb) := st4
        have d2 : w4.cell? ⟨ga, off + 2, none⟩ = some (.string xt) := st4.s.sa.cells.1.head.2.2
        clear st4 c0 c1 c2
        go_wp2_with fail
        refine (HQ.out w4 _ _ _ HST4.out).mono ?_
        rintro e w5 ⟨v5, rfl, st5⟩
        have HST5 : Hid (RT w w5 _ _ v4 v5 (⟨2, xn, xt⟩ :: a') (y :: b') (layP s ⟨2, xn, xt⟩) (layP t (keepPt ⟨2, xn, xt⟩)) ga gb) := st5
        clear st5 d2
        by_cases hc1 : cap = 1
        · subst hc1
          have ha' : a' = [] := List.eq_nil_of_length_eq_zero (by have := HCAP.out; omega)
          subst ha'
          go_wp2
          go_roundg (wt [] + wt (y :: b'))
          case measure => have h1 := HK.out; have h2 := wt_cons ⟨2, xn, xt⟩ []; omega
          case rel => exact ⟨[], (y :: b'), _, _, _, _, _, _, _, _, ga, gb, rfl, HST5.out.tailA1 _ _, HX.out.1, HX.out.2⟩
        · go_wp2
          go_roundg (wt a' + wt (y :: b'))
          case measure => have h1 := HK.out; have h2 := wt_cons ⟨2, xn, xt⟩ a'; omega
          case rel => exact ⟨a', (y :: b'), _, _, _, _, _, _, _, _, ga, gb, rfl, HST5.out.tailA hc1, HX.out.1, HX.out.2⟩
    · by_cases hB : ∃ y b', b = y :: b' ∧ y.k = 2
      · cases a with
        | nil =>
          obtain ⟨⟨yk, yn, yt⟩, b', rfl, hy⟩ := hB
          obtain rfl : yk = 2 := hy
          obtain ⟨aq, acap, rfl⟩ := HST.out.s.sa.form0
          obtain ⟨off, cap, rfl, hcap, hg, hat⟩ := HST.out.s.sb.form
          obtain ⟨c0, c1, c2⟩ := hat.head
          have hlB : (0 : Int) < (b'.length : Int) + 1 := by omega
          have hsm := HJ.out.small
          have htl : yt.size ≤ textL (⟨2, yn, yt⟩ :: b') := by simp only [textL]; omega
          have htx := HJ.out.txt'
          have oyy := (allOk_cons HJ.out.okb).1
          have HP : Hid (∀ wx va vb, RT w wx va vb u11 u12 [] (⟨2, yn, yt⟩ :: b') s t ga gb → Calls Tryd.prog 33 #[u11, .agg #[.int .i64 1, .int .i64 (yt.size : Nat), .string ⟨#[]⟩]] wx fun e w' => ∃ v', e = .returned v' ∧ RT w w' va vb v' u12 [] (⟨2, yn, yt⟩ :: b') (layP s (keepPt ⟨2, yn, yt⟩)) t ga gb) := fun wx va vb h => rt_pushS h HJ.out.s (keepPt ⟨2, yn, yt⟩) (keepPt_ok oyy rfl) (by show S + ((yt.size : Nat) : Int) ≤ _; omega) (by omega) (by show A + 0 ≤ _; omega)
          have HQ : Hid (∀ wx va vb vs, RT w wx va vb vs u12 [] (⟨2, yn, yt⟩ :: b') (layP s (keepPt ⟨2, yn, yt⟩)) t ga gb → Calls Tryd.prog 33 #[u12, .agg #[.int .i64 2, .int .i64 yn, .string yt]] wx fun e w' => ∃ v', e = .returned v' ∧ RT w w' va vb vs v' [] (⟨2, yn, yt⟩ :: b') (layP s (keepPt ⟨2, yn, yt⟩)) (layP t ⟨2, yn, yt⟩) ga gb) := fun wx va vb vs h => rt_pushT h HJ.out.t ⟨2, yn, yt⟩ oyy (by have := (pl_t oyy rfl).2; simp only at this; simp only; omega) (by omega) (by simp only; omega)
          have HX : Hid (TOk [] b' (layP s (keepPt ⟨2, yn, yt⟩)) (layP t ⟨2, yn, yt⟩) (S + yt.size) (L + 3) A S' (L' + 3) (A' + yt.size) ∧ Tn [] b' (layP s (keepPt ⟨2, yn, yt⟩)) (layP t ⟨2, yn, yt⟩) = jn) := ⟨HJ.out.addB rfl, by rw [← HNn.out, Tn_addB HJ.out.oka HJ.out.okb rfl (fun x a' e => by cases e)]⟩
          have HCAP : Hid (b'.length + 1 ≤ cap) := hcap
          clear hat hcap hsm htl htx oyy hA
          go_wp2_with fail
          refine (HP.out wr _ _ HST.out).mono ?_
          rintro e w4 ⟨v4, rfl, st4⟩
          have HST4 : Hid (RT w w4 _ _ v4 u12 [] (⟨2, yn, yt⟩ :: b') (layP s (keepPt ⟨2, yn, yt⟩)) t ga gb) := st4
          have d0 := st4.s.sb.cells.1.head.1
          have d1 := st4.s.sb.cells.1.head.2.1
          have d2 := st4.s.sb.cells.1.head.2.2
          clear st4 c0 c1 c2
          go_wp2_with fail
          refine (HQ.out w4 _ _ _ HST4.out).mono ?_
          rintro e w5 ⟨v5, rfl, st5⟩
          have HST5 : Hid (RT w w5 _ _ v4 v5 [] (⟨2, yn, yt⟩ :: b') (layP s (keepPt ⟨2, yn, yt⟩)) (layP t ⟨2, yn, yt⟩) ga gb) := st5
          clear st5 d0 d1 d2
          by_cases hc1 : cap = 1
          · subst hc1
            have hb' : b' = [] := List.eq_nil_of_length_eq_zero (by have := HCAP.out; omega)
            subst hb'
            go_wp2
            go_roundg (wt [] + wt [])
            case measure => have h1 := HK.out; have h2 := wt_cons ⟨2, yn, yt⟩ []; omega
            case rel => exact ⟨[], [], _, _, _, _, _, _, _, _, ga, gb, rfl, HST5.out.tailB1 _ _, HX.out.1, HX.out.2⟩
          · go_wp2
            go_roundg (wt [] + wt b')
            case measure => have h1 := HK.out; have h2 := wt_cons ⟨2, yn, yt⟩ b'; omega
            case rel => exact ⟨[], b', _, _, _, _, _, _, _, _, ga, gb, rfl, HST5.out.tailB hc1, HX.out.1, HX.out.2⟩
        | cons x a' =>
          obtain ⟨⟨yk, yn, yt⟩, b', rfl, hy⟩ := hB
          obtain rfl : yk = 2 := hy
          obtain ⟨aoff, acap, rfl, _, hga, hata⟩ := HST.out.s.sa.form
          obtain ⟨f0, f1, f2⟩ := hata.head
          have hlA : (0 : Int) < (a'.length : Int) + 1 := by omega
          have hx2 : (x.k == 2) = false := by simp; intro h; exact hA ⟨x, a', rfl, h⟩
          clear hata
          obtain ⟨off, cap, rfl, hcap, hg, hat⟩ := HST.out.s.sb.form
          obtain ⟨c0, c1, c2⟩ := hat.head
          have hlB : (0 : Int) < (b'.length : Int) + 1 := by omega
          have hsm := HJ.out.small
          have htl : yt.size ≤ textL (⟨2, yn, yt⟩ :: b') := by simp only [textL]; omega
          have htx := HJ.out.txt'
          have oyy := (allOk_cons HJ.out.okb).1
          have HP : Hid (∀ wx va vb, RT w wx va vb u11 u12 (x :: a') (⟨2, yn, yt⟩ :: b') s t ga gb → Calls Tryd.prog 33 #[u11, .agg #[.int .i64 1, .int .i64 (yt.size : Nat), .string ⟨#[]⟩]] wx fun e w' => ∃ v', e = .returned v' ∧ RT w w' va vb v' u12 (x :: a') (⟨2, yn, yt⟩ :: b') (layP s (keepPt ⟨2, yn, yt⟩)) t ga gb) := fun wx va vb h => rt_pushS h HJ.out.s (keepPt ⟨2, yn, yt⟩) (keepPt_ok oyy rfl) (by show S + ((yt.size : Nat) : Int) ≤ _; omega) (by omega) (by show A + 0 ≤ _; omega)
          have HQ : Hid (∀ wx va vb vs, RT w wx va vb vs u12 (x :: a') (⟨2, yn, yt⟩ :: b') (layP s (keepPt ⟨2, yn, yt⟩)) t ga gb → Calls Tryd.prog 33 #[u12, .agg #[.int .i64 2, .int .i64 yn, .string yt]] wx fun e w' => ∃ v', e = .returned v' ∧ RT w w' va vb vs v' (x :: a') (⟨2, yn, yt⟩ :: b') (layP s (keepPt ⟨2, yn, yt⟩)) (layP t ⟨2, yn, yt⟩) ga gb) := fun wx va vb vs h => rt_pushT h HJ.out.t ⟨2, yn, yt⟩ oyy (by have := (pl_t oyy rfl).2; simp only at this; simp only; omega) (by omega) (by simp only; omega)
          have HX : Hid (TOk (x :: a') b' (layP s (keepPt ⟨2, yn, yt⟩)) (layP t ⟨2, yn, yt⟩) (S + yt.size) (L + 3) A S' (L' + 3) (A' + yt.size) ∧ Tn (x :: a') b' (layP s (keepPt ⟨2, yn, yt⟩)) (layP t ⟨2, yn, yt⟩) = jn) := ⟨HJ.out.addB rfl, by rw [← HNn.out, Tn_addB HJ.out.oka HJ.out.okb rfl (fun x' a'' e h => hA ⟨x', a'', e, h⟩)]⟩
          have HCAP : Hid (b'.length + 1 ≤ cap) := hcap
          clear hat hcap hsm htl htx oyy hA
          go_wp2_with fail
          refine (HP.out wr _ _ HST.out).mono ?_
          rintro e w4 ⟨v4, rfl, st4⟩
          have HST4 : Hid (RT w w4 _ _ v4 u12 (x :: a') (⟨2, yn, yt⟩ :: b') (layP s (keepPt ⟨2, yn, yt⟩)) t ga gb) := st4
          have d0 := st4.s.sb.cells.1.head.1
          have d1 := st4.s.sb.cells.1.head.2.1
          have d2 := st4.s.sb.cells.1.head.2.2
          clear st4 c0 c1 c2 f0 f1 f2
          go_wp2_with fail
          refine (HQ.out w4 _ _ _ HST4.out).mono ?_
          rintro e w5 ⟨v5, rfl, st5⟩
          have HST5 : Hid (RT w w5 _ _ v4 v5 (x :: a') (⟨2, yn, yt⟩ :: b') (layP s (keepPt ⟨2, yn, yt⟩)) (layP t ⟨2, yn, yt⟩) ga gb) := st5
          clear st5 d0 d1 d2
          by_cases hc1 : cap = 1
          · subst hc1
            have hb' : b' = [] := List.eq_nil_of_length_eq_zero (by have := HCAP.out; omega)
            subst hb'
            go_wp2
            go_roundg (wt (x :: a') + wt [])
            case measure => have h1 := HK.out; have h2 := wt_cons ⟨2, yn, yt⟩ []; omega
            case rel => exact ⟨(x :: a'), [], _, _, _, _, _, _, _, _, ga, gb, rfl, HST5.out.tailB1 _ _, HX.out.1, HX.out.2⟩
          · go_wp2
            go_roundg (wt (x :: a') + wt b')
            case measure => have h1 := HK.out; have h2 := wt_cons ⟨2, yn, yt⟩ b'; omega
            case rel => exact ⟨(x :: a'), b', _, _, _, _, _, _, _, _, ga, gb, rfl, HST5.out.tailB hc1, HX.out.1, HX.out.2⟩
      · cases a with
        | nil =>
          cases b with
          | nil =>
            obtain ⟨aq, ac, rfl⟩ := HST.out.s.sa.form0
            obtain ⟨bq, bc, rfl⟩ := HST.out.s.sb.form0
            have HE : Hid (Own wr w.heap.size u11 (settleP jn.1) ∧ Own wr w.heap.size u12 (settleP jn.2) ∧ Below w.heap.size w wr) := by
              have h := HNn.out
              rw [Tn_nil] at h
              rw [← h]
              exact ⟨HST.out.s.o, HST.out.t.o, HST.out.s.bl⟩
            clear hB hA HST
            go_wp2
            exact bodyPost_ret (v := .tuple #[u11, u12, .int .i64 0]) (by simp [results, Tryd.results23, go_sem]) rfl ⟨u11, u12, rfl, HE.out⟩
          | cons y b' => exact absurd ⟨y, b', rfl, HJ.out.left⟩ hB
        | cons x a' =>
          cases b with
          | nil => exact absurd ⟨x, a', rfl, HJ.out.right⟩ hA
          | cons y b' =>
            have hx : x.k ≠ 2 := fun h => hA ⟨x, a', rfl, h⟩
            have hy : y.k ≠ 2 := fun h => hB ⟨y, b', rfl, h⟩
            have hx2 : (x.k == 2) = false := by simpa using hx
            have hy2 : (y.k == 2) = false := by simpa using hy
            obtain ⟨m, hm⟩ : ∃ m, min (pl x) (pl y) = m := ⟨_, rfl⟩
            have ox := (allOk_cons HJ.out.oka).1
            have oy := (allOk_cons HJ.out.okb).1
            have hn2 := Tn_both (s := s) (t := t) HJ.out.oka HJ.out.okb hx hy
            rw [hm, HNn.out] at hn2
            obtain ⟨hj2, ocx, ocy, hck, hcy, hcn, hdn, hct, hdt, hm1, hmx, hmy, ex, ey, hb1', hb2'⟩ := HJ.out.both hx hy hm
            have hsm := HJ.out.small
            have hnb := HJ.out.nbd
            have HM : Hid (wt (restP x m ++ a') + wt (restP y m ++ b') < gk) := by
              show _ < _
              have h1 := HK.out
              have h2 := rest_wt ox (k := m) hm1
              have h3 := rest_wt oy (k := m) hm1
              simp only [wt] at h1
              rw [wt_append, wt_append]
              omega
            have HX : Hid (TOk (restP x m ++ a') (restP y m ++ b') (stepS s (cut x 0 m) (cut y 0 m)) (stepS t (cut y 0 m) (cut x 0 m)) (S + m) (L + 3) A (S' + m) (L' + 3) A' ∧ Tn (restP x m ++ a') (restP y m ++ b') (stepS s (cut x 0 m) (cut y 0 m)) (stepS t (cut y 0 m) (cut x 0 m)) = jn) := ⟨hj2, hn2.symm⟩
            have HHa : Hid (∀ wx va vb, RT w wx va vb u11 u12 (x :: a') (y :: b') s t ga gb → Calls Tryd.prog 34 #[va, .int .i64 m] wx fun e w' => ∃ v' g', e = .returned (.tuple #[.agg #[.int .i64 (cut x 0 m).k, .int .i64 (cut x 0 m).n, .string (cut x 0 m).t], v']) ∧ RT w w' v' vb u11 u12 (restP x m ++ a') (y :: b') s t g' gb) := fun wx va vb h => rt_headA h m (by have := hsm.2.2.2.2.2.2.1; simp only [List.length_cons] at this; omega) ox hx hmx hnb.1
            have HHb : Hid (∀ wx va vb g, RT w wx va vb u11 u12 (restP x m ++ a') (y :: b') s t g gb → Calls Tryd.prog 34 #[vb, .int .i64 m] wx fun e w' => ∃ v' g', e = .returned (.tuple #[.agg #[.int .i64 (cut y 0 m).k, .int .i64 (cut y 0 m).n, .string (cut y 0 m).t], v']) ∧ RT w w' va v' u11 u12 (restP x m ++ a') (restP y m ++ b') s t g g' ∧ Below wx.heap.size wx w') := fun wx va vb g h => rt_headB' h m (by have := hsm.2.2.2.2.2.2.2; simp only [List.length_cons] at this; omega) oy hy hmy hnb.2
            have HP : Hid (∀ wx va vb g g', RT w wx va vb u11 u12 (restP x m ++ a') (restP y m ++ b') s t g g' → Calls Tryd.prog 33 #[u11, .agg #[.int .i64 (cut x 0 m).k, .int .i64 (cut x 0 m).n, .string (cut x 0 m).t]] wx fun e w' => ∃ v', e = .returned v' ∧ RT w w' va vb v' u12 (restP x m ++ a') (restP y m ++ b') (layP s (cut x 0 m)) t g g' ∧ ∀ k cs T, u11.ownBlock ≠ some k → Blk wx k cs T → Blk w' k cs T) := fun wx va vb g g' h => rt_pushS' h HJ.out.s _ ocx (by omega) (by omega) (by omega)
            have HQ : Hid (∀ s' vs wx va vb g g', RT w wx va vb vs u12 (restP x m ++ a') (restP y m ++ b') s' t g g' → Calls Tryd.prog 33 #[u12, .agg #[.int .i64 (cut y 0 m).k, .int .i64 (cut y 0 m).n, .string (cut y 0 m).t]] wx fun e w' => ∃ v', e = .returned v' ∧ RT w w' va vb vs v' (restP x m ++ a') (restP y m ++ b') s' (layP t (cut y 0 m)) g g') := fun s' vs wx va vb g g' h => rt_pushT h HJ.out.t _ ocy (by omega) (by omega) (by omega)
            obtain ⟨off, cap, rfl, hcap, hg, hat⟩ := HST.out.s.sa.form
            obtain ⟨boff, bcap, rfl, hcapb, hgb, hatb⟩ := HST.out.s.sb.form
            obtain ⟨c0, c1, c2⟩ := hat.head
            obtain ⟨d0, d1, d2⟩ := hatb.head
            have hlA : (0 : Int) < (a'.length : Int) + 1 := by omega
            have hlB : (0 : Int) < (b'.length : Int) + 1 := by omega
            clear hj2 hn2 hck hcy hcn hdn hct hdt hm1 hmx hmy hb1' hb2' hsm hnb ox oy ocx ocy hx hy hcap hcapb hat hatb hA hB
            generalize cut x 0 m = cx at *
            generalize cut y 0 m = cy at *
            generalize restP x m ++ a' = xa at *
            generalize restP y m ++ b' = yb at *
            obtain ⟨xk, xn, xt⟩ := x
            obtain ⟨yk, yn, yt⟩ := y
            obtain ⟨ck, cn, ct⟩ := cx
            obtain ⟨dk, dn, dt⟩ := cy
            simp only at ex ey c0 c1 c2 d0 d1 d2 hx2 hy2 hm HHa HHb HP HQ HX
            have HS1 : Hid (dk = 1 → stepS s ⟨ck, cn, ct⟩ ⟨dk, dn, dt⟩ = layP s ⟨ck, cn, ct⟩) := fun h => if_pos h
            have HS0 : Hid (dk ≠ 1 → stepS s ⟨ck, cn, ct⟩ ⟨dk, dn, dt⟩ = s) := fun h => if_neg h
            have HT1 : Hid (ck = 1 → stepS t ⟨dk, dn, dt⟩ ⟨ck, cn, ct⟩ = layP t ⟨dk, dn, dt⟩) := fun h => if_pos h
            have HT0 : Hid (ck ≠ 1 → stepS t ⟨dk, dn, dt⟩ ⟨ck, cn, ct⟩ = t) := fun h => if_neg h
            by_cases hlt : yn < xn
            · obtain rfl : yn = (m : Int) := by omega
              clear ex ey hm
              by_cases q1 : dk = 1
              · have HE1 : Hid (stepS s ⟨ck, cn, ct⟩ ⟨dk, dn, dt⟩ = layP s ⟨ck, cn, ct⟩) := HS1.out q1
                subst q1
                by_cases p1 : ck = 1
                · have HE2 : Hid (stepS t ⟨1, dn, dt⟩ ⟨ck, cn, ct⟩ = layP t ⟨1, dn, dt⟩) := HT1.out p1
                  subst p1
                  clear HS0 HS1 HT0 HT1
                  go_wp2_with fail
                  refine (HHa.out wr _ _ HST.out).mono ?_
                  rintro e w1 ⟨v1, g1, rfl, st1⟩
                  have HST1 : Hid (RT w (w1.alloc (.cells #[.int .i64 1, .int .i64 cn, .string ct] 60)) v1 _ u11 u12 xa (⟨yk, (m : Int), yt⟩ :: b') s t g1 gb) := st1.here ((Below.refl _ _).alloc (Nat.le_refl _) _)
                  have HOB1 : Hid (∀ k, u11.ownBlock = some k → k < w1.heap.size) := fun k hk => own_block_lt st1.s.o hk
                  clear st1 c0 c1 c2 d0 d1 d2
                  go_wp2_with fail
                  refine (HHb.out _ _ _ _ HST1.out).mono ?_
                  rintro e w2 ⟨v2, g2, rfl, st2, hb2⟩
                  have HST2 : Hid (RT w (w2.alloc (.cells #[.int .i64 1, .int .i64 dn, .string dt] 60)) v1 v2 u11 u12 xa yb s t g1 g2) := st2.here ((Below.refl _ _).alloc (Nat.le_refl _) _)
                  have hz1 : Blk (w2.alloc (.cells #[.int .i64 1, .int .i64 dn, .string dt] 60)) w1.heap.size #[.int .i64 1, .int .i64 cn, .string ct] 60 := ((Blk.new w1 _ 60).here hb2).alloc _
                  have HZ1 : Hid (Blk (w2.alloc (.cells #[.int .i64 1, .int .i64 dn, .string dt] 60)) w1.heap.size #[.int .i64 1, .int .i64 cn, .string ct] 60) := hz1
                  have HZ2 : Hid (Blk (w2.alloc (.cells #[.int .i64 1, .int .i64 dn, .string dt] 60)) w2.heap.size #[.int .i64 1, .int .i64 dn, .string dt] 60) := Blk.new w2 _ 60
                  have HOB2 : Hid (∀ k, u11.ownBlock = some k → k < w2.heap.size) := fun k hk => own_block_lt st2.s.o hk
                  have y0 := hz1.cell 0 rfl
                  have y1 := hz1.cell 1 rfl
                  have y2 := hz1.cell 2 rfl
                  have hs12 : w1.heap.size < w2.heap.size := by have h := hb2.size; simp at h; omega
                  clear st2 hb2 hz1
                  go_wp2_with fail
                  refine (HP.out _ _ _ _ _ HST2.out).mono ?_
                  rintro e w3 ⟨v3, rfl, st3, hB3⟩
                  have HST3 : Hid (RT w w3 v1 v2 v3 u12 xa yb (layP s ⟨1, cn, ct⟩) t g1 g2) := st3
                  have hx1 := hB3 w1.heap.size _ _ (fun e => by have := HOB1.out _ e; omega) HZ1.out
                  have hx2 := hB3 w2.heap.size _ _ (fun e => by have := HOB2.out _ e; omega) HZ2.out
                  have z0 := hx1.cell 0 rfl
                  have q0 := hx2.cell 0 rfl
                  have q1 := hx2.cell 1 rfl
                  have q2 := hx2.cell 2 rfl
                  clear st3 hB3 hx1 hx2
                  go_wp2_with fail
                  refine (HQ.out _ _ _ _ _ _ _ HST3.out).mono ?_
                  rintro e w4 ⟨v4, rfl, st4⟩
                  have HST4 : Hid (RT w w4 v1 v2 v3 v4 xa yb (layP s ⟨1, cn, ct⟩) (layP t ⟨1, dn, dt⟩) g1 g2) := st4
                  clear st4
                  go_wp2
                  go_roundg (wt xa + wt yb)
                  case measure => exact HM.out
                  case rel => have hX := HX.out; rw [HE1.out, HE2.out] at hX; exact ⟨xa, yb, _, _, _, _, _, _, _, _, g1, g2, rfl, HST4.out, hX.1, hX.2⟩
                · have HE2 : Hid (stepS t ⟨1, dn, dt⟩ ⟨ck, cn, ct⟩ = t) := HT0.out p1
                  have hc1 : (ck == 1) = false := by simpa using p1
                  clear HS0 HS1 HT0 HT1 p1
                  go_wp2_with fail
                  refine (HHa.out wr _ _ HST.out).mono ?_
                  rintro e w1 ⟨v1, g1, rfl, st1⟩
                  have HST1 : Hid (RT w (w1.alloc (.cells #[.int .i64 ck, .int .i64 cn, .string ct] 60)) v1 _ u11 u12 xa (⟨yk, (m : Int), yt⟩ :: b') s t g1 gb) := st1.here ((Below.refl _ _).alloc (Nat.le_refl _) _)
                  have HOB1 : Hid (∀ k, u11.ownBlock = some k → k < w1.heap.size) := fun k hk => own_block_lt st1.s.o hk
                  clear st1 c0 c1 c2 d0 d1 d2
                  go_wp2_with fail
                  refine (HHb.out _ _ _ _ HST1.out).mono ?_
                  rintro e w2 ⟨v2, g2, rfl, st2, hb2⟩
                  have HST2 : Hid (RT w (w2.alloc (.cells #[.int .i64 1, .int .i64 dn, .string dt] 60)) v1 v2 u11 u12 xa yb s t g1 g2) := st2.here ((Below.refl _ _).alloc (Nat.le_refl _) _)
                  have hz1 : Blk (w2.alloc (.cells #[.int .i64 1, .int .i64 dn, .string dt] 60)) w1.heap.size #[.int .i64 ck, .int .i64 cn, .string ct] 60 := ((Blk.new w1 _ 60).here hb2).alloc _
                  have HZ1 : Hid (Blk (w2.alloc (.cells #[.int .i64 1, .int .i64 dn, .string dt] 60)) w1.heap.size #[.int .i64 ck, .int .i64 cn, .string ct] 60) := hz1
                  have HZ2 : Hid (Blk (w2.alloc (.cells #[.int .i64 1, .int .i64 dn, .string dt] 60)) w2.heap.size #[.int .i64 1, .int .i64 dn, .string dt] 60) := Blk.new w2 _ 60
                  have HOB2 : Hid (∀ k, u11.ownBlock = some k → k < w2.heap.size) := fun k hk => own_block_lt st2.s.o hk
                  have y0 := hz1.cell 0 rfl
                  have y1 := hz1.cell 1 rfl
                  have y2 := hz1.cell 2 rfl
                  have hs12 : w1.heap.size < w2.heap.size := by have h := hb2.size; simp at h; omega
                  clear st2 hb2 hz1
                  go_wp2_with fail
                  refine (HP.out _ _ _ _ _ HST2.out).mono ?_
                  rintro e w3 ⟨v3, rfl, st3, hB3⟩
                  have HST3 : Hid (RT w w3 v1 v2 v3 u12 xa yb (layP s ⟨ck, cn, ct⟩) t g1 g2) := st3
                  have hx1 := hB3 w1.heap.size _ _ (fun e => by have := HOB1.out _ e; omega) HZ1.out
                  have hx2 := hB3 w2.heap.size _ _ (fun e => by have := HOB2.out _ e; omega) HZ2.out
                  have z0 := hx1.cell 0 rfl
                  have q0 := hx2.cell 0 rfl
                  have q1 := hx2.cell 1 rfl
                  have q2 := hx2.cell 2 rfl
                  clear st3 hB3 hx1 hx2
                  go_wp2
                  go_roundg (wt xa + wt yb)
                  case measure => exact HM.out
                  case rel => have hX := HX.out; rw [HE1.out, HE2.out] at hX; exact ⟨xa, yb, _, _, _, _, _, _, _, _, g1, g2, rfl, HST3.out, hX.1, hX.2⟩
              · have HE1 : Hid (stepS s ⟨ck, cn, ct⟩ ⟨dk, dn, dt⟩ = s) := HS0.out q1
                have hd1 : (dk == 1) = false := by simpa using q1
                clear q1
                by_cases p1 : ck = 1
                · have HE2 : Hid (stepS t ⟨dk, dn, dt⟩ ⟨ck, cn, ct⟩ = layP t ⟨dk, dn, dt⟩) := HT1.out p1
                  subst p1
                  clear HS0 HS1 HT0 HT1
                  go_wp2_with fail
                  refine (HHa.out wr _ _ HST.out).mono ?_
                  rintro e w1 ⟨v1, g1, rfl, st1⟩
                  have HST1 : Hid (RT w (w1.alloc (.cells #[.int .i64 1, .int .i64 cn, .string ct] 60)) v1 _ u11 u12 xa (⟨yk, (m : Int), yt⟩ :: b') s t g1 gb) := st1.here ((Below.refl _ _).alloc (Nat.le_refl _) _)
                  have HOB1 : Hid (∀ k, u11.ownBlock = some k → k < w1.heap.size) := fun k hk => own_block_lt st1.s.o hk
                  clear st1 c0 c1 c2 d0 d1 d2
                  go_wp2_with fail
                  refine (HHb.out _ _ _ _ HST1.out).mono ?_
                  rintro e w2 ⟨v2, g2, rfl, st2, hb2⟩
                  have HST2 : Hid (RT w (w2.alloc (.cells #[.int .i64 dk, .int .i64 dn, .string dt] 60)) v1 v2 u11 u12 xa yb s t g1 g2) := st2.here ((Below.refl _ _).alloc (Nat.le_refl _) _)
                  have hz1 : Blk (w2.alloc (.cells #[.int .i64 dk, .int .i64 dn, .string dt] 60)) w1.heap.size #[.int .i64 1, .int .i64 cn, .string ct] 60 := ((Blk.new w1 _ 60).here hb2).alloc _
                  have HZ1 : Hid (Blk (w2.alloc (.cells #[.int .i64 dk, .int .i64 dn, .string dt] 60)) w1.heap.size #[.int .i64 1, .int .i64 cn, .string ct] 60) := hz1
                  have HZ2 : Hid (Blk (w2.alloc (.cells #[.int .i64 dk, .int .i64 dn, .string dt] 60)) w2.heap.size #[.int .i64 dk, .int .i64 dn, .string dt] 60) := Blk.new w2 _ 60
                  have HOB2 : Hid (∀ k, u11.ownBlock = some k → k < w2.heap.size) := fun k hk => own_block_lt st2.s.o hk
                  have y0 := hz1.cell 0 rfl
                  have y1 := hz1.cell 1 rfl
                  have y2 := hz1.cell 2 rfl
                  have hs12 : w1.heap.size < w2.heap.size := by have h := hb2.size; simp at h; omega
                  clear st2 hb2 hz1
                  go_wp2_with fail
                  refine (HQ.out _ _ _ _ _ _ _ HST2.out).mono ?_
                  rintro e w4 ⟨v4, rfl, st4⟩
                  have HST4 : Hid (RT w w4 v1 v2 u11 v4 xa yb s (layP t ⟨dk, dn, dt⟩) g1 g2) := st4
                  clear st4
                  go_wp2
                  go_roundg (wt xa + wt yb)
                  case measure => exact HM.out
                  case rel => have hX := HX.out; rw [HE1.out, HE2.out] at hX; exact ⟨xa, yb, _, _, _, _, _, _, _, _, g1, g2, rfl, HST4.out, hX.1, hX.2⟩
                · have HE2 : Hid (stepS t ⟨dk, dn, dt⟩ ⟨ck, cn, ct⟩ = t) := HT0.out p1
                  have hc1 : (ck == 1) = false := by simpa using p1
                  clear HS0 HS1 HT0 HT1 p1
                  go_wp2_with fail
                  refine (HHa.out wr _ _ HST.out).mono ?_
                  rintro e w1 ⟨v1, g1, rfl, st1⟩
                  have HST1 : Hid (RT w (w1.alloc (.cells #[.int .i64 ck, .int .i64 cn, .string ct] 60)) v1 _ u11 u12 xa (⟨yk, (m : Int), yt⟩ :: b') s t g1 gb) := st1.here ((Below.refl _ _).alloc (Nat.le_refl _) _)
                  have HOB1 : Hid (∀ k, u11.ownBlock = some k → k < w1.heap.size) := fun k hk => own_block_lt st1.s.o hk
                  clear st1 c0 c1 c2 d0 d1 d2
                  go_wp2_with fail
                  refine (HHb.out _ _ _ _ HST1.out).mono ?_
                  rintro e w2 ⟨v2, g2, rfl, st2, hb2⟩
                  have HST2 : Hid (RT w (w2.alloc (.cells #[.int .i64 dk, .int .i64 dn, .string dt] 60)) v1 v2 u11 u12 xa yb s t g1 g2) := st2.here ((Below.refl _ _).alloc (Nat.le_refl _) _)
                  have hz1 : Blk (w2.alloc (.cells #[.int .i64 dk, .int .i64 dn, .string dt] 60)) w1.heap.size #[.int .i64 ck, .int .i64 cn, .string ct] 60 := ((Blk.new w1 _ 60).here hb2).alloc _
                  have HZ1 : Hid (Blk (w2.alloc (.cells #[.int .i64 dk, .int .i64 dn, .string dt] 60)) w1.heap.size #[.int .i64 ck, .int .i64 cn, .string ct] 60) := hz1
                  have HZ2 : Hid (Blk (w2.alloc (.cells #[.int .i64 dk, .int .i64 dn, .string dt] 60)) w2.heap.size #[.int .i64 dk, .int .i64 dn, .string dt] 60) := Blk.new w2 _ 60
                  have HOB2 : Hid (∀ k, u11.ownBlock = some k → k < w2.heap.size) := fun k hk => own_block_lt st2.s.o hk
                  have y0 := hz1.cell 0 rfl
                  have y1 := hz1.cell 1 rfl
                  have y2 := hz1.cell 2 rfl
                  have hs12 : w1.heap.size < w2.heap.size := by have h := hb2.size; simp at h; omega
                  clear st2 hb2 hz1
                  go_wp2
                  go_roundg (wt xa + wt yb)
                  case measure => exact HM.out
                  case rel => have hX := HX.out; rw [HE1.out, HE2.out] at hX; exact ⟨xa, yb, _, _, _, _, _, _, _, _, g1, g2, rfl, HST2.out, hX.1, hX.2⟩
            · obtain rfl : xn = (m : Int) := by omega
              clear ex ey hm
              by_cases q1 : dk = 1
              · have HE1 : Hid (stepS s ⟨ck, cn, ct⟩ ⟨dk, dn, dt⟩ = layP s ⟨ck, cn, ct⟩) := HS1.out q1
                subst q1
                by_cases p1 : ck = 1
                · have HE2 : Hid (stepS t ⟨1, dn, dt⟩ ⟨ck, cn, ct⟩ = layP t ⟨1, dn, dt⟩) := HT1.out p1
                  subst p1
                  clear HS0 HS1 HT0 HT1
                  go_wp2_with fail
                  refine (HHa.out wr _ _ HST.out).mono ?_
                  rintro e w1 ⟨v1, g1, rfl, st1⟩
                  have HST1 : Hid (RT w (w1.alloc (.cells #[.int .i64 1, .int .i64 cn, .string ct] 60)) v1 _ u11 u12 xa (⟨yk, yn, yt⟩ :: b') s t g1 gb) := st1.here ((Below.refl _ _).alloc (Nat.le_refl _) _)
                  have HOB1 : Hid (∀ k, u11.ownBlock = some k → k < w1.heap.size) := fun k hk => own_block_lt st1.s.o hk
                  clear st1 c0 c1 c2 d0 d1 d2
                  go_wp2_with fail
                  refine (HHb.out _ _ _ _ HST1.out).mono ?_
                  rintro e w2 ⟨v2, g2, rfl, st2, hb2⟩
                  have HST2 : Hid (RT w (w2.alloc (.cells #[.int .i64 1, .int .i64 dn, .string dt] 60)) v1 v2 u11 u12 xa yb s t g1 g2) := st2.here ((Below.refl _ _).alloc (Nat.le_refl _) _)
                  have hz1 : Blk (w2.alloc (.cells #[.int .i64 1, .int .i64 dn, .string dt] 60)) w1.heap.size #[.int .i64 1, .int .i64 cn, .string ct] 60 := ((Blk.new w1 _ 60).here hb2).alloc _
                  have HZ1 : Hid (Blk (w2.alloc (.cells #[.int .i64 1, .int .i64 dn, .string dt] 60)) w1.heap.size #[.int .i64 1, .int .i64 cn, .string ct] 60) := hz1
                  have HZ2 : Hid (Blk (w2.alloc (.cells #[.int .i64 1, .int .i64 dn, .string dt] 60)) w2.heap.size #[.int .i64 1, .int .i64 dn, .string dt] 60) := Blk.new w2 _ 60
                  have HOB2 : Hid (∀ k, u11.ownBlock = some k → k < w2.heap.size) := fun k hk => own_block_lt st2.s.o hk
                  have y0 := hz1.cell 0 rfl
                  have y1 := hz1.cell 1 rfl
                  have y2 := hz1.cell 2 rfl
                  have hs12 : w1.heap.size < w2.heap.size := by have h := hb2.size; simp at h; omega
                  clear st2 hb2 hz1
                  go_wp2_with fail
                  refine (HP.out _ _ _ _ _ HST2.out).mono ?_
                  rintro e w3 ⟨v3, rfl, st3, hB3⟩
                  have HST3 : Hid (RT w w3 v1 v2 v3 u12 xa yb (layP s ⟨1, cn, ct⟩) t g1 g2) := st3
                  have hx1 := hB3 w1.heap.size _ _ (fun e => by have := HOB1.out _ e; omega) HZ1.out
                  have hx2 := hB3 w2.heap.size _ _ (fun e => by have := HOB2.out _ e; omega) HZ2.out
                  have z0 := hx1.cell 0 rfl
                  have q0 := hx2.cell 0 rfl
                  have q1 := hx2.cell 1 rfl
                  have q2 := hx2.cell 2 rfl
                  clear st3 hB3 hx1 hx2
                  go_wp2_with fail
                  refine (HQ.out _ _ _ _ _ _ _ HST3.out).mono ?_
                  rintro e w4 ⟨v4, rfl, st4⟩
                  have HST4 : Hid (RT w w4 v1 v2 v3 v4 xa yb (layP s ⟨1, cn, ct⟩) (layP t ⟨1, dn, dt⟩) g1 g2) := st4
                  clear st4
                  go_wp2
                  go_roundg (wt xa + wt yb)
                  case measure => exact HM.out
                  case rel => have hX := HX.out; rw [HE1.out, HE2.out] at hX; exact ⟨xa, yb, _, _, _, _, _, _, _, _, g1, g2, rfl, HST4.out, hX.1, hX.2⟩
                · have HE2 : Hid (stepS t ⟨1, dn, dt⟩ ⟨ck, cn, ct⟩ = t) := HT0.out p1
                  have hc1 : (ck == 1) = false := by simpa using p1
                  clear HS0 HS1 HT0 HT1 p1
                  go_wp2_with fail
                  refine (HHa.out wr _ _ HST.out).mono ?_
                  rintro e w1 ⟨v1, g1, rfl, st1⟩
                  have HST1 : Hid (RT w (w1.alloc (.cells #[.int .i64 ck, .int .i64 cn, .string ct] 60)) v1 _ u11 u12 xa (⟨yk, yn, yt⟩ :: b') s t g1 gb) := st1.here ((Below.refl _ _).alloc (Nat.le_refl _) _)
                  have HOB1 : Hid (∀ k, u11.ownBlock = some k → k < w1.heap.size) := fun k hk => own_block_lt st1.s.o hk
                  clear st1 c0 c1 c2 d0 d1 d2
                  go_wp2_with fail
                  refine (HHb.out _ _ _ _ HST1.out).mono ?_
                  rintro e w2 ⟨v2, g2, rfl, st2, hb2⟩
                  have HST2 : Hid (RT w (w2.alloc (.cells #[.int .i64 1, .int .i64 dn, .string dt] 60)) v1 v2 u11 u12 xa yb s t g1 g2) := st2.here ((Below.refl _ _).alloc (Nat.le_refl _) _)
                  have hz1 : Blk (w2.alloc (.cells #[.int .i64 1, .int .i64 dn, .string dt] 60)) w1.heap.size #[.int .i64 ck, .int .i64 cn, .string ct] 60 := ((Blk.new w1 _ 60).here hb2).alloc _
                  have HZ1 : Hid (Blk (w2.alloc (.cells #[.int .i64 1, .int .i64 dn, .string dt] 60)) w1.heap.size #[.int .i64 ck, .int .i64 cn, .string ct] 60) := hz1
                  have HZ2 : Hid (Blk (w2.alloc (.cells #[.int .i64 1, .int .i64 dn, .string dt] 60)) w2.heap.size #[.int .i64 1, .int .i64 dn, .string dt] 60) := Blk.new w2 _ 60
                  have HOB2 : Hid (∀ k, u11.ownBlock = some k → k < w2.heap.size) := fun k hk => own_block_lt st2.s.o hk
                  have y0 := hz1.cell 0 rfl
                  have y1 := hz1.cell 1 rfl
                  have y2 := hz1.cell 2 rfl
                  have hs12 : w1.heap.size < w2.heap.size := by have h := hb2.size; simp at h; omega
                  clear st2 hb2 hz1
                  go_wp2_with fail
                  refine (HP.out _ _ _ _ _ HST2.out).mono ?_
                  rintro e w3 ⟨v3, rfl, st3, hB3⟩
                  have HST3 : Hid (RT w w3 v1 v2 v3 u12 xa yb (layP s ⟨ck, cn, ct⟩) t g1 g2) := st3
                  have hx1 := hB3 w1.heap.size _ _ (fun e => by have := HOB1.out _ e; omega) HZ1.out
                  have hx2 := hB3 w2.heap.size _ _ (fun e => by have := HOB2.out _ e; omega) HZ2.out
                  have z0 := hx1.cell 0 rfl
                  have q0 := hx2.cell 0 rfl
                  have q1 := hx2.cell 1 rfl
                  have q2 := hx2.cell 2 rfl
                  clear st3 hB3 hx1 hx2
                  go_wp2
                  go_roundg (wt xa + wt yb)
                  case measure => exact HM.out
                  case rel => have hX := HX.out; rw [HE1.out, HE2.out] at hX; exact ⟨xa, yb, _, _, _, _, _, _, _, _, g1, g2, rfl, HST3.out, hX.1, hX.2⟩
              · have HE1 : Hid (stepS s ⟨ck, cn, ct⟩ ⟨dk, dn, dt⟩ = s) := HS0.out q1
                have hd1 : (dk == 1) = false := by simpa using q1
                clear q1
                by_cases p1 : ck = 1
                · have HE2 : Hid (stepS t ⟨dk, dn, dt⟩ ⟨ck, cn, ct⟩ = layP t ⟨dk, dn, dt⟩) := HT1.out p1
                  subst p1
                  clear HS0 HS1 HT0 HT1
                  go_wp2_with fail
                  refine (HHa.out wr _ _ HST.out).mono ?_
                  rintro e w1 ⟨v1, g1, rfl, st1⟩
                  have HST1 : Hid (RT w (w1.alloc (.cells #[.int .i64 1, .int .i64 cn, .string ct] 60)) v1 _ u11 u12 xa (⟨yk, yn, yt⟩ :: b') s t g1 gb) := st1.here ((Below.refl _ _).alloc (Nat.le_refl _) _)
                  have HOB1 : Hid (∀ k, u11.ownBlock = some k → k < w1.heap.size) := fun k hk => own_block_lt st1.s.o hk
                  clear st1 c0 c1 c2 d0 d1 d2
                  go_wp2_with fail
                  refine (HHb.out _ _ _ _ HST1.out).mono ?_
                  rintro e w2 ⟨v2, g2, rfl, st2, hb2⟩
                  have HST2 : Hid (RT w (w2.alloc (.cells #[.int .i64 dk, .int .i64 dn, .string dt] 60)) v1 v2 u11 u12 xa yb s t g1 g2) := st2.here ((Below.refl _ _).alloc (Nat.le_refl _) _)
                  have hz1 : Blk (w2.alloc (.cells #[.int .i64 dk, .int .i64 dn, .string dt] 60)) w1.heap.size #[.int .i64 1, .int .i64 cn, .string ct] 60 := ((Blk.new w1 _ 60).here hb2).alloc _
                  have HZ1 : Hid (Blk (w2.alloc (.cells #[.int .i64 dk, .int .i64 dn, .string dt] 60)) w1.heap.size #[.int .i64 1, .int .i64 cn, .string ct] 60) := hz1
                  have HZ2 : Hid (Blk (w2.alloc (.cells #[.int .i64 dk, .int .i64 dn, .string dt] 60)) w2.heap.size #[.int .i64 dk, .int .i64 dn, .string dt] 60) := Blk.new w2 _ 60
                  have HOB2 : Hid (∀ k, u11.ownBlock = some k → k < w2.heap.size) := fun k hk => own_block_lt st2.s.o hk
                  have y0 := hz1.cell 0 rfl
                  have y1 := hz1.cell 1 rfl
                  have y2 := hz1.cell 2 rfl
                  have hs12 : w1.heap.size < w2.heap.size := by have h := hb2.size; simp at h; omega
                  clear st2 hb2 hz1
                  go_wp2_with fail
                  refine (HQ.out _ _ _ _ _ _ _ HST2.out).mono ?_
                  rintro e w4 ⟨v4, rfl, st4⟩
                  have HST4 : Hid (RT w w4 v1 v2 u11 v4 xa yb s (layP t ⟨dk, dn, dt⟩) g1 g2) := st4
                  clear st4
                  go_wp2
                  go_roundg (wt xa + wt yb)
                  case measure => exact HM.out
                  case rel => have hX := HX.out; rw [HE1.out, HE2.out] at hX; exact ⟨xa, yb, _, _, _, _, _, _, _, _, g1, g2, rfl, HST4.out, hX.1, hX.2⟩
                · have HE2 : Hid (stepS t ⟨dk, dn, dt⟩ ⟨ck, cn, ct⟩ = t) := HT0.out p1
                  have hc1 : (ck == 1) = false := by simpa using p1
                  clear HS0 HS1 HT0 HT1 p1
                  go_wp2_with fail
                  refine (HHa.out wr _ _ HST.out).mono ?_
                  rintro e w1 ⟨v1, g1, rfl, st1⟩
                  have HST1 : Hid (RT w (w1.alloc (.cells #[.int .i64 ck, .int .i64 cn, .string ct] 60)) v1 _ u11 u12 xa (⟨yk, yn, yt⟩ :: b') s t g1 gb) := st1.here ((Below.refl _ _).alloc (Nat.le_refl _) _)
                  have HOB1 : Hid (∀ k, u11.ownBlock = some k → k < w1.heap.size) := fun k hk => own_block_lt st1.s.o hk
                  clear st1 c0 c1 c2 d0 d1 d2
                  go_wp2_with fail
                  refine (HHb.out _ _ _ _ HST1.out).mono ?_
                  rintro e w2 ⟨v2, g2, rfl, st2, hb2⟩
                  have HST2 : Hid (RT w (w2.alloc (.cells #[.int .i64 dk, .int .i64 dn, .string dt] 60)) v1 v2 u11 u12 xa yb s t g1 g2) := st2.here ((Below.refl _ _).alloc (Nat.le_refl _) _)
                  have hz1 : Blk (w2.alloc (.cells #[.int .i64 dk, .int .i64 dn, .string dt] 60)) w1.heap.size #[.int .i64 ck, .int .i64 cn, .string ct] 60 := ((Blk.new w1 _ 60).here hb2).alloc _
                  have HZ1 : Hid (Blk (w2.alloc (.cells #[.int .i64 dk, .int .i64 dn, .string dt] 60)) w1.heap.size #[.int .i64 ck, .int .i64 cn, .string ct] 60) := hz1
                  have HZ2 : Hid (Blk (w2.alloc (.cells #[.int .i64 dk, .int .i64 dn, .string dt] 60)) w2.heap.size #[.int .i64 dk, .int .i64 dn, .string dt] 60) := Blk.new w2 _ 60
                  have HOB2 : Hid (∀ k, u11.ownBlock = some k → k < w2.heap.size) := fun k hk => own_block_lt st2.s.o hk
                  have y0 := hz1.cell 0 rfl
                  have y1 := hz1.cell 1 rfl
                  have y2 := hz1.cell 2 rfl
                  have hs12 : w1.heap.size < w2.heap.size := by have h := hb2.size; simp at h; omega
                  clear st2 hb2 hz1
                  go_wp2
                  go_roundg (wt xa + wt yb)
                  case measure => exact HM.out
                  case rel => have hX := HX.out; rw [HE1.out, HE2.out] at hX; exact ⟨xa, yb, _, _, _, _, _, _, _, _, g1, g2, rfl, HST2.out, hX.1, hX.2⟩
end Go.Proofs.YtdlolnahbgecjaaDoor
namespace Go.Proofs.YtdlolnahbgecjaaDoor
open Go.RowKit
set_option linter.unusedVariables false

set_option maxRecDepth 100000 in
set_option maxHeartbeats 4000000 in
theorem refTurn_any (ps qs : List Pt) (ao bo : Option Addr) (b1 o1 c1 b2 o2 c2 : Nat) (w : World) (A : Arg w ps ao b1 o1) (B : Arg w qs bo b2 o2) :
    Calls Tryd.prog 23 #[.slice ao ps.length c1, .slice bo qs.length c2] w fun e w' => ∃ u v, e = .returned (.tuple #[u, v, .int .i64 (tCode ps qs)]) ∧ Own w' w.heap.size u (tOut1 ps qs) ∧ Own w' w.heap.size v (tOut2 ps qs) ∧ Below w.heap.size w w' := by
  have GA : ∀ wx, Below w.heap.size w wx → Calls Tryd.prog 27 #[.slice ao ps.length c1] wx fun e w' => e = .returned (.bool (Good ps)) ∧ Below wx.heap.size wx w' := fun wx hb => by
    have A' := A.below hb A.lt
    exact good_any ps ao b1 o1 c1 wx A'.ao A'.lt A'.cells A'.len
  have GB : ∀ wx, Below w.heap.size w wx → Calls Tryd.prog 27 #[.slice bo qs.length c2] wx fun e w' => e = .returned (.bool (Good qs)) ∧ Below wx.heap.size wx w' := fun wx hb => by
    have A' := B.below hb B.lt
    exact good_any qs bo b2 o2 c2 wx A'.ao A'.lt A'.cells A'.len
  by_cases hg : Good ps = false ∨ Good qs = false
  · have hc : tCode ps qs = 1 := by unfold tCode; rw [if_pos hg]
    have HO : Hid (tOut1 ps qs = [] ∧ tOut2 ps qs = []) := ⟨by unfold tOut1; rw [if_neg (by omega)], by unfold tOut2; rw [if_neg (by omega)]⟩
    rw [hc, HO.out.1, HO.out.2]
    clear hc
    cases g1 : Good ps with
    | false =>
      rw [g1] at GA
      have HA : Hid (∀ wx, Below w.heap.size w wx → Calls Tryd.prog 27 #[.slice ao ps.length c1] wx fun e w' => e = .returned (.bool false) ∧ Below wx.heap.size wx w') := GA
      clear GA GB A B hg g1
      go_enter Tryd.func23, Tryd.ntmps23
      go_wp2_with fail
      refine (HA.out w (Below.refl _ _)).mono ?_
      rintro e w1 ⟨rfl, hb1⟩
      go_wp2
      exact bodyPost_ret (v := .tuple #[.slice none 0 0, .slice none 0 0, .int .i64 1]) (by simp [results, Tryd.results23, go_sem]) rfl ⟨_, _, rfl, World.ownsRow_nil _ _ _ _, World.ownsRow_nil _ _ _ _, hb1⟩
    | true =>
      have g2 : Good qs = false := by
        rcases hg with h | h
        · rw [g1] at h; cases h
        · exact h
      rw [g1] at GA
      rw [g2] at GB
      have HA : Hid (∀ wx, Below w.heap.size w wx → Calls Tryd.prog 27 #[.slice ao ps.length c1] wx fun e w' => e = .returned (.bool true) ∧ Below wx.heap.size wx w') := GA
      have HB : Hid (∀ wx, Below w.heap.size w wx → Calls Tryd.prog 27 #[.slice bo qs.length c2] wx fun e w' => e = .returned (.bool false) ∧ Below wx.heap.size wx w') := GB
      clear GA GB A B hg g1 g2
      go_enter Tryd.func23, Tryd.ntmps23
      go_wp2_with fail
      refine (HA.out w (Below.refl _ _)).mono ?_
      rintro e w1 ⟨rfl, hb1⟩
      go_wp2_with fail
      refine (HB.out w1 hb1).mono ?_
      rintro e w2 ⟨rfl, hb2⟩
      have hbw2 : Below w.heap.size w w2 := hb1.trans (hb2.mono hb1.size)
      go_wp2
      exact bodyPost_ret (v := .tuple #[.slice none 0 0, .slice none 0 0, .int .i64 1]) (by simp [results, Tryd.results23, go_sem]) rfl ⟨_, _, rfl, World.ownsRow_nil _ _ _ _, World.ownsRow_nil _ _ _ _, hbw2⟩
  · have g1 : Good ps = true := by cases e : Good ps with | true => rfl | false => exact absurd (Or.inl e) hg
    have g2 : Good qs = true := by cases e : Good qs with | true => rfl | false => exact absurd (Or.inr e) hg
    rw [g1] at GA
    rw [g2] at GB
    have HA : Hid (∀ wx, Below w.heap.size w wx → Calls Tryd.prog 27 #[.slice ao ps.length c1] wx fun e w' => e = .returned (.bool true) ∧ Below wx.heap.size wx w') := GA
    have HB : Hid (∀ wx, Below w.heap.size w wx → Calls Tryd.prog 27 #[.slice bo qs.length c2] wx fun e w' => e = .returned (.bool true) ∧ Below wx.heap.size wx w') := GB
    have HF1 : Hid (∀ wx, Below w.heap.size w wx → Calls Tryd.prog 28 #[.slice ao ps.length c1] wx fun e w' => e = .returned (.int .i64 (From ps)) ∧ w' = wx) := fun wx hb => by
      have A' := A.below hb A.lt
      exact from_any ps ao b1 o1 c1 wx A'.ao A'.cells A'.len (A.nn g1)
    have HF2 : Hid (∀ wx, Below w.heap.size w wx → Calls Tryd.prog 28 #[.slice bo qs.length c2] wx fun e w' => e = .returned (.int .i64 (From qs)) ∧ w' = wx) := fun wx hb => by
      have A' := B.below hb B.lt
      exact from_any qs bo b2 o2 c2 wx A'.ao A'.cells A'.len (B.nn g2)
    by_cases hf : From ps < 0 ∨ From qs < 0 ∨ From ps ≠ From qs
    · have hc : tCode ps qs = 2 := by unfold tCode; rw [if_neg hg, if_pos hf]
      have HO : Hid (tOut1 ps qs = [] ∧ tOut2 ps qs = []) := ⟨by unfold tOut1; rw [if_neg (by omega)], by unfold tOut2; rw [if_neg (by omega)]⟩
      rw [hc, HO.out.1, HO.out.2]
      clear GA GB A B hg g1 g2 hc
      generalize From ps = fp at *
      generalize From qs = fq at *
      by_cases h1 : fp < 0
      · clear hf
        go_enter Tryd.func23, Tryd.ntmps23
        go_wp2_with fail
        refine (HA.out w (Below.refl _ _)).mono ?_
        rintro e w1 ⟨rfl, hb1⟩
        go_wp2_with fail
        refine (HB.out w1 hb1).mono ?_
        rintro e w2 ⟨rfl, hb2⟩
        have hbw2 : Below w.heap.size w w2 := hb1.trans (hb2.mono hb1.size)
        go_wp2_with fail
        refine (HF1.out w2 hbw2).mono ?_
        rintro e w3 ⟨rfl, hww⟩
        obtain rfl := hww.symm
        clear hww
        go_wp2_with fail
        refine (HF2.out w2 hbw2).mono ?_
        rintro e w3 ⟨rfl, hww⟩
        obtain rfl := hww.symm
        clear hww
        go_wp2
        exact bodyPost_ret (v := .tuple #[.slice none 0 0, .slice none 0 0, .int .i64 2]) (by simp [results, Tryd.results23, go_sem]) rfl ⟨_, _, rfl, World.ownsRow_nil _ _ _ _, World.ownsRow_nil _ _ _ _, hbw2⟩
      · have hd1 : decide (fp < 0) = false := by simpa using h1
        by_cases h2 : fq < 0
        · clear hf
          go_enter Tryd.func23, Tryd.ntmps23
          go_wp2_with fail
          refine (HA.out w (Below.refl _ _)).mono ?_
          rintro e w1 ⟨rfl, hb1⟩
          go_wp2_with fail
          refine (HB.out w1 hb1).mono ?_
          rintro e w2 ⟨rfl, hb2⟩
          have hbw2 : Below w.heap.size w w2 := hb1.trans (hb2.mono hb1.size)
          go_wp2_with fail
          refine (HF1.out w2 hbw2).mono ?_
          rintro e w3 ⟨rfl, hww⟩
          obtain rfl := hww.symm
          clear hww
          go_wp2_with fail
          refine (HF2.out w2 hbw2).mono ?_
          rintro e w3 ⟨rfl, hww⟩
          obtain rfl := hww.symm
          clear hww
          go_wp2
          exact bodyPost_ret (v := .tuple #[.slice none 0 0, .slice none 0 0, .int .i64 2]) (by simp [results, Tryd.results23, go_sem]) rfl ⟨_, _, rfl, World.ownsRow_nil _ _ _ _, World.ownsRow_nil _ _ _ _, hbw2⟩
        · have hd2 : decide (fq < 0) = false := by simpa using h2
          have hne : (fp != fq) = true := by
            rcases hf with h | h | h
            · exact absurd h h1
            · exact absurd h h2
            · simpa using h
          clear hf
          go_enter Tryd.func23, Tryd.ntmps23
          go_wp2_with fail
          refine (HA.out w (Below.refl _ _)).mono ?_
          rintro e w1 ⟨rfl, hb1⟩
          go_wp2_with fail
          refine (HB.out w1 hb1).mono ?_
          rintro e w2 ⟨rfl, hb2⟩
          have hbw2 : Below w.heap.size w w2 := hb1.trans (hb2.mono hb1.size)
          go_wp2_with fail
          refine (HF1.out w2 hbw2).mono ?_
          rintro e w3 ⟨rfl, hww⟩
          obtain rfl := hww.symm
          clear hww
          go_wp2_with fail
          refine (HF2.out w2 hbw2).mono ?_
          rintro e w3 ⟨rfl, hww⟩
          obtain rfl := hww.symm
          clear hww
          go_wp2
          exact bodyPost_ret (v := .tuple #[.slice none 0 0, .slice none 0 0, .int .i64 2]) (by simp [results, Tryd.results23, go_sem]) rfl ⟨_, _, rfl, World.ownsRow_nil _ _ _ _, World.ownsRow_nil _ _ _ _, hbw2⟩
    · have hc : tCode ps qs = 0 := by unfold tCode; rw [if_neg hg, if_neg hf]
      have HO : Hid (tOut1 ps qs = settleP (Tn (shortL ps) (shortL qs) ws0 ws0).1 ∧ tOut2 ps qs = settleP (Tn (shortL ps) (shortL qs) ws0 ws0).2) := ⟨by unfold tOut1; rw [if_pos hc], by unfold tOut2; rw [if_pos hc]⟩
      rw [hc, HO.out.1, HO.out.2]
      obtain ⟨n, hn⟩ : ∃ n, fromTo ps ps.length = some n := by
        cases e : fromTo ps ps.length with
        | none => exfalso; apply hf; left; simp [From, e]
        | some n => exact ⟨n, rfl⟩
      obtain ⟨m, hm⟩ : ∃ m, fromTo qs qs.length = some m := by
        cases e : fromTo qs qs.length with
        | none => exfalso; apply hf; right; left; simp [From, e]
        | some m => exact ⟨m, rfl⟩
      have e1 : From ps = n := by simp [From, hn]
      have e2 : From qs = m := by simp [From, hm]
      have e3 : m = n := Decidable.byContradiction fun h => hf (Or.inr (Or.inr (by omega)))
      subst e3
      exact refTurn_ok ps qs ao bo b1 o1 c1 b2 o2 c2 w A B g1 g2 m hn hm
theorem tOut_len {w : World} {ps qs : List Pt} {ao bo : Option Addr} {b1 o1 b2 o2 : Nat} (A : Arg w ps ao b1 o1) (B : Arg w qs bo b2 o2) : (tOut1 ps qs).length ≤ 100000000 ∧ (tOut2 ps qs).length ≤ 100000000 := by
  by_cases h : tCode ps qs = 0
  · have h0 := h
    unfold tCode at h
    split at h
    · simp at h
    · rename_i hg
      have g1 : Good ps = true := by cases e : Good ps with | true => rfl | false => exact absurd (Or.inl e) hg
      have g2 : Good qs = true := by cases e : Good qs with | true => rfl | false => exact absurd (Or.inr e) hg
      split at h
      · simp at h
      · rename_i hf
        obtain ⟨n, hn⟩ : ∃ n, fromTo ps ps.length = some n := by
          cases e : fromTo ps ps.length with
          | none => exfalso; apply hf; left; simp [From, e]
          | some n => exact ⟨n, rfl⟩
        obtain ⟨m, hm⟩ : ∃ m, fromTo qs qs.length = some m := by
          cases e : fromTo qs qs.length with
          | none => exfalso; apply hf; right; left; simp [From, e]
          | some m => exact ⟨m, rfl⟩
        have e1 : From ps = n := by simp [From, hn]
        have e2 : From qs = m := by simp [From, hm]
        have e3 : m = n := Decidable.byContradiction fun h => hf (Or.inr (Or.inr (by omega)))
        subst e3
        have k1 := sh_ok A g1 hn
        have k2 := sh_ok B g2 hm
        have := TOk.fin _ _ _ _ _ _ _ _ _ _ _ (Nat.le_refl _) (tok_start k1.1 k2.1 (by rw [k1.2, k2.2]))
        unfold tOut1 tOut2
        rw [if_pos h0, if_pos h0]
        exact ⟨by omega, by omega⟩
  · unfold tOut1 tOut2
    rw [if_neg h, if_neg h]
    simp
theorem tCode_bd (ps qs : List Pt) : 0 ≤ tCode ps qs ∧ tCode ps qs ≤ 100 := by rcases tCode_or ps qs with h | h | h <;> omega
end Go.Proofs.YtdlolnahbgecjaaDoor
