import Derived.Test.YtdlolnahbgecjaaDoorTurned
import Derived.Test.YtdlolnahbgecjaaDoorWtr
import Derived.Test.YtdlolnahbgecjaaDoorDoesWalk
import Derived.Test.YtdlolnahbgecjaaDoorTurnG
namespace Go.Proofs.YtdlolnahbgecjaaDoor
open Go.RowKit
set_option linter.unusedVariables false

def bytes (t : ByteArray) : List UInt8 := t.data.toList
theorem bytes_app (a b : ByteArray) : bytes (a ++ b) = bytes a ++ bytes b := by
  unfold bytes; rw [ByteArray.data_append, Array.toList_append]
theorem bytes_len (a : ByteArray) : (bytes a).length = a.size := by unfold bytes; rw [Array.length_toList]; rfl
theorem bytes_ext {a b : ByteArray} (h : bytes a = bytes b) : a = b := by
  unfold bytes at h
  cases a; cases b
  simp only at h
  congr 1
  exact Array.toList_inj.1 h
theorem bytes_extract (t : ByteArray) (a b : Nat) : bytes (t.extract a b) = ((bytes t).take b).drop a := by
  unfold bytes
  rw [ByteArray.data_extract, Array.toList_extract, List.extract_eq_take_drop]
  rw [List.drop_take]
/-- what a change makes of bytes -/
def doB : List Pt → List UInt8 → List UInt8
  | [], _ => []
  | p :: r, t => if p.k = 1 then t.take p.n.toNat ++ doB r (t.drop p.n.toNat) else if p.k = 2 then bytes p.t ++ doB r t else doB r (t.drop p.n.toNat)
theorem pl_toNat {p : Pt} (h : okP p) (hk : p.k ≠ 2) : pl p = p.n.toNat := by have := (pl_n h hk).1; omega
theorem doB_append : ∀ {l : List Pt} (m : List Pt) (t : List UInt8), allOk l → doB (l ++ m) t = doB l t ++ doB m (t.drop (fromL l))
  | [], m, t, _ => by simp [doB, fromL]
  | p :: r, m, t, h => by
    obtain ⟨hp, hr⟩ := allOk_cons h
    simp only [List.cons_append, doB, fromL]
    by_cases h1 : p.k = 1
    · rw [if_pos h1, if_pos h1, if_neg (by omega), pl_toNat hp (by omega), doB_append m _ hr, List.drop_drop, List.append_assoc]
    · rw [if_neg h1, if_neg h1]
      by_cases h2 : p.k = 2
      · rw [if_pos h2, if_pos h2, if_pos h2, Nat.zero_add, doB_append m _ hr, List.append_assoc]
      · rw [if_neg h2, if_neg h2, if_neg h2, pl_toNat hp h2, doB_append m _ hr, List.drop_drop]
theorem doB_len : ∀ {l : List Pt} (t : List UInt8), allOk l → fromL l ≤ t.length → (doB l t).length = madeL l
  | [], t, _, _ => rfl
  | p :: r, t, h, hl => by
    obtain ⟨hp, hr⟩ := allOk_cons h
    simp only [doB, madeL, fromL] at hl ⊢
    by_cases h1 : p.k = 1
    · rw [if_neg (by omega), pl_toNat hp (by omega)] at hl
      rw [if_pos h1, if_neg (by omega), pl_toNat hp (by omega), List.length_append, List.length_take, doB_len _ hr (by rw [List.length_drop]; omega)]
      omega
    · by_cases h2 : p.k = 2
      · rw [if_pos h2, Nat.zero_add] at hl
        rw [if_neg h1, if_pos h2, if_neg (by omega), List.length_append, bytes_len, doB_len _ hr hl, (pl_t hp h2).1]
      · rw [if_neg h2, pl_toNat hp h2] at hl
        have h3 : p.k = 3 := by rcases hp with ⟨h | h, _⟩ | ⟨h, _⟩ <;> omega
        rw [if_neg h1, if_neg h2, if_pos h3, doB_len _ hr (by rw [List.length_drop]; omega), Nat.zero_add]
theorem push_do {l : List Pt} {p : Pt} (hl : allOk l) (hp : okP p) (u : List UInt8) : doB (pushP l p) u = doB (l ++ [p]) u := by
  have hs := okP_some hp
  rcases snoc_cases l with rfl | ⟨r, q, rfl⟩
  · rw [pushP_nil hs]; rfl
  · have hr : allOk r := fun x hx => hl x (by simp [hx])
    have hq : okP q := hl q (by simp)
    by_cases e : q.k = p.k
    · rw [pushP_same hs e, List.append_assoc, doB_append _ _ hr, doB_append _ _ hr]
      congr 1
      generalize u.drop (fromL r) = v
      have n1 := okP_nn hq
      have n2 := okP_nn hp
      simp only [List.cons_append, List.nil_append, doB]
      by_cases h1 : q.k = 1
      · rw [if_pos h1, if_pos h1, if_pos (by omega)]
        simp only [List.append_nil]
        rw [show (q.n + p.n).toNat = q.n.toNat + p.n.toNat by omega, List.take_add]
      · rw [if_neg h1, if_neg h1]
        by_cases h2 : q.k = 2
        · rw [if_pos h2, if_pos h2, if_neg (by omega), if_pos (by omega), bytes_app]; simp
        · rw [if_neg h2, if_neg h2, if_neg (by omega), if_neg (by omega)]
    · by_cases e2 : p.k ≠ 2 ∨ q.k ≠ 3
      · rw [pushP_snoc hs e e2]
      · have e3 : p.k = 2 := Decidable.byContradiction fun x => e2 (Or.inl x)
        have e4 : q.k = 3 := Decidable.byContradiction fun x => e2 (Or.inr x)
        rcases snoc_cases r with rfl | ⟨r, q2, rfl⟩
        · simp only [List.nil_append]
          rw [pushP_swap1 hs e3 e4]
          simp [doB, e3, e4]
        · have hr' : allOk r := fun x hx => hr x (by simp [hx])
          rw [show r ++ [q2] ++ [q] = r ++ [q2, q] by simp]
          by_cases e5 : q2.k = 2
          · rw [pushP_swap2 hs e3 e4 e5, List.append_assoc, doB_append _ _ hr', doB_append _ _ hr']
            congr 1
            simp [doB, e3, e4, e5, bytes_app]
          · rw [pushP_swap3 hs e3 e4 e5, List.append_assoc, List.append_assoc, doB_append _ _ hr', doB_append _ _ hr']
            congr 1
            have hq2 : okP q2 := hr q2 (by simp)
            by_cases h1 : q2.k = 1
            · simp [doB, e3, e4, h1]
            · simp [doB, e3, e4, h1, e5]
/-- a writer has come from s to s': it has been given the parts e -/
structure Ly (s s' : WS) (e : List Pt) : Prop where
  dos : ∀ x u, allOk x → doB (settleP s' ++ x) u = doB (settleP s ++ (e ++ x)) u
  sum : sumL (settleP s') = sumL (settleP s) + sumL e
  len : (settleP s').length ≤ (settleP s).length + e.length
  txt : textL (settleP s') ≤ textL (settleP s) + textL e
  ok : allOk (settleP s')
  eok : allOk e
theorem Ly.refl {s : WS} (h : allOk (settleP s)) : Ly s s [] := ⟨fun _ _ _ => rfl, by simp [sumL], by simp, by simp [textL], h, fun q hq => by cases hq⟩
theorem Ly.lay {s : WS} {S : Int} {L A : Nat} (h : SOk s S L A) {p : Pt} (hp : okP p) : Ly s (layP s p) [p] := by
  have hl : allOk (settleP s) := h.p.ok
  have hP := (show POk (settleP s) (sumL (settleP s)) (settleP s).length (textL (settleP s)) from ⟨h.p.ok, Int.le_refl _, Nat.le_refl _, Nat.le_refl _⟩).push hp
  have hok : allOk (pushP (settleP s) p) := hP.ok
  have hsum := push_sum (l := settleP s) hp
  have hok2 : allOk (settleP s ++ [p]) := allOk_app hl (fun q hq => by rw [List.mem_singleton] at hq; subst hq; exact hp)
  have hfr : fromL (pushP (settleP s) p) = fromL (settleP s ++ [p]) := by
    have e1 := sum_from hok
    have e2 := sum_from hok2
    rw [sumL_append] at e2
    simp only [sumL] at e2
    omega
  rw [← h.step hp] at hP hok hsum hfr
  refine ⟨fun x u hx => ?_, by simp only [sumL]; omega, by have := hP.len; simp; omega, by have := hP.txt; simp only [textL]; omega, hok, fun q hq => by rw [List.mem_singleton] at hq; subst hq; exact hp⟩
  rw [doB_append _ _ hok, ← List.append_assoc, doB_append _ _ hok2, hfr, h.step hp, push_do hl hp]
theorem Ly.trans {s s1 s2 : WS} {e f : List Pt} (h : Ly s s1 e) (k : Ly s1 s2 f) : Ly s s2 (e ++ f) := by
  refine ⟨fun x u hx => ?_, by rw [sumL_append]; have := h.sum; have := k.sum; omega, by rw [List.length_append]; have := h.len; have := k.len; omega, by rw [textL_append]; have := h.txt; have := k.txt; omega, k.ok, allOk_app h.eok k.eok⟩
  rw [k.dos x u hx, h.dos _ u (allOk_app k.eok hx), List.append_assoc]
theorem Ly.fin {s' : WS} {e : List Pt} (h : Ly ws0 s' e) (u : List UInt8) : doB (settleP s') u = doB e u := by
  have := h.dos [] u (fun q hq => by cases hq)
  simpa [ws0, settle_zero] using this

/-- a part, cut in two, does the same -/
theorem cut_do {x : Pt} {a : List Pt} (ox : okP x) {m : Nat} (h1 : 1 ≤ m) (h2 : m ≤ pl x) (u : List UInt8) : doB (x :: a) u = doB (cut x 0 m :: (restP x m ++ a)) u := by
  by_cases hall : pl x ≤ m
  · rw [rest_all hall, show m = pl x by omega, cut_all ox]; rfl
  · rw [rest_part (by omega)]
    obtain ⟨c1, l1, k1⟩ := cut_ok ox (a := 0) (m := m) h1 (by omega)
    obtain ⟨c2, l2, k2⟩ := cut_ok ox (a := m) (m := pl x - m) (by omega) (by omega)
    simp only [List.cons_append, List.nil_append, doB, k1, k2]
    by_cases hk : x.k = 2
    · have hk1 : ¬ x.k = 1 := by omega
      simp only [if_neg hk1, if_pos hk]
      rw [← List.append_assoc]
      congr 1
      obtain ⟨e1, e2⟩ := pl_t ox hk
      unfold cut
      rw [if_pos hk, if_pos hk]
      simp only
      rw [bytes_extract, bytes_extract, e1, Nat.zero_add, List.drop_zero, show m + (x.t.size - m) = x.t.size by omega, ← bytes_len, List.take_length, List.take_append_drop]
    · have e0 : x.n.toNat = pl x := (pl_toNat ox hk).symm
      have e1 : (cut x 0 m).n.toNat = m := by rw [← pl_toNat c1 (by omega)]; exact l1
      have e2 : (cut x m (pl x - m)).n.toNat = pl x - m := by rw [← pl_toNat c2 (by omega)]; exact l2
      rw [e0, e1, e2]
      by_cases hk1 : x.k = 1
      · simp only [if_pos hk1]
        rw [List.drop_drop, show m + (pl x - m) = pl x by omega, ← List.append_assoc]
        congr 1
        rw [show pl x = m + (pl x - m) by omega, List.take_add]; congr 2; omega
      · simp only [if_neg hk1, if_neg hk]
        rw [List.drop_drop, show m + (pl x - m) = pl x by omega]
end Go.Proofs.YtdlolnahbgecjaaDoor
namespace Go.Proofs.YtdlolnahbgecjaaDoor
open Go.RowKit
set_option linter.unusedVariables false

theorem doB_one (p : Pt) (r : List Pt) (u : List UInt8) : doB (p :: r) u = doB [p] u ++ doB r (if p.k = 2 then u else u.drop p.n.toNat) := by
  simp only [doB]
  by_cases h1 : p.k = 1
  · rw [if_pos h1, if_pos h1, if_neg (by omega)]; simp
  · by_cases h2 : p.k = 2
    · rw [if_neg h1, if_pos h2, if_neg h1, if_pos h2, if_pos h2]; simp
    · rw [if_neg h1, if_neg h2, if_neg h1, if_neg h2, if_neg h2]; simp
theorem take_app_left {α : Type} (a b : List α) (n : Nat) (h : a.length = n) : (a ++ b).take n = a ∧ (a ++ b).drop n = b := by subst h; simp

/-- what a turn gives -/
theorem turn_res : ∀ (n : Nat) (a b : List Pt) (s t : WS) (S : Int) (L A : Nat) (S' : Int) (L' A' : Nat), wt a + wt b ≤ n → TOk a b s t S L A S' L' A' →
    ∃ e f, Ly s (Tn a b s t).1 e ∧ Ly t (Tn a b s t).2 f ∧ e.length ≤ a.length + b.length ∧ f.length ≤ a.length + b.length ∧ textL e ≤ textL a ∧ textL f ≤ textL b ∧ sumL e = madeL b ∧ sumL f = madeL a ∧ ∀ u : List UInt8, u.length = fromL a → doB f (doB a u) = doB e (doB b u)
  | n, [], [], s, t, S, L, A, S', L', A', _, h => by
    rw [Tn_nil]
    exact ⟨[], [], Ly.refl h.s.p.ok, Ly.refl h.t.p.ok, by simp, by simp, by simp, by simp, rfl, rfl, fun u _ => rfl⟩
  | 0, x :: a, b, s, t, S, L, A, S', L', A', hn, h => by simp only [wt] at hn; omega
  | 0, [], y :: b, s, t, S, L, A, S', L', A', hn, h => by simp only [wt] at hn; omega
  | n + 1, [], y :: b, s, t, S, L, A, S', L', A', hn, h => by
    have hy := h.left
    have oy := (allOk_cons h.okb).1
    have hw := wt_cons y b
    rw [Tn_addB h.oka h.okb hy (fun x a' e => by cases e)]
    obtain ⟨e, f, h1, h2, h3, h4, h5, h6, h7, h8, h9⟩ := turn_res n [] b _ _ _ _ _ _ _ _ (by omega) (h.addB hy)
    have ep := (pl_t oy hy).1
    refine ⟨[keepPt y] ++ e, [y] ++ f, (Ly.lay h.s (keepPt_ok oy hy)).trans h1, (Ly.lay h.t oy).trans h2, by simp at h3 ⊢; omega, by simp at h4 ⊢; omega, ?_, ?_, ?_, ?_, fun u hu => ?_⟩
    · rw [textL_append]; simp only [textL, keepPt] at h5 ⊢; show 0 + 0 + _ ≤ _; omega
    · rw [textL_append]; simp only [textL]; omega
    · rw [sumL_append, h7]; simp only [sumL, madeL, keepPt]; rw [if_neg (by omega)]; omega
    · rw [sumL_append, h8]; simp only [sumL]; have := (pl_t oy hy).2; omega
    · have hk1 : ¬ y.k = 1 := by omega
      have := h9 u hu
      simp only [List.cons_append, List.nil_append, doB, if_neg hk1, if_pos hy]
      rw [if_pos (show (keepPt y).k = 1 from rfl), show (keepPt y).n.toNat = y.t.size from by simp [keepPt]]
      obtain ⟨q1, q2⟩ := take_app_left (bytes y.t) (doB b u) y.t.size (bytes_len _)
      simp only [doB] at this
      rw [q1, q2, this]
  | n + 1, x :: a, b, s, t, S, L, A, S', L', A', hn, h => by
    have ox := (allOk_cons h.oka).1
    by_cases hx : x.k = 2
    · have hw := wt_cons x a
      rw [Tn_addA h.oka h.okb hx]
      obtain ⟨e, f, h1, h2, h3, h4, h5, h6, h7, h8, h9⟩ := turn_res n a b _ _ _ _ _ _ _ _ (by omega) (h.addA hx)
      have ep := (pl_t ox hx).1
      refine ⟨[x] ++ e, [keepPt x] ++ f, (Ly.lay h.s ox).trans h1, (Ly.lay h.t (keepPt_ok ox hx)).trans h2, by simp at h3 ⊢; omega, by simp at h4 ⊢; omega, ?_, ?_, ?_, ?_, fun u hu => ?_⟩
      · rw [textL_append]; simp only [textL]; omega
      · rw [textL_append]; simp only [textL, keepPt]; show 0 + 0 + _ ≤ _; omega
      · rw [sumL_append, h7]; simp only [sumL]; have := (pl_t ox hx).2; omega
      · rw [sumL_append, h8]; simp only [sumL, madeL, keepPt]; rw [if_neg (by omega)]; omega
      · have hk1 : ¬ x.k = 1 := by omega
        simp only [fromL, if_pos hx, Nat.zero_add] at hu
        have := h9 u hu
        simp only [List.cons_append, List.nil_append, doB, if_neg hk1, if_pos hx]
        rw [if_pos (show (keepPt x).k = 1 from rfl), show (keepPt x).n.toNat = x.t.size from by simp [keepPt]]
        obtain ⟨q1, q2⟩ := take_app_left (bytes x.t) (doB a u) x.t.size (bytes_len _)
        rw [q1, q2, this]
    · cases b with
      | nil => exact absurd h.right hx
      | cons y b =>
        have oy := (allOk_cons h.okb).1
        by_cases hy : y.k = 2
        · have hw := wt_cons y b
          rw [Tn_addB h.oka h.okb hy (fun x' a' e => by cases e; exact hx)]
          obtain ⟨e, f, h1, h2, h3, h4, h5, h6, h7, h8, h9⟩ := turn_res n (x :: a) b _ _ _ _ _ _ _ _ (by omega) (h.addB hy)
          have ep := (pl_t oy hy).1
          refine ⟨[keepPt y] ++ e, [y] ++ f, (Ly.lay h.s (keepPt_ok oy hy)).trans h1, (Ly.lay h.t oy).trans h2, by simp at h3 ⊢; omega, by simp at h4 ⊢; omega, ?_, ?_, ?_, ?_, fun u hu => ?_⟩
          · rw [textL_append]; simp only [textL, keepPt] at h5 ⊢; show 0 + 0 + _ ≤ _; omega
          · rw [textL_append]; simp only [textL]; omega
          · rw [sumL_append, h7]; simp only [sumL, madeL, keepPt]; rw [if_neg (by omega)]; omega
          · rw [sumL_append, h8]; simp only [sumL]; have := (pl_t oy hy).2; omega
          · have hk1 : ¬ y.k = 1 := by omega
            have := h9 u hu
            generalize doB (x :: a) u = v at *
            simp only [List.cons_append, List.nil_append, doB, if_neg hk1, if_pos hy]
            rw [if_pos (show (keepPt y).k = 1 from rfl), show (keepPt y).n.toNat = y.t.size from by simp [keepPt]]
            obtain ⟨q1, q2⟩ := take_app_left (bytes y.t) (doB b u) y.t.size (bytes_len _)
            rw [q1, q2, this]
        · have p1 := pl_pos ox
          have p2 := pl_pos oy
          rw [Tn_both h.oka h.okb hx hy]
          have hrm := rest_min x y
          obtain ⟨m, hm⟩ : ∃ m, min (pl x) (pl y) = m := ⟨_, rfl⟩
          rw [hm] at hrm ⊢
          obtain ⟨h', ocx, ocy, hck, hcy, hcn, hdn, hct, hdt, hm1, hmx, hmy, ex, ey, _, _⟩ := h.both hx hy hm
          have w2 := rest_wt ox (k := m) hm1
          have w3 := rest_wt oy (k := m) hm1
          simp only [wt] at hn
          obtain ⟨e, f, h1, h2, h3, h4, h5, h6, h7, h8, h9⟩ := turn_res n _ _ _ _ _ _ _ _ _ _ (by rw [wt_append, wt_append]; omega) h'
          have rt1 := rest_text ox (k := m) hmx
          have rt2 := rest_text oy (k := m) hmy
          rw [if_neg hx] at rt1
          rw [if_neg hy] at rt2
          rw [List.length_append, List.length_append] at h3 h4
          rw [textL_append] at h5 h6
          rw [madeL_append, rest_made oy hmy] at h7
          rw [madeL_append, rest_made ox hmx] at h8
          have kx : x.k = 1 ∨ x.k = 3 := by rcases ox with ⟨h, _⟩ | ⟨h, _⟩; exact h; exact absurd h hx
          have ky : y.k = 1 ∨ y.k = 3 := by rcases oy with ⟨h, _⟩ | ⟨h, _⟩; exact h; exact absurd h hy
          have hfx : fromL (restP x m ++ a) = fromL (x :: a) - m := by
            rw [fromL_append, rest_from ox hmx, if_neg hx]; simp only [fromL, if_neg hx]; omega
          have g0 : fromL (x :: a) = fromL (y :: b) := h.fit
          have gm : m ≤ fromL (x :: a) := by simp only [fromL, if_neg hx]; omega
          -- what is laid by the step
          have eS : Ly s (stepS s (cut x 0 m) (cut y 0 m)) (if y.k = 1 then [cut x 0 m] else []) := by
            unfold stepS
            by_cases q : y.k = 1
            · rw [if_pos (by omega), if_pos q]; exact Ly.lay h.s ocx
            · rw [if_neg (by omega), if_neg q]; exact Ly.refl h.s.p.ok
          have eT : Ly t (stepS t (cut y 0 m) (cut x 0 m)) (if x.k = 1 then [cut y 0 m] else []) := by
            unfold stepS
            by_cases q : x.k = 1
            · rw [if_pos (by omega), if_pos q]; exact Ly.lay h.t ocy
            · rw [if_neg (by omega), if_neg q]; exact Ly.refl h.t.p.ok
          refine ⟨(if y.k = 1 then [cut x 0 m] else []) ++ e, (if x.k = 1 then [cut y 0 m] else []) ++ f, eS.trans h1, eT.trans h2, ?_, ?_, ?_, ?_, ?_, ?_, fun u hu => ?_⟩
          · rw [List.length_append]; simp only [List.length_cons]; split <;> simp <;> omega
          · rw [List.length_append]; simp only [List.length_cons]; split <;> simp <;> omega
          · rw [textL_append]; simp only [textL]; split <;> simp only [textL] <;> omega
          · rw [textL_append]; simp only [textL]; split <;> simp only [textL] <;> omega
          · rw [sumL_append, h7]
            simp only [madeL]
            rcases ky with q | q
            · rw [if_pos q, if_neg (by omega), if_neg (by omega)]; simp only [sumL]; omega
            · rw [if_neg (by omega), if_pos q, if_pos q]; simp only [sumL]; omega
          · rw [sumL_append, h8]
            simp only [madeL]
            rcases kx with q | q
            · rw [if_pos q, if_neg (by omega), if_neg (by omega)]; simp only [sumL]; omega
            · rw [if_neg (by omega), if_pos q, if_pos q]; simp only [sumL]; omega
          · rw [cut_do ox hm1 hmx, cut_do oy hm1 hmy]
            have h9' := h9 (u.drop m) (by rw [List.length_drop, hu, hfx])
            have nx : (cut x 0 m).n.toNat = m := by rw [hcn]; simp
            have ny : (cut y 0 m).n.toNat = m := by rw [hdn]; simp
            have hul : (u.take m).length = m := by rw [List.length_take, hu]; omega
            have cX : doB (cut x 0 m :: (restP x m ++ a)) u = (if x.k = 1 then u.take m else []) ++ doB (restP x m ++ a) (u.drop m) := by
              simp only [doB, hck, nx]
              rcases kx with q | q
              · rw [if_pos q, if_pos q]
              · rw [if_neg (by omega), if_neg (by omega), if_neg (by omega)]; rfl
            have cY : doB (cut y 0 m :: (restP y m ++ b)) u = (if y.k = 1 then u.take m else []) ++ doB (restP y m ++ b) (u.drop m) := by
              simp only [doB, hcy, ny]
              rcases ky with q | q
              · rw [if_pos q, if_pos q]
              · rw [if_neg (by omega), if_neg (by omega), if_neg (by omega)]; rfl
            rw [cX, cY]
            obtain ⟨q1, q2⟩ := take_app_left (u.take m) (doB (restP x m ++ a) (u.drop m)) m hul
            obtain ⟨q3, q4⟩ := take_app_left (u.take m) (doB (restP y m ++ b) (u.drop m)) m hul
            generalize doB (restP x m ++ a) (u.drop m) = r1 at *
            generalize doB (restP y m ++ b) (u.drop m) = r2 at *
            generalize u.take m = tm at *
            rcases kx with kx | kx <;> rcases ky with ky | ky
            · simp only [if_pos kx, if_pos ky, List.cons_append, List.nil_append, doB, hck, hcy, nx, ny]
              rw [q1, q2, q3, q4, h9']
            · have ky1 : ¬ y.k = 1 := by omega
              simp only [if_pos kx, if_neg ky1, if_neg hy, List.cons_append, List.nil_append, doB, hcy, ny]
              rw [q2, h9']
            · have kx1 : ¬ x.k = 1 := by omega
              simp only [if_pos ky, if_neg kx1, if_neg hx, List.cons_append, List.nil_append, doB, hck, nx]
              rw [q4, h9']
            · have kx1 : ¬ x.k = 1 := by omega
              have ky1 : ¬ y.k = 1 := by omega
              simp only [if_neg ky1, if_neg kx1, List.nil_append]
              exact h9'
/-- what a join gives -/
theorem join_res : ∀ (n : Nat) (a b : List Pt) (s : WS) (S : Int) (L A : Nat), wt a + wt b ≤ n → JOk a b s S L A →
    ∃ e, Ly s (Jn a b s) e ∧ e.length ≤ a.length + b.length ∧ textL e ≤ textL a + textL b ∧ sumL e = fromL a ∧ ∀ u : List UInt8, u.length = fromL a → doB e u = doB b (doB a u)
  | n, [], [], s, S, L, A, _, h => by
    rw [Jn_nil]
    exact ⟨[], Ly.refl h.s.p.ok, by simp, by simp [textL], rfl, fun u _ => rfl⟩
  | 0, x :: a, b, s, S, L, A, hn, h => by simp only [wt] at hn; omega
  | 0, [], y :: b, s, S, L, A, hn, h => by simp only [wt] at hn; omega
  | n + 1, [], y :: b, s, S, L, A, hn, h => by
    have hy := h.left
    have oy := (allOk_cons h.okb).1
    have hw := wt_cons y b
    rw [Jn_add h.oka h.okb hy]
    obtain ⟨e, h1, h2, h3, h4, h5⟩ := join_res n [] b _ _ _ _ (by omega) (h.add hy)
    refine ⟨[y] ++ e, (Ly.lay h.s oy).trans h1, by simp at h2 ⊢; omega, by rw [textL_append]; simp only [textL] at h3 ⊢; omega, by rw [sumL_append, h4]; simp only [sumL]; have := (pl_t oy hy).2; omega, fun u hu => ?_⟩
    have hk1 : ¬ y.k = 1 := by omega
    have := h5 u hu
    simp only [List.cons_append, List.nil_append, doB, if_neg hk1, if_pos hy] at this ⊢
    rw [this]
  | n + 1, x :: a, b, s, S, L, A, hn, h => by
    have ox := (allOk_cons h.oka).1
    by_cases hx : x.k = 3
    · have hw := wt_cons x a
      rw [Jn_drop h.oka h.okb hx]
      obtain ⟨e, h1, h2, h3, h4, h5⟩ := join_res n a b _ _ _ _ (by omega) (h.drop hx)
      have e1 := pl_toNat ox (by omega)
      have e2 := (pl_n ox (by omega)).1
      refine ⟨[x] ++ e, (Ly.lay h.s ox).trans h1, by simp at h2 ⊢; omega, by rw [textL_append]; simp only [textL] at h3 ⊢; omega, by rw [sumL_append, h4]; simp only [sumL, fromL]; rw [if_neg (by omega)]; omega, fun u hu => ?_⟩
      have hk1 : ¬ x.k = 1 := by omega
      have hk2 : ¬ x.k = 2 := by omega
      simp only [fromL, if_neg hk2] at hu
      have := h5 (u.drop x.n.toNat) (by rw [List.length_drop]; omega)
      simp only [List.cons_append, List.nil_append, doB, if_neg hk1, if_neg hk2]
      rw [this]
    · cases b with
      | nil => exact absurd h.right hx
      | cons y b =>
        have oy := (allOk_cons h.okb).1
        by_cases hy : y.k = 2
        · have hw := wt_cons y b
          rw [Jn_add h.oka h.okb hy]
          obtain ⟨e, h1, h2, h3, h4, h5⟩ := join_res n (x :: a) b _ _ _ _ (by omega) (h.add hy)
          refine ⟨[y] ++ e, (Ly.lay h.s oy).trans h1, by simp at h2 ⊢; omega, by rw [textL_append]; simp only [textL] at h3 ⊢; omega, by rw [sumL_append, h4]; simp only [sumL]; have := (pl_t oy hy).2; omega, fun u hu => ?_⟩
          have hk1 : ¬ y.k = 1 := by omega
          have := h5 u hu
          generalize doB (x :: a) u = v at *
          simp only [List.cons_append, List.nil_append, doB, if_neg hk1, if_pos hy]
          rw [this]
        · have p1 := pl_pos ox
          have p2 := pl_pos oy
          rw [Jn_both h.oka h.okb hx hy]
          have hrm := rest_min x y
          obtain ⟨S2, A2, h'⟩ := h.both hx hy
          obtain ⟨m, hm⟩ : ∃ m, min (pl x) (pl y) = m := ⟨_, rfl⟩
          obtain ⟨hl1, hl2, hck, hcy, hm1⟩ := h.layBoth hx hy hm
          rw [hm] at hrm h' ⊢
          have hmx : m ≤ pl x := by omega
          have hmy : m ≤ pl y := by omega
          have w2 := rest_wt ox (k := m) hm1
          have w3 := rest_wt oy (k := m) hm1
          simp only [wt] at hn
          obtain ⟨e, h1, h2, h3, h4, h5⟩ := join_res n _ _ _ _ _ _ (by rw [wt_append, wt_append]; omega) h'
          obtain ⟨cx, cxl, cxk⟩ := cut_ok ox (a := 0) (m := m) hm1 (by omega)
          obtain ⟨cy, cyl, cyk⟩ := cut_ok oy (a := 0) (m := m) hm1 (by omega)
          have rt1 := rest_text ox (k := m) hmx
          have rt2 := rest_text oy (k := m) hmy
          rw [if_neg hy] at rt2
          have rf1 := rest_from ox (k := m) hmx
          rw [List.length_append, List.length_append] at h2
          rw [textL_append, textL_append] at h3
          rw [fromL_append] at h4
          have kx : x.k = 1 ∨ x.k = 2 := by rcases ox with ⟨h | h, _⟩ | ⟨h, _⟩ <;> omega
          have ky : y.k = 1 ∨ y.k = 3 := by rcases oy with ⟨h, _⟩ | ⟨h, _⟩; exact h; exact absurd h hy
          obtain ⟨ey, eyt⟩ := pl_n cy (by omega)
          have ny : (cut y 0 m).n.toNat = m := by rw [← pl_toNat cy (by omega)]; exact cyl
          have gyt : (cut y 0 m).t.size = 0 := by rw [eyt]; rfl
          rcases kx with kx | kx
          · -- a keeps
            obtain ⟨ex, ext⟩ := pl_n cx (by omega)
            have nx : (cut x 0 m).n.toNat = m := by rw [← pl_toNat cx (by omega)]; exact cxl
            have gxt : (cut x 0 m).t.size = 0 := by rw [ext]; rfl
            have x2 : ¬ x.k = 2 := by omega
            rw [if_neg x2] at rt1 rf1
            have exx := (pl_n ox x2).1
            rw [stepJ_keep ox oy kx hy hm1 hmx hmy] at h1 ⊢
            refine ⟨[cut y 0 m] ++ e, (Ly.lay h.s cy).trans h1, by simp; omega, by rw [textL_append]; simp only [textL]; omega, by rw [sumL_append, h4]; simp only [sumL, fromL]; rw [if_neg x2]; omega, fun u hu => ?_⟩
            simp only [fromL, if_neg x2] at hu
            have h5' := h5 (u.drop m) (by rw [List.length_drop, fromL_append]; omega)
            rw [cut_do ox hm1 hmx, cut_do oy hm1 hmy]
            have hul : (u.take m).length = m := by rw [List.length_take]; omega
            have cX : doB (cut x 0 m :: (restP x m ++ a)) u = u.take m ++ doB (restP x m ++ a) (u.drop m) := by
              simp only [doB, cxk, nx]; rw [if_pos kx]
            rw [cX]
            obtain ⟨q1, q2⟩ := take_app_left (u.take m) (doB (restP x m ++ a) (u.drop m)) m hul
            generalize doB (restP x m ++ a) (u.drop m) = r1 at *
            simp only [List.cons_append, List.nil_append]
            rw [show doB (cut y 0 m :: (restP y m ++ b)) (u.take m ++ r1) = (if y.k = 1 then u.take m else []) ++ doB (restP y m ++ b) r1 by
              simp only [doB, cyk, ny]
              rcases ky with q | q
              · rw [if_pos q, if_pos q, q1, q2]
              · rw [if_neg (by omega), if_neg (by omega), if_neg (by omega), q2]; rfl]
            rw [show doB (cut y 0 m :: e) u = (if y.k = 1 then u.take m else []) ++ doB e (u.drop m) by
              simp only [doB, cyk, ny]
              rcases ky with q | q
              · rw [if_pos q, if_pos q]
              · rw [if_neg (by omega), if_neg (by omega), if_neg (by omega)]; rfl]
            rw [h5']
          · -- a adds
            rw [if_pos kx] at rt1 rf1
            have x1 : ¬ x.k = 1 := by omega
            have gx := (pl_t cx (by omega))
            have gxx := (pl_t ox kx)
            have eS : Ly s (stepJ s (cut x 0 m) (cut y 0 m)) (if y.k = 1 then [cut x 0 m] else []) := by
              by_cases q : y.k = 1
              · rw [stepJ_add1 (by omega), if_pos q]; exact Ly.lay h.s cx
              · rw [stepJ_add3 (by omega) (by omega), if_neg q]; exact Ly.refl h.s.p.ok
            refine ⟨(if y.k = 1 then [cut x 0 m] else []) ++ e, eS.trans h1, ?_, ?_, ?_, fun u hu => ?_⟩
            · rw [List.length_append]; simp only [List.length_cons]; split <;> simp <;> omega
            · rw [textL_append]; simp only [textL]; split <;> simp only [textL] <;> omega
            · rw [sumL_append, h4]; simp only [fromL]; rw [if_pos kx]; split <;> simp only [sumL] <;> omega
            · simp only [fromL, if_pos kx, Nat.zero_add] at hu
              have h5' := h5 u (by rw [fromL_append]; omega)
              rw [cut_do ox hm1 hmx, cut_do oy hm1 hmy]
              have cX : doB (cut x 0 m :: (restP x m ++ a)) u = bytes (cut x 0 m).t ++ doB (restP x m ++ a) u := by
                simp only [doB, cxk]; rw [if_neg x1, if_pos kx]
              rw [cX]
              obtain ⟨q1, q2⟩ := take_app_left (bytes (cut x 0 m).t) (doB (restP x m ++ a) u) m (by rw [bytes_len]; omega)
              generalize doB (restP x m ++ a) u = r1 at *
              rw [show doB (cut y 0 m :: (restP y m ++ b)) (bytes (cut x 0 m).t ++ r1) = (if y.k = 1 then bytes (cut x 0 m).t else []) ++ doB (restP y m ++ b) r1 by
                simp only [doB, cyk, ny]
                rcases ky with q | q
                · rw [if_pos q, if_pos q, q1, q2]
                · rw [if_neg (by omega), if_neg (by omega), if_neg (by omega), q2]; rfl]
              rcases ky with q | q
              · simp only [if_pos q, List.cons_append, List.nil_append, doB, cxk, if_neg x1, if_pos kx]
                rw [h5']
              · have y1 : ¬ y.k = 1 := by omega
                simp only [if_neg y1, List.nil_append]
                exact h5'
theorem short_do {l : List Pt} (h : allOk l) (u : List UInt8) : doB (shortL l) u = doB l u := by
  have key : ∀ (r acc : List Pt), allOk acc → allOk r → doB (r.foldl pushP acc) u = doB (acc ++ r) u := by
    intro r
    induction r with
    | nil => intro acc _ _; simp
    | cons p r ih =>
      intro acc ha hr
      obtain ⟨hp, hr'⟩ := allOk_cons hr
      have hP := (show POk acc (sumL acc) acc.length (textL acc) from ⟨ha, Int.le_refl _, Nat.le_refl _, Nat.le_refl _⟩).push hp
      have hok : allOk (pushP acc p) := hP.ok
      have hok2 : allOk (acc ++ [p]) := allOk_app ha (fun q hq => by rw [List.mem_singleton] at hq; subst hq; exact hp)
      have hfr : fromL (pushP acc p) = fromL (acc ++ [p]) := by
        have e1 := sum_from hok
        have e2 := sum_from hok2
        rw [push_sum hp] at e1
        rw [sumL_append] at e2
        simp only [sumL] at e2
        omega
      rw [List.foldl_cons, ih _ hok hr', doB_append _ _ hok, show acc ++ p :: r = (acc ++ [p]) ++ r by simp, doB_append _ _ hok2, push_do ha hp, hfr]
  have := key l [] (fun q hq => by cases hq) h
  simpa [shortL] using this
end Go.Proofs.YtdlolnahbgecjaaDoor
namespace Go.Proofs.YtdlolnahbgecjaaDoor
open Go.RowKit
set_option linter.unusedVariables false

theorem doTo_do {text : ByteArray} {ps : List Pt} (h : allOk ps) : ∀ k, k ≤ ps.length → bytes (doTo text ps k).1 = doB (ps.take k) (bytes text) ∧ bytes (doTo text ps k).2 = (bytes text).drop (fromL (ps.take k))
  | 0, _ => by simp [doTo, doB, fromL, bytes]
  | k + 1, hk => by
    obtain ⟨h1, h2⟩ := doTo_do h k (by omega)
    have hp := nth_ok h (show k < ps.length by omega)
    have ht : allOk (ps.take k) := fun q hq => h q (List.mem_of_mem_take hq)
    rw [take_nth ps k (by omega), doB_append _ _ ht, fromL_append]
    simp only [doTo, doneOf, curOf, doB, fromL]
    generalize nth ps k = q at *
    generalize doTo text ps k = d at *
    by_cases k1 : q.k = 1
    · have k2 : ¬ q.k = 2 := by omega
      simp only [if_pos k1, if_neg k2]
      rw [bytes_app, bytes_extract, bytes_extract, h1, h2, List.drop_zero, pl_toNat hp k2, List.append_nil, Nat.add_zero]
      refine ⟨rfl, ?_⟩
      rw [← bytes_len, h2, List.take_length, List.drop_drop]
    · by_cases k2 : q.k = 2
      · simp only [if_neg k1, if_pos k2]
        rw [bytes_app, h1, h2, List.append_nil, Nat.zero_add, Nat.add_zero]
        exact ⟨rfl, rfl⟩
      · simp only [if_neg k1, if_neg k2]
        rw [bytes_app, bytes_extract, h1, h2, (pl_n hp k2).2, pl_toNat hp k2, Nat.add_zero]
        refine ⟨by simp [bytes], ?_⟩
        rw [← bytes_len, h2, List.take_length, List.drop_drop]
/-- a change that fits a text -/
structure Fts (ps : List Pt) (text : ByteArray) : Prop where
  ok : allOk ps
  fit : fromL ps = text.size
theorem from_of_sum {ps : List Pt} (h : allOk ps) (hs : sumL ps ≤ 4611686018427387904) : ∀ k, k ≤ ps.length → fromTo ps k = some (sumL (ps.take k))
  | 0, _ => by simp [fromTo, sumL]
  | k + 1, hk => by
    have ih := from_of_sum h hs k (by omega)
    have hp := okP_nn (nth_ok h (show k < ps.length by omega))
    have e : sumL (ps.take (k + 1)) = sumL (ps.take k) + (nth ps k).n := by rw [take_nth ps k (by omega), sumL_append]; simp [sumL]
    have n2 : 0 ≤ sumL (ps.drop (k + 1)) := allOk_nn (fun q hq => h q (List.mem_of_mem_drop hq))
    have e2 : sumL ps = sumL (ps.take (k + 1)) + sumL (ps.drop (k + 1)) := by rw [← sumL_append, List.take_append_drop]
    rw [e]
    simp only [fromTo, ih]
    rw [if_neg (by omega)]
theorem good_of_ok {ps : List Pt} (h : allOk ps) : Good ps = true := by
  unfold Good; rw [List.all_eq_true]; exact fun p hp => okP_of (h p hp)
theorem Fts.ref {ps : List Pt} {text : ByteArray} (h : Fts ps text) (hs : text.size ≤ 4611686018427387904) : refFit ps text.size = (madeTo ps ps.length, 0) := by
  have e := sum_from h.ok
  have hf := from_of_sum h.ok (by have := h.fit; omega) ps.length (Nat.le_refl _)
  rw [List.take_length] at hf
  have hF : From ps = sumL ps := by simp [From, hf]
  have := h.fit
  unfold refFit
  rw [if_neg (by simp [good_of_ok h.ok]), if_neg (by omega)]
theorem Fts.of {ps : List Pt} {text : ByteArray} (h : (refFit ps text.size).2 = 0) : Fts ps text := by
  unfold refFit at h
  split at h
  · simp at h
  · rename_i hg
    have hg : Good ps = true := by simpa using hg
    split at h
    · simp at h
    · rename_i hf
      have ok := good_allOk hg
      obtain ⟨s, hs⟩ : ∃ s, fromTo ps ps.length = some s := by
        cases e : fromTo ps ps.length with
        | none => exfalso; apply hf; left; simp [From, e]
        | some s => exact ⟨s, rfl⟩
      have e1 := fromTo_sum _ _ (Nat.le_refl _) hs
      rw [List.take_length] at e1
      have e2 : From ps = s := by simp [From, hs]
      have e3 := sum_from ok
      exact ⟨ok, by omega⟩
theorem Fts.out {ps : List Pt} {text : ByteArray} (h : Fts ps text) (hs : text.size ≤ 4611686018427387904) : bytes (doOut text ps) = doB ps (bytes text) := by
  unfold doOut
  rw [h.ref hs, if_pos rfl]
  have := (doTo_do (text := text) h.ok ps.length (Nat.le_refl _)).1
  rw [List.take_length] at this
  exact this
theorem Fts.size {ps : List Pt} {text : ByteArray} (h : Fts ps text) (hs : text.size ≤ 4611686018427387904) : (doOut text ps).size = madeL ps := by
  rw [← bytes_len, h.out hs, doB_len _ h.ok (by rw [bytes_len, h.fit]; exact Nat.le_refl _)]
theorem made_le' {l : List Pt} (h : allOk l) : madeL l ≤ fromL l + textL l := by
  have := made_le h
  have := sum_from h
  omega
/-- a row as an argument -/
theorem Arg.own {w : World} {B : Nat} {v : Value} {l : List Pt} (ho : w.ownsRow B 61 3 v l.length (cellsOf l)) (ok : allOk l) (hl : l.length ≤ 1048576) (ht : textL l ≤ 1048576) (hs : sumL l ≤ 9223372036854775807) : ∃ ao g cap, v = .slice ao l.length cap ∧ Arg w l ao g 0 := by
  obtain ⟨ao, g, cap, hv, ha, hat, _⟩ := Owns.form (show Owns w B v l from ho)
  have hn : ∀ i, 0 ≤ (nth l i).n ∧ (nth l i).n ≤ 9223372036854775807 ∧ 0 ≤ (nth l i).k ∧ (nth l i).k ≤ 3 := fun i => by
    by_cases hi : i < l.length
    · have hp := nth_ok ok hi
      have hm : nth l i ∈ l := by simp only [nth, List.getD, List.getElem?_eq_getElem hi, Option.getD_some]; exact List.getElem_mem _
      have h1 := mem_bd ok _ hm
      have h2 := okP_nn hp
      have h3 : (nth l i).k = 1 ∨ (nth l i).k = 2 ∨ (nth l i).k = 3 := by rcases hp with ⟨h | h, _⟩ | ⟨h, _⟩ <;> omega
      omega
    · simp [nth, List.getD, List.getElem?_eq_none (by omega : l.length ≤ i)]
  have t1 := textTo_L (ps := l) _ (Nat.le_refl _)
  rw [List.take_length] at t1
  exact ⟨ao, g, cap, hv, fun h => (ha h).1, fun h => (ha h).2.2, hat, hl, by omega, fun i => by have := hn i; omega, fun i => by have := hn i; omega⟩
end Go.Proofs.YtdlolnahbgecjaaDoor
