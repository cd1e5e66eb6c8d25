import Derived.Test.YtdlolnahbgecjaaDoorRJ2
import Derived.Test.YtdlolnahbgecjaaDoorLay2
namespace Go.Proofs.YtdlolnahbgecjaaDoor
open Go.RowKit
set_option linter.unusedVariables false

/-- as much kept as a part adds -/
def keepPt (p : Pt) : Pt := ⟨1, (p.t.size : Nat), ⟨#[]⟩⟩
def stepS (s : WS) (p q : Pt) : WS := if q.k = 1 then layP s p else s
/-- turning: what the two writers hold in the end (n: as many steps as there may be) -/
def T : Nat → List Pt → List Pt → WS → WS → WS × WS
  | 0, _, _, s, t => (s, t)
  | _ + 1, [], [], s, t => (s, t)
  | n + 1, [], y :: b, s, t => if y.k = 2 then T n [] b (layP s (keepPt y)) (layP t y) else (s, t)
  | n + 1, x :: a, [], s, t => if x.k = 2 then T n a [] (layP s x) (layP t (keepPt x)) else (s, t)
  | n + 1, x :: a, y :: b, s, t =>
    if x.k = 2 then T n a (y :: b) (layP s x) (layP t (keepPt x))
    else if y.k = 2 then T n (x :: a) b (layP s (keepPt y)) (layP t y)
    else T n (restP x (min (pl x) (pl y)) ++ a) (restP y (min (pl x) (pl y)) ++ b) (stepS s (cut x 0 (min (pl x) (pl y))) (cut y 0 (min (pl x) (pl y)))) (stepS t (cut y 0 (min (pl x) (pl y))) (cut x 0 (min (pl x) (pl y))))
theorem T_more : ∀ (n : Nat) (a b : List Pt) (s t : WS), allOk a → allOk b → wt a + wt b ≤ n → T (n + 1) a b s t = T n a b s t
  | 0, a, b, s, t, ha, hb, h => by
    cases a with
    | nil => cases b with
      | nil => rfl
      | cons y b => simp only [wt] at h; omega
    | cons x a => simp only [wt] at h; omega
  | n + 1, a, b, s, t, ha, hb, h => by
    cases a with
    | nil => cases b with
      | nil => rfl
      | cons y b =>
        simp only [wt] at h
        rw [T.eq_3, T.eq_3]
        split
        · exact T_more n [] b _ _ ha (allOk_cons hb).2 (by simp only [wt]; omega)
        · rfl
    | cons x a => cases b with
      | nil =>
        simp only [wt] at h
        rw [T.eq_4, T.eq_4]
        split
        · exact T_more n a [] _ _ (allOk_cons ha).2 hb (by simp only [wt]; omega)
        · rfl
      | cons y b =>
        obtain ⟨hx, ha'⟩ := allOk_cons ha
        obtain ⟨hy, hb'⟩ := allOk_cons hb
        simp only [wt] at h
        rw [T.eq_5, T.eq_5]
        split
        · exact T_more n a (y :: b) _ _ ha' hb (by simp only [wt]; omega)
        · split
          · exact T_more n (x :: a) b _ _ ha hb' (by simp only [wt]; omega)
          · have h1 := pl_pos hx
            have h2 := pl_pos hy
            have w1 := rest_wt hx (k := min (pl x) (pl y)) (by omega)
            have w2 := rest_wt hy (k := min (pl x) (pl y)) (by omega)
            exact T_more n _ _ _ _ (allOk_app (rest_ok hx _) ha') (allOk_app (rest_ok hy _) hb') (by rw [wt_append, wt_append]; omega)
theorem T_le {a b : List Pt} (ha : allOk a) (hb : allOk b) (s t : WS) {n : Nat} (h : wt a + wt b ≤ n) : T n a b s t = T (wt a + wt b) a b s t := by
  obtain ⟨m, rfl⟩ : ∃ m, n = wt a + wt b + m := ⟨n - (wt a + wt b), by omega⟩
  clear h
  induction m with
  | zero => rfl
  | succ m ih => rw [← Nat.add_assoc, T_more _ a b s t ha hb (by omega), ih]
/-- turning -/
def Tn (a b : List Pt) (s t : WS) : WS × WS := T (wt a + wt b) a b s t
theorem Tn_nil (s t : WS) : Tn [] [] s t = (s, t) := rfl
theorem Tn_addA {a b : List Pt} {x : Pt} {s t : WS} (ha : allOk (x :: a)) (hb : allOk b) (hx : x.k = 2) : Tn (x :: a) b s t = Tn a b (layP s x) (layP t (keepPt x)) := by
  have ha' := (allOk_cons ha).2
  unfold Tn
  simp only [wt]
  rw [show pl x + 1 + wt a + wt b = (pl x + wt a + wt b) + 1 by omega]
  cases b with
  | nil => rw [T.eq_4, if_pos hx]; exact T_le ha' hb _ _ (by simp only [wt]; omega)
  | cons y b => rw [T.eq_5, if_pos hx]; exact T_le ha' hb _ _ (by omega)
theorem Tn_addB {a b : List Pt} {y : Pt} {s t : WS} (ha : allOk a) (hb : allOk (y :: b)) (hy : y.k = 2) (hn : ∀ x a', a = x :: a' → x.k ≠ 2) : Tn a (y :: b) s t = Tn a b (layP s (keepPt y)) (layP t y) := by
  have hb' := (allOk_cons hb).2
  unfold Tn
  simp only [wt]
  rw [show wt a + (pl y + 1 + wt b) = (wt a + pl y + wt b) + 1 by omega]
  cases a with
  | nil => rw [T.eq_3, if_pos hy]; exact T_le ha hb' _ _ (by simp only [wt]; omega)
  | cons x a => rw [T.eq_5, if_neg (hn x a rfl), if_pos hy]; exact T_le ha hb' _ _ (by omega)
theorem Tn_both {a b : List Pt} {x y : Pt} {s t : WS} (ha : allOk (x :: a)) (hb : allOk (y :: b)) (hx : x.k ≠ 2) (hy : y.k ≠ 2) :
    Tn (x :: a) (y :: b) s t = Tn (restP x (min (pl x) (pl y)) ++ a) (restP y (min (pl x) (pl y)) ++ b) (stepS s (cut x 0 (min (pl x) (pl y))) (cut y 0 (min (pl x) (pl y)))) (stepS t (cut y 0 (min (pl x) (pl y))) (cut x 0 (min (pl x) (pl y)))) := by
  obtain ⟨ox, ha'⟩ := allOk_cons ha
  obtain ⟨oy, hb'⟩ := allOk_cons hb
  have h1 := pl_pos ox
  have h2 := pl_pos oy
  have w1 := rest_wt ox (k := min (pl x) (pl y)) (by omega)
  have w2 := rest_wt oy (k := min (pl x) (pl y)) (by omega)
  unfold Tn
  rw [show wt (x :: a) + wt (y :: b) = (pl x + wt a + (pl y + 1 + wt b)) + 1 by simp only [wt]; omega, T.eq_5, if_neg hx, if_neg hy]
  exact T_le (allOk_app (rest_ok ox _) ha') (allOk_app (rest_ok oy _) hb') _ _ (by rw [wt_append, wt_append]; omega)

/-- where a turn stands -/
structure TOk (a b : List Pt) (s t : WS) (S : Int) (L A : Nat) (S' : Int) (L' A' : Nat) : Prop where
  oka : allOk a
  okb : allOk b
  fit : fromL a = fromL b
  s : SOk s S L A
  t : SOk t S' L' A'
  sum : S + sumL a + textL b ≤ 4611686018437387904
  sum' : S' + sumL b + textL a ≤ 4611686018437387904
  len : L + 3 * (a.length + b.length) ≤ 10000000
  len' : L' + 3 * (a.length + b.length) ≤ 10000000
  txt : A + textL a ≤ 10000000
  txt' : A' + textL b ≤ 10000000
theorem TOk.swap {a b : List Pt} {s t : WS} {S : Int} {L A : Nat} {S' : Int} {L' A' : Nat} (h : TOk a b s t S L A S' L' A') : TOk b a t s S' L' A' S L A :=
  ⟨h.okb, h.oka, h.fit.symm, h.t, h.s, h.sum', h.sum, by have := h.len'; omega, by have := h.len; omega, h.txt', h.txt⟩
theorem keepPt_ok {p : Pt} (h : okP p) (hk : p.k = 2) : okP (keepPt p) := by
  have h1 := pl_pos h
  have h2 := (pl_t h hk).1
  exact Or.inl ⟨Or.inl rfl, by show 1 ≤ ((p.t.size : Nat) : Int); omega, rfl⟩
/-- what the calls of a step need -/
theorem TOk.addA {a b : List Pt} {x : Pt} {s t : WS} {S : Int} {L A : Nat} {S' : Int} {L' A' : Nat} (h : TOk (x :: a) b s t S L A S' L' A') (hx : x.k = 2) :
    TOk a b (layP s x) (layP t (keepPt x)) S (L + 3) (A + x.t.size) (S' + x.t.size) (L' + 3) A' := by
  obtain ⟨ox, ha⟩ := allOk_cons h.oka
  have e := (pl_t ox hx).2
  have h1 := h.fit
  have h2 := h.sum
  have h3 := h.sum'
  have h4 := h.len
  have h5 := h.len'
  have h6 := h.txt
  have hs := h.s.lay ox
  rw [e, Int.add_zero] at hs
  have ht := h.t.lay (keepPt_ok ox hx)
  simp only [fromL, hx, if_true, Nat.zero_add] at h1
  simp only [sumL, textL, List.length_cons] at h2 h3 h4 h5 h6
  exact ⟨ha, h.okb, h1, hs, ht, by omega, by omega, by omega, by omega, by omega, h.txt'⟩
theorem TOk.addB {a b : List Pt} {y : Pt} {s t : WS} {S : Int} {L A : Nat} {S' : Int} {L' A' : Nat} (h : TOk a (y :: b) s t S L A S' L' A') (hy : y.k = 2) :
    TOk a b (layP s (keepPt y)) (layP t y) (S + y.t.size) (L + 3) A S' (L' + 3) (A' + y.t.size) := (h.swap.addA hy).swap
theorem TOk.left {b : List Pt} {y : Pt} {s t : WS} {S : Int} {L A : Nat} {S' : Int} {L' A' : Nat} (h : TOk [] (y :: b) s t S L A S' L' A') : y.k = 2 := by
  have h1 := h.fit
  have := pl_pos (allOk_cons h.okb).1
  simp only [fromL] at h1
  by_cases e : y.k = 2
  · exact e
  · rw [if_neg e] at h1; omega
theorem TOk.right {a : List Pt} {x : Pt} {s t : WS} {S : Int} {L A : Nat} {S' : Int} {L' A' : Nat} (h : TOk (x :: a) [] s t S L A S' L' A') : x.k = 2 := h.swap.left
theorem SOk.stepS {s : WS} {S : Int} {L A : Nat} (h : SOk s S L A) {p q : Pt} (hp : okP p) : SOk (stepS s p q) (S + p.n) (L + 3) (A + p.t.size) := by
  unfold Go.Proofs.YtdlolnahbgecjaaDoor.stepS
  have := okP_nn hp
  split
  · exact h.lay hp
  · exact h.mono (by omega) (by omega) (by omega)
theorem TOk.both {a b : List Pt} {x y : Pt} {s t : WS} {S : Int} {L A : Nat} {S' : Int} {L' A' : Nat} (h : TOk (x :: a) (y :: b) s t S L A S' L' A') (hx : x.k ≠ 2) (hy : y.k ≠ 2) {m : Nat} (hm : min (pl x) (pl y) = m) :
    TOk (restP x m ++ a) (restP y m ++ b) (stepS s (cut x 0 m) (cut y 0 m)) (stepS t (cut y 0 m) (cut x 0 m)) (S + m) (L + 3) A (S' + m) (L' + 3) A' ∧
      okP (cut x 0 m) ∧ okP (cut y 0 m) ∧ (cut x 0 m).k = x.k ∧ (cut y 0 m).k = y.k ∧ (cut x 0 m).n = m ∧ (cut y 0 m).n = m ∧ (cut x 0 m).t.size = 0 ∧ (cut y 0 m).t.size = 0 ∧ 1 ≤ m ∧ m ≤ pl x ∧ m ≤ pl y ∧ (pl x : Int) = x.n ∧ (pl y : Int) = y.n ∧ S + m ≤ 4611686018437387904 ∧ S' + m ≤ 4611686018437387904 := by
  obtain ⟨ox, ha⟩ := allOk_cons h.oka
  obtain ⟨oy, hb⟩ := allOk_cons h.okb
  have p1 := pl_pos ox
  have p2 := pl_pos oy
  have hrm := rest_min x y
  rw [hm] at hrm
  obtain ⟨cx, cxl, cxk⟩ := cut_ok ox (a := 0) (m := m) (by omega) (by omega)
  obtain ⟨cy, cyl, cyk⟩ := cut_ok oy (a := 0) (m := m) (by omega) (by omega)
  obtain ⟨ex, ext⟩ := pl_n ox hx
  obtain ⟨ey, eyt⟩ := pl_n oy hy
  obtain ⟨fx, fxt⟩ := pl_n cx (by omega)
  obtain ⟨fy, fyt⟩ := pl_n cy (by omega)
  have gx : (cut x 0 m).t.size = 0 := by rw [fxt]; rfl
  have gy : (cut y 0 m).t.size = 0 := by rw [fyt]; rfl
  have h1 := h.fit
  have h2 := h.sum
  have h3 := h.sum'
  have h4 := h.len
  have h5 := h.len'
  have h6 := h.txt
  have h7 := h.txt'
  have hs := h.s.stepS (q := cut y 0 m) cx
  have ht := h.t.stepS (q := cut x 0 m) cy
  rw [show (cut x 0 m).n = m by omega, gx, Nat.add_zero] at hs
  rw [show (cut y 0 m).n = m by omega, gy, Nat.add_zero] at ht
  have n1 := allOk_nn ha
  have n2 := allOk_nn hb
  have r1 := rest_sum ox (k := m) (by omega)
  have r2 := rest_sum oy (k := m) (by omega)
  have r3 := rest_text ox (k := m) (by omega)
  have r4 := rest_text oy (k := m) (by omega)
  have r5 := rest_from ox (k := m) (by omega)
  have r6 := rest_from oy (k := m) (by omega)
  rw [if_neg hx] at r1 r3 r5
  rw [if_neg hy] at r2 r4 r6
  simp only [fromL, if_neg hx, if_neg hy] at h1
  simp only [sumL, textL, List.length_cons] at h2 h3 h4 h5 h6 h7
  refine ⟨⟨allOk_app (rest_ok ox _) ha, allOk_app (rest_ok oy _) hb, ?_, hs, ht, ?_, ?_, ?_, ?_, ?_, ?_⟩, cx, cy, cxk, cyk, by omega, by omega, gx, gy, by omega, by omega, by omega, ex, ey, by omega, by omega⟩
  · rw [fromL_append, fromL_append]; omega
  · rw [sumL_append, textL_append]; omega
  · rw [sumL_append, textL_append]; omega
  · rw [List.length_append, List.length_append]; omega
  · rw [List.length_append, List.length_append]; omega
  · rw [textL_append]; omega
  · rw [textL_append]; omega
theorem TOk.small {a b : List Pt} {s t : WS} {S : Int} {L A : Nat} {S' : Int} {L' A' : Nat} (h : TOk a b s t S L A S' L' A') : S + textL b ≤ 4611686018437387904 ∧ S' + textL a ≤ 4611686018437387904 ∧ L ≤ 10000000 ∧ L' ≤ 10000000 ∧ A ≤ 10000000 ∧ A' ≤ 10000000 ∧ a.length ≤ 10000000 ∧ b.length ≤ 10000000 := by
  have h2 := h.sum
  have h3 := h.sum'
  have h4 := h.len
  have h5 := h.len'
  have h6 := h.txt
  have h7 := h.txt'
  have n1 := allOk_nn h.oka
  have n2 := allOk_nn h.okb
  exact ⟨by omega, by omega, by omega, by omega, by omega, by omega, by omega, by omega⟩
theorem TOk.fin : ∀ (n : Nat) (a b : List Pt) (s t : WS) (S : Int) (L A : Nat) (S' : Int) (L' A' : Nat), wt a + wt b ≤ n → TOk a b s t S L A S' L' A' → (settleP (Tn a b s t).1).length ≤ 10000000 ∧ (settleP (Tn a b s t).2).length ≤ 10000000
  | n, [], [], s, t, S, L, A, S', L', A', _, h => by
    rw [Tn_nil]
    have h1 := h.small
    have h2 := h.s.p.len
    have h3 := h.t.p.len
    exact ⟨by show (settleP s).length ≤ _; omega, by show (settleP t).length ≤ _; omega⟩
  | 0, x :: a, b, s, t, S, L, A, S', L', A', hn, h => by simp only [wt] at hn; omega
  | 0, [], y :: b, s, t, S, L, A, S', L', A', hn, h => by simp only [wt] at hn; omega
  | n + 1, [], y :: b, s, t, S, L, A, S', L', A', hn, h => by
    have hy := h.left
    rw [Tn_addB h.oka h.okb hy (fun x a' e => by cases e)]
    have := wt_cons y b
    exact TOk.fin n [] b _ _ _ _ _ _ _ _ (by omega) (h.addB hy)
  | n + 1, x :: a, b, s, t, S, L, A, S', L', A', hn, h => by
    by_cases hx : x.k = 2
    · rw [Tn_addA h.oka h.okb hx]
      have := wt_cons x a
      exact TOk.fin n a b _ _ _ _ _ _ _ _ (by omega) (h.addA hx)
    · cases b with
      | nil => exact absurd h.right hx
      | cons y b =>
        by_cases hy : y.k = 2
        · rw [Tn_addB h.oka h.okb hy (fun x' a' e => by cases e; exact hx)]
          have := wt_cons y b
          exact TOk.fin n (x :: a) b _ _ _ _ _ _ _ _ (by omega) (h.addB hy)
        · rw [Tn_both h.oka h.okb hx hy]
          have h' := (h.both hx hy rfl).1
          have p1 := pl_pos (allOk_cons h.oka).1
          have p2 := pl_pos (allOk_cons h.okb).1
          have h2 := rest_wt (allOk_cons h.oka).1 (k := min (pl x) (pl y)) (by omega)
          have h3 := rest_wt (allOk_cons h.okb).1 (k := min (pl x) (pl y)) (by omega)
          simp only [wt] at hn
          exact TOk.fin n _ _ _ _ _ _ _ _ _ _ (by rw [wt_append, wt_append]; omega) h'

theorem push_sum {l : List Pt} {p : Pt} (hp : okP p) : sumL (pushP l p) = sumL l + p.n := by
  have hs := okP_some hp
  rcases snoc_cases l with rfl | ⟨r, q, rfl⟩
  · rw [pushP_nil hs]; simp [sumL]
  · by_cases e : q.k = p.k
    · rw [pushP_same hs e]; simp only [sumL_append, sumL]; omega
    · by_cases e2 : p.k ≠ 2 ∨ q.k ≠ 3
      · rw [pushP_snoc hs e e2]; simp only [sumL_append, sumL]; omega
      · have e3 : p.k = 2 := Decidable.byContradiction fun x => e2 (Or.inl x)
        have e4 : q.k = 3 := Decidable.byContradiction fun x => e2 (Or.inr x)
        have hpn : p.n = 0 := by rcases hp with ⟨a, _, _⟩ | ⟨_, b, _⟩ <;> omega
        rcases snoc_cases r with rfl | ⟨r, q2, rfl⟩
        · simp only [List.nil_append]
          rw [pushP_swap1 hs e3 e4]; simp only [sumL]; omega
        · rw [show r ++ [q2] ++ [q] = r ++ [q2, q] by simp]
          by_cases e5 : q2.k = 2
          · rw [pushP_swap2 hs e3 e4 e5]; simp only [sumL_append, sumL]; omega
          · rw [pushP_swap3 hs e3 e4 e5]; simp only [sumL_append, sumL]; omega
theorem shTo_sum {ps : List Pt} (hg : Good ps = true) : ∀ k, k ≤ ps.length → sumL (shTo ps k) = sumL (ps.take k)
  | 0, _ => by simp [shTo, sumL]
  | k + 1, hk => by
    rw [shTo_succ ps k (by omega), push_sum (ok_okP (good_nth hg k (by omega))), shTo_sum hg k (by omega), take_nth ps k (by omega), sumL_append]
    simp [sumL]
end Go.Proofs.YtdlolnahbgecjaaDoor
namespace Go.Proofs.YtdlolnahbgecjaaDoor
open Go.RowKit
set_option linter.unusedVariables false

/-- the blocks of a writer -/
def Blks (wb : Nat) (o v : Value) (k : Nat) : Prop := k = wb ∨ some k = o.ownBlock ∨ some k = v.ownBlock
theorem Wt.blks {base wb : Nat} {w : World} {s : WS} {o p v : Value} (W : Wt base wb w s o p v) {k : Nat} (h : Blks wb o v k) : base ≤ k ∧ k < w.heap.size := by
  refine ⟨(wt_kind W k h).1, ?_⟩
  rcases h with h | h | h
  · subst h; exact W.blk.lt
  · exact own_block_lt W.out h.symm
  · exact own_block_lt W.buf h.symm
theorem Wt.wr' {S : Nat → Prop} {base wb : Nat} {w w' : World} {s : WS} {o p v : Value} (W : Wt base wb w s o p v) (h : Wr S w w') (hS : ∀ k, Blks wb o v k → ¬ S k) : Wt base wb w' s o p v :=
  ⟨W.blk.wr h (hS _ (Or.inl rfl)), W.p, ownsRow_wr W.out h (fun k hk => hS k (Or.inr (Or.inl hk.symm))), ownsRow_wr W.buf h (fun k hk => hS k (Or.inr (Or.inr hk.symm))), W.bb, Nat.le_trans W.bw h.size⟩

/-- where the program's turn stands -/
structure TSt (wx wy ra rb b1 b2 : Nat) (w0 wr : World) (a b : List Pt) (s t : WS) : Prop where
  r1 : Rr w0.heap.size wr ra b1 a
  r2 : Rr w0.heap.size wr rb b2 b
  wt : ∃ o p v o' p' v', Wt w0.heap.size wx wr s o p v ∧ Wt w0.heap.size wy wr t o' p' v' ∧ ∀ k, Blks wx o v k → ¬ Blks wy o' v' k
  fr : Wr (fun k => k = ra ∨ k = rb) w0 wr
theorem TSt.swap {wx wy ra rb b1 b2 : Nat} {w0 wr : World} {a b : List Pt} {s t : WS} (h : TSt wx wy ra rb b1 b2 w0 wr a b s t) : TSt wy wx ra rb b1 b2 w0 wr a b t s := by
  obtain ⟨o, p, v, o', p', v', W, W', ap⟩ := h.wt
  exact ⟨h.r1, h.r2, ⟨o', p', v', o, p, v, W', W, fun k hk hk' => ap k hk' hk⟩, h.fr⟩
theorem TSt.here {wx wy ra rb b1 b2 : Nat} {w0 wr w' : World} {a b : List Pt} {s t : WS} (h : TSt wx wy ra rb b1 b2 w0 wr a b s t) (hb : Below wr.heap.size wr w') : TSt wx wy ra rb b1 b2 w0 w' a b s t := by
  have hs := h.r1.bw
  obtain ⟨o, p, v, o', p', v', W, W', ap⟩ := h.wt
  exact ⟨h.r1.below (hb.mono hs), h.r2.below (hb.mono hs), ⟨o, p, v, o', p', v', W.here hb, W'.here hb, ap⟩, h.fr.then_below (hb.mono hs)⟩
/-- a call of the first writer -/
theorem TSt.call {wx wy ra rb b1 b2 : Nat} {w0 wr W w' : World} {a b : List Pt} {s s2 t : WS} (h : TSt wx wy ra rb b1 b2 w0 wr a b s t) (hb : Below wr.heap.size wr W) {o p v o' p' v' o2 p2 v2 : Value} (D : Wt w0.heap.size wx wr s o p v) (D' : Wt w0.heap.size wy wr t o' p' v') (ap : ∀ k, Blks wx o v k → ¬ Blks wy o' v' k)
    (D2 : Wt w0.heap.size wx w' s2 o2 p2 v2) (G : Gw wx o v o2 v2 W w') : TSt wx wy ra rb b1 b2 w0 w' a b s2 t ∧ ∀ k cs T, wr.heap.size ≤ k → Blk W k cs T → Blk w' k cs T := by
  have hs := h.r1.bw
  have hbb : Below w0.heap.size W w' := (G.fr (D.here hb)).below (Nat.le_trans hs hb.size)
  have hT := h.here hb
  refine ⟨⟨hT.r1.below hbb, hT.r2.below hbb, ⟨o2, p2, v2, o', p', v', D2, (D'.here hb).wr' G.wr (fun k hk e => ap k e hk), fun k hk hk' => ?_⟩, hT.fr.then_below hbb⟩, fun k cs T hk hB => hB.wr G.wr (fun e => by have := (D.blks e).2; omega)⟩
  have h1 := (D'.blks hk').2
  have h2 := hb.size
  rcases hk with hk | hk
  · exact ap k (Or.inl hk) hk'
  · rcases G.own k hk with e | e
    · exact ap k e hk'
    · omega
theorem ts_layX {wx wy ra rb b1 b2 : Nat} {w0 wr W : World} {a b : List Pt} {s t : WS} (h : TSt wx wy ra rb b1 b2 w0 wr a b s t) (hb : Below wr.heap.size wr W) {S : Int} {L A : Nat} (hs : SOk s S L A) (q : Pt) (hq : okP q) (hS : S + q.n ≤ 9223372036854775807) (hL : L ≤ 100000000) (hA : A + q.t.size ≤ 100000000) :
    Calls Tryd.prog 56 #[.pointer (some ⟨wx, 0, none⟩), .agg #[.int .i64 q.k, .int .i64 q.n, .string q.t]] W fun e w' => e = .returned (.tuple #[]) ∧ TSt wx wy ra rb b1 b2 w0 w' a b (layP s q) t ∧ ∀ k cs T, wr.heap.size ≤ k → Blk W k cs T → Blk w' k cs T := by
  obtain ⟨o, p, v, o', p', v', D, D', ap⟩ := h.wt
  have hw := hs.w
  refine (lay_g w0.heap.size wx W s o p v q (D.here hb) (okP_of hq) hw.drop (by have := hw.len; omega) (by have := hw.add; omega) (fun _ => by have := hw.sum; have := sumL_nn hw.nn; omega) (fun _ r x e _ => by have := hw.last e; omega)).mono ?_
  rintro e w' ⟨rfl, o2, p2, v2, D2, G⟩
  exact ⟨rfl, h.call hb D D' ap D2 G⟩
theorem ts_keepX {wx wy ra rb b1 b2 : Nat} {w0 wr W : World} {a b : List Pt} {s t : WS} (h : TSt wx wy ra rb b1 b2 w0 wr a b s t) (hb : Below wr.heap.size wr W) {S : Int} {L A : Nat} (hs : SOk s S L A) (n : Nat) (hS : S + n ≤ 9223372036854775807) (hL : L ≤ 100000000) :
    Calls Tryd.prog 63 #[.pointer (some ⟨wx, 0, none⟩), .int .i64 n] W fun e w' => e = .returned (.tuple #[]) ∧ TSt wx wy ra rb b1 b2 w0 w' a b (layP s ⟨1, n, ⟨#[]⟩⟩) t ∧ ∀ k cs T, wr.heap.size ≤ k → Blk W k cs T → Blk w' k cs T := by
  obtain ⟨o, p, v, o', p', v', D, D', ap⟩ := h.wt
  have hw := hs.w
  refine (keep_g w0.heap.size wx W s o p v n (D.here hb) hw.drop (by have := hw.len; omega) (by omega) (fun r x e _ => by have := hw.last e; omega)).mono ?_
  rintro e w' ⟨rfl, o2, p2, v2, D2, G⟩
  exact ⟨rfl, h.call hb D D' ap (by unfold layP; rw [if_pos rfl]; exact D2) G⟩
theorem ts_layY {wx wy ra rb b1 b2 : Nat} {w0 wr W : World} {a b : List Pt} {s t : WS} (h : TSt wx wy ra rb b1 b2 w0 wr a b s t) (hb : Below wr.heap.size wr W) {S : Int} {L A : Nat} (hs : SOk t S L A) (q : Pt) (hq : okP q) (hS : S + q.n ≤ 9223372036854775807) (hL : L ≤ 100000000) (hA : A + q.t.size ≤ 100000000) :
    Calls Tryd.prog 56 #[.pointer (some ⟨wy, 0, none⟩), .agg #[.int .i64 q.k, .int .i64 q.n, .string q.t]] W fun e w' => e = .returned (.tuple #[]) ∧ TSt wx wy ra rb b1 b2 w0 w' a b s (layP t q) ∧ ∀ k cs T, wr.heap.size ≤ k → Blk W k cs T → Blk w' k cs T := by
  refine (ts_layX h.swap hb hs q hq hS hL hA).mono ?_
  rintro e w' ⟨rfl, h1, h2⟩
  exact ⟨rfl, h1.swap, h2⟩
theorem ts_keepY {wx wy ra rb b1 b2 : Nat} {w0 wr W : World} {a b : List Pt} {s t : WS} (h : TSt wx wy ra rb b1 b2 w0 wr a b s t) (hb : Below wr.heap.size wr W) {S : Int} {L A : Nat} (hs : SOk t S L A) (n : Nat) (hS : S + n ≤ 9223372036854775807) (hL : L ≤ 100000000) :
    Calls Tryd.prog 63 #[.pointer (some ⟨wy, 0, none⟩), .int .i64 n] W fun e w' => e = .returned (.tuple #[]) ∧ TSt wx wy ra rb b1 b2 w0 w' a b s (layP t ⟨1, n, ⟨#[]⟩⟩) ∧ ∀ k cs T, wr.heap.size ≤ k → Blk W k cs T → Blk w' k cs T := by
  refine (ts_keepX h.swap hb hs n hS hL).mono ?_
  rintro e w' ⟨rfl, h1, h2⟩
  exact ⟨rfl, h1.swap, h2⟩
theorem ts_restA {wx wy ra rb b1 b2 : Nat} {w0 wr : World} {x : Pt} {a b : List Pt} {s t : WS} (h : TSt wx wy ra rb b1 b2 w0 wr (x :: a) b s t) (hab : ra ≠ rb) (h21 : b2 ≠ ra) :
    Calls Tryd.prog 61 #[.pointer (some ⟨ra, 0, none⟩)] wr fun e w' => e = .returned (.agg #[.int .i64 x.k, .int .i64 x.n, .string x.t]) ∧ TSt wx wy ra rb b1 b2 w0 w' a b s t := by
  obtain ⟨o, p, v, o', p', v', W, W', ap⟩ := h.wt
  have hl := h.r1.lt
  refine (rr_rest h.r1).mono ?_
  rintro e w' ⟨rfl, ho, R⟩
  have hw : Wr (fun k => k = ra) wr w' := Wr.only ho rfl
  exact ⟨rfl, R, h.r2.only ho (by omega) h21, ⟨o, p, v, o', p', v', W.wr hw (fun k hk e => by omega), W'.wr hw (fun k hk e => by omega), ap⟩, h.fr.trans (Wr.only ho (Or.inl rfl))⟩
theorem ts_restB {wx wy ra rb b1 b2 : Nat} {w0 wr : World} {y : Pt} {a b : List Pt} {s t : WS} (h : TSt wx wy ra rb b1 b2 w0 wr a (y :: b) s t) (hab : ra ≠ rb) (h12 : b1 ≠ rb) :
    Calls Tryd.prog 61 #[.pointer (some ⟨rb, 0, none⟩)] wr fun e w' => e = .returned (.agg #[.int .i64 y.k, .int .i64 y.n, .string y.t]) ∧ TSt wx wy ra rb b1 b2 w0 w' a b s t := by
  obtain ⟨o, p, v, o', p', v', W, W', ap⟩ := h.wt
  have hl := h.r2.lt
  refine (rr_rest h.r2).mono ?_
  rintro e w' ⟨rfl, ho, R⟩
  have hw : Wr (fun k => k = rb) wr w' := Wr.only ho rfl
  exact ⟨rfl, h.r1.only ho hab h12, R, ⟨o, p, v, o', p', v', W.wr hw (fun k hk e => by omega), W'.wr hw (fun k hk e => by omega), ap⟩, h.fr.trans (Wr.only ho (Or.inr rfl))⟩
theorem ts_abreast {wx wy ra rb b1 b2 : Nat} {w0 wr : World} {x y : Pt} {a b : List Pt} {s t : WS} (h : TSt wx wy ra rb b1 b2 w0 wr (x :: a) (y :: b) s t) (hab : ra ≠ rb) (h12 : b1 ≠ rb) (h21 : b2 ≠ ra) (m : Nat) (hm : min (pl x) (pl y) = m) :
    Calls Tryd.prog 62 #[.pointer (some ⟨ra, 0, none⟩), .pointer (some ⟨rb, 0, none⟩)] wr fun e w' => e = .returned (.tuple #[.agg #[.int .i64 (cut x 0 m).k, .int .i64 (cut x 0 m).n, .string (cut x 0 m).t], .agg #[.int .i64 (cut y 0 m).k, .int .i64 (cut y 0 m).n, .string (cut y 0 m).t]]) ∧ TSt wx wy ra rb b1 b2 w0 w' (restP x m ++ a) (restP y m ++ b) s t := by
  obtain ⟨o, p, v, o', p', v', W, W', ap⟩ := h.wt
  have hl1 := h.r1.lt
  have hl2 := h.r2.lt
  refine (abreast_any w0.heap.size ra rb b1 b2 m wr x y a b h.r1 h.r2 hab h12 h21 hm).mono ?_
  rintro e w' ⟨rfl, R1, R2, hw⟩
  exact ⟨rfl, R1, R2, ⟨o, p, v, o', p', v', W.wr hw (fun k hk e => by omega), W'.wr hw (fun k hk e => by omega), ap⟩, h.fr.trans hw⟩
theorem ts_kindA {wx wy ra rb b1 b2 : Nat} {w0 wr : World} {a b : List Pt} {s t : WS} (h : TSt wx wy ra rb b1 b2 w0 wr a b s t) :
    Calls Tryd.prog 60 #[.pointer (some ⟨ra, 0, none⟩)] wr fun e w' => e = .returned (.int .i64 (match a with | [] => 0 | x :: _ => x.k)) ∧ TSt wx wy ra rb b1 b2 w0 w' a b s t := by
  cases a with
  | nil =>
    refine (rr_kind_nil h.r1).mono ?_
    rintro e w' ⟨rfl, hb⟩
    exact ⟨rfl, h.here hb⟩
  | cons x a =>
    refine (rr_kind h.r1).mono ?_
    rintro e w' ⟨rfl, hb⟩
    exact ⟨rfl, h.here hb⟩
theorem ts_kindB {wx wy ra rb b1 b2 : Nat} {w0 wr : World} {a b : List Pt} {s t : WS} (h : TSt wx wy ra rb b1 b2 w0 wr a b s t) :
    Calls Tryd.prog 60 #[.pointer (some ⟨rb, 0, none⟩)] wr fun e w' => e = .returned (.int .i64 (match b with | [] => 0 | x :: _ => x.k)) ∧ TSt wx wy ra rb b1 b2 w0 w' a b s t := by
  cases b with
  | nil =>
    refine (rr_kind_nil h.r2).mono ?_
    rintro e w' ⟨rfl, hb⟩
    exact ⟨rfl, h.here hb⟩
  | cons x b =>
    refine (rr_kind h.r2).mono ?_
    rintro e w' ⟨rfl, hb⟩
    exact ⟨rfl, h.here hb⟩
/-- the first change -/
theorem ts_changeX {wx wy ra rb b1 b2 : Nat} {w0 wr : World} {a b : List Pt} {s t : WS} (h : TSt wx wy ra rb b1 b2 w0 wr a b s t) {S : Int} {L A : Nat} (hs : SOk s S L A) (hL : L ≤ 100000000) :
    Calls Tryd.prog 57 #[.pointer (some ⟨wx, 0, none⟩)] wr fun e w' => ∃ u, e = .returned u ∧ w'.ownsRow w0.heap.size 61 3 u (settleP s).length (cellsOf (settleP s)) ∧ Wr (fun k => k = ra ∨ k = rb) w0 w' ∧ ∃ o' p' v', Wt w0.heap.size wy w' t o' p' v' ∧ ∀ k, u.ownBlock = some k → ¬ Blks wy o' v' k := by
  obtain ⟨o, p, v, o', p', v', D, D', ap⟩ := h.wt
  have hw := hs.w
  refine (change_g w0.heap.size wx wr s o p v D hw.drop (by have := hw.len; omega)).mono ?_
  rintro e w' ⟨u, rfl, hO, hW, hu⟩
  have hbb : Below w0.heap.size wr w' := hW.below (fun k hk e => by have := (D.blks e).1; omega) h.r1.bw
  refine ⟨u, rfl, hO, h.fr.then_below hbb, o', p', v', D'.wr' hW (fun k hk e => ap k e hk), fun k hk hk' => ?_⟩
  rcases hu k hk.symm with e | e
  · exact ap k e hk'
  · have := (D'.blks hk').2; omega
/-- the second change -/
theorem ts_changeY {wy ra rb : Nat} {w0 wr : World} {s : List Pt} {t : WS} {u o' p' v' : Value} (hO : wr.ownsRow w0.heap.size 61 3 u s.length (cellsOf s)) (hF : Wr (fun k => k = ra ∨ k = rb) w0 wr) (D' : Wt w0.heap.size wy wr t o' p' v') (ap : ∀ k, u.ownBlock = some k → ¬ Blks wy o' v' k) {S : Int} {L A : Nat} (hs : SOk t S L A) (hL : L ≤ 100000000) :
    Calls Tryd.prog 57 #[.pointer (some ⟨wy, 0, none⟩)] wr fun e w' => ∃ u', e = .returned u' ∧ w'.ownsRow w0.heap.size 61 3 u s.length (cellsOf s) ∧ w'.ownsRow w0.heap.size 61 3 u' (settleP t).length (cellsOf (settleP t)) ∧ Wr (fun k => k = ra ∨ k = rb) w0 w' ∧ ∀ k, u.ownBlock = some k → u'.ownBlock ≠ some k := by
  have hw := hs.w
  refine (change_g w0.heap.size wy wr t o' p' v' D' hw.drop (by have := hw.len; omega)).mono ?_
  rintro e w' ⟨u', rfl, hO', hW, hu⟩
  have hbb : Below w0.heap.size wr w' := hW.below (fun k hk e => by have := (D'.blks e).1; omega) D'.bw
  refine ⟨u', rfl, ownsRow_wr hO hW (fun k hk e => ap k hk e), hO', hF.then_below hbb, fun k hk hk' => ?_⟩
  rcases hu k hk'.symm with e | e
  · exact ap k hk e
  · have := own_block_lt hO hk; omega
end Go.Proofs.YtdlolnahbgecjaaDoor
namespace Go.Proofs.YtdlolnahbgecjaaDoor
open Go.RowKit
set_option linter.unusedVariables false

set_option maxRecDepth 100000 in
set_option maxHeartbeats 8000000 in
theorem turned_any (ra rb b1 b2 : Nat) (w : World) (ps qs : List Pt) (R1 : Rr w.heap.size w ra b1 ps) (R2 : Rr w.heap.size w rb b2 qs) (hab : ra ≠ rb) (h12 : b1 ≠ rb) (h21 : b2 ≠ ra) (hJ : TOk ps qs ws0 ws0 0 0 0 0 0 0) :
    Calls Tryd.prog 49 #[.pointer (some ⟨ra, 0, none⟩), .pointer (some ⟨rb, 0, none⟩)] w fun e w' => ∃ u v, e = .returned (.tuple #[u, v]) ∧ w'.ownsRow w.heap.size 61 3 u (settleP (Tn ps qs ws0 ws0).1).length (cellsOf (settleP (Tn ps qs ws0 ws0).1)) ∧ w'.ownsRow w.heap.size 61 3 v (settleP (Tn ps qs ws0 ws0).2).length (cellsOf (settleP (Tn ps qs ws0 ws0).2)) ∧ Wr (fun k => k = ra ∨ k = rb) w w' ∧ ∀ k, u.ownBlock = some k → v.ownBlock ≠ some k := by
  have hb0 : Below w.heap.size w ((w.alloc (.cells #[.slice none 0 0, .pointer none, .slice none 0 0, .int .i64 0] 107)).alloc (.cells #[.slice none 0 0, .pointer none, .slice none 0 0, .int .i64 0] 107)) := ((Below.refl _ _).alloc (Nat.le_refl _) _).alloc (by simp) _
  have HJ0 : Hid (TOk ps qs ws0 ws0 0 0 0 0 0 0) := hJ
  have HS0 : Hid (TSt w.heap.size (w.heap.size + 1) ra rb b1 b2 w ((w.alloc (.cells #[.slice none 0 0, .pointer none, .slice none 0 0, .int .i64 0] 107)).alloc (.cells #[.slice none 0 0, .pointer none, .slice none 0 0, .int .i64 0] 107)) ps qs ws0 ws0) :=
    ⟨R1.below hb0, R2.below hb0, ⟨.slice none 0 0, .pointer none, .slice none 0 0, .slice none 0 0, .pointer none, .slice none 0 0, ⟨(Blk.new w _ 107).alloc _, Or.inl rfl, World.ownsRow_nil _ _ _ _, World.ownsRow_nil _ _ _ _, Nat.le_refl _, hb0.size⟩, ⟨Blk.new' _ 107 (by simp), Or.inl rfl, World.ownsRow_nil _ _ _ _, World.ownsRow_nil _ _ _ _, by omega, hb0.size⟩, fun k h h' => by
      simp [Blks, Value.ownBlock] at h h'; omega⟩, Wr.here hb0⟩
  have HN : Hid (ra ≠ rb ∧ b1 ≠ rb ∧ b2 ≠ ra) := ⟨hab, h12, h21⟩
  clear R1 R2 hab h12 h21 hJ hb0
  generalize hjn : Tn ps qs ws0 ws0 = jn
  have HJn : Hid (Tn ps qs ws0 ws0 = jn) := hjn
  clear hjn
  go_enter Tryd.func49, Tryd.ntmps49
  go_wp2
  go_loopg [] (wt ps + wt qs) (fun k wr => ∃ a b s t S L A S' L' A', wt a + wt b = k ∧ TSt w.heap.size (w.heap.size + 1) ra rb b1 b2 w wr a b s t ∧ TOk a b s t S L A S' L' A' ∧ Tn a b s t = jn)
  case atStart => exact ⟨ps, qs, ws0, ws0, 0, 0, 0, 0, 0, 0, rfl, HS0.out, HJ0.out, HJn.out⟩
  case round =>
    obtain ⟨a, b, s, t, S, L, A, S', L', A', hk, hst, hj, hn⟩ := hrel
    have HK : Hid (wt a + wt b = gk) := hk
    have HST : Hid (TSt w.heap.size (w.heap.size + 1) ra rb b1 b2 w wr a b s t) := hst
    have HJ : Hid (TOk a b s t S L A S' L' A') := hj
    have HNn : Hid (Tn a b s t = jn) := hn
    clear hk hst hj hn HS0 HJ0 HJn
    by_cases hA : ∃ x a', a = x :: a' ∧ x.k = 2
    · obtain ⟨⟨xk, xn, xt⟩, a', rfl, hx⟩ := hA
      obtain rfl : xk = 2 := hx
      have hsm := HJ.out.small
      have htl : xt.size ≤ textL (⟨2, xn, xt⟩ :: a') := by simp only [textL]; omega
      have htx := HJ.out.txt
      have oxx := (allOk_cons HJ.out.oka).1
      have HL : Hid (∀ wy wx, Below wy.heap.size wy wx → TSt w.heap.size (w.heap.size + 1) ra rb b1 b2 w wy a' b s t → Calls Tryd.prog 56 #[.pointer (some ⟨w.heap.size, 0, none⟩), .agg #[.int .i64 2, .int .i64 xn, .string xt]] wx fun e w' => e = .returned (.tuple #[]) ∧ TSt w.heap.size (w.heap.size + 1) ra rb b1 b2 w w' a' b (layP s ⟨2, xn, xt⟩) t ∧ ∀ k cs T, wy.heap.size ≤ k → Blk wx k cs T → Blk w' k cs T) := fun wy wx hb h =>
        ts_layX h hb HJ.out.s ⟨2, xn, xt⟩ oxx (by have := (pl_t oxx rfl).2; simp only at this; simp only; omega) (by omega) (by simp only; omega)
      have HKp : Hid (∀ wx, TSt w.heap.size (w.heap.size + 1) ra rb b1 b2 w wx a' b (layP s ⟨2, xn, xt⟩) t → Calls Tryd.prog 63 #[.pointer (some ⟨w.heap.size + 1, 0, none⟩), .int .i64 (xt.size : Nat)] wx fun e w' => e = .returned (.tuple #[]) ∧ TSt w.heap.size (w.heap.size + 1) ra rb b1 b2 w w' a' b (layP s ⟨2, xn, xt⟩) (layP t (keepPt ⟨2, xn, xt⟩)) ∧ ∀ k cs T, wx.heap.size ≤ k → Blk wx k cs T → Blk w' k cs T) := fun wx h =>
        ts_keepY h (Below.refl _ _) HJ.out.t xt.size (by omega) (by omega)
      have HX : Hid (TOk a' b (layP s ⟨2, xn, xt⟩) (layP t (keepPt ⟨2, xn, xt⟩)) S (L + 3) (A + xt.size) (S' + xt.size) (L' + 3) A' ∧ Tn a' b (layP s ⟨2, xn, xt⟩) (layP t (keepPt ⟨2, xn, xt⟩)) = jn) := ⟨HJ.out.addA rfl, by rw [← HNn.out, Tn_addA HJ.out.oka HJ.out.okb rfl]⟩
      clear hsm htl htx oxx
      go_wp2_with fail
      refine (ts_kindA HST.out).mono ?_
      rintro e w1 ⟨rfl, st1⟩
      have HST1 : Hid (TSt w.heap.size (w.heap.size + 1) ra rb b1 b2 w w1 (⟨2, xn, xt⟩ :: a') b s t) := st1
      clear st1
      go_wp2_with fail
      refine (ts_kindA HST1.out).mono ?_
      rintro e w2 ⟨rfl, st2⟩
      have HST2 : Hid (TSt w.heap.size (w.heap.size + 1) ra rb b1 b2 w w2 (⟨2, xn, xt⟩ :: a') b s t) := st2
      clear st2
      go_wp2_with fail
      refine (ts_restA HST2.out HN.out.1 HN.out.2.2).mono ?_
      rintro e w3 ⟨rfl, st3⟩
      have HST3 : Hid (TSt w.heap.size (w.heap.size + 1) ra rb b1 b2 w w3 a' b s t) := st3
      clear st3
      go_wp2_with fail
      refine (HL.out w3 _ ((Below.refl _ _).alloc (Nat.le_refl _) _) HST3.out).mono ?_
      rintro e w4 ⟨rfl, st4, hB4⟩
      have HST4 : Hid (TSt w.heap.size (w.heap.size + 1) ra rb b1 b2 w w4 a' b (layP s ⟨2, xn, xt⟩) t) := st4
      have z := (hB4 w3.heap.size _ _ (Nat.le_refl _) (Blk.new w3 _ 61)).cell 2 rfl
      clear st4 hB4
      go_wp2_with fail
      refine (HKp.out w4 HST4.out).mono ?_
      rintro e w5 ⟨rfl, st5, _⟩
      have HST5 : Hid (TSt w.heap.size (w.heap.size + 1) ra rb b1 b2 w w5 a' b (layP s ⟨2, xn, xt⟩) (layP t (keepPt ⟨2, xn, xt⟩))) := st5
      clear st5
      go_wp2
      go_roundg (wt a' + wt b)
      case measure => have h1 := HK.out; have h2 := wt_cons ⟨2, xn, xt⟩ a'; omega
      case rel => exact ⟨a', b, _, _, _, _, _, _, _, _, rfl, HST5.out, HX.out.1, HX.out.2⟩
    · by_cases hB : ∃ y b', b = y :: b' ∧ y.k = 2
      · obtain ⟨⟨yk, yn, yt⟩, b', rfl, hy⟩ := hB
        obtain rfl : yk = 2 := hy
        have hsm := HJ.out.small
        have htl : yt.size ≤ textL (⟨2, yn, yt⟩ :: b') := by simp only [textL]; omega
        have htx := HJ.out.txt'
        have oyy := (allOk_cons HJ.out.okb).1
        have HL : Hid (∀ wx, TSt w.heap.size (w.heap.size + 1) ra rb b1 b2 w wx a b' (layP s (keepPt ⟨2, yn, yt⟩)) t → Calls Tryd.prog 56 #[.pointer (some ⟨w.heap.size + 1, 0, none⟩), .agg #[.int .i64 2, .int .i64 yn, .string yt]] wx fun e w' => e = .returned (.tuple #[]) ∧ TSt w.heap.size (w.heap.size + 1) ra rb b1 b2 w w' a b' (layP s (keepPt ⟨2, yn, yt⟩)) (layP t ⟨2, yn, yt⟩) ∧ ∀ k cs T, wx.heap.size ≤ k → Blk wx k cs T → Blk w' k cs T) := fun wx h =>
          ts_layY h (Below.refl _ _) HJ.out.t ⟨2, yn, yt⟩ oyy (by have := (pl_t oyy rfl).2; simp only at this; simp only; omega) (by omega) (by simp only; omega)
        have HKp : Hid (∀ wy wx, Below wy.heap.size wy wx → TSt w.heap.size (w.heap.size + 1) ra rb b1 b2 w wy a b' s t → Calls Tryd.prog 63 #[.pointer (some ⟨w.heap.size, 0, none⟩), .int .i64 (yt.size : Nat)] wx fun e w' => e = .returned (.tuple #[]) ∧ TSt w.heap.size (w.heap.size + 1) ra rb b1 b2 w w' a b' (layP s (keepPt ⟨2, yn, yt⟩)) t ∧ ∀ k cs T, wy.heap.size ≤ k → Blk wx k cs T → Blk w' k cs T) := fun wy wx hb h =>
          ts_keepX h hb HJ.out.s yt.size (by omega) (by omega)
        have HX : Hid (TOk a b' (layP s (keepPt ⟨2, yn, yt⟩)) (layP t ⟨2, yn, yt⟩) (S + yt.size) (L + 3) A S' (L' + 3) (A' + yt.size) ∧ Tn a b' (layP s (keepPt ⟨2, yn, yt⟩)) (layP t ⟨2, yn, yt⟩) = jn) := ⟨HJ.out.addB rfl, by rw [← HNn.out, Tn_addB HJ.out.oka HJ.out.okb rfl (fun x a' e h => hA ⟨x, a', e, h⟩)]⟩
        clear hsm htl htx oyy
        cases a with
        | nil =>
          clear hA
          go_wp2_with fail
          refine (ts_kindA HST.out).mono ?_
          rintro e w1 ⟨rfl, st1⟩
          have HST1 : Hid (TSt w.heap.size (w.heap.size + 1) ra rb b1 b2 w w1 [] (⟨2, yn, yt⟩ :: b') s t) := st1
          clear st1
          go_wp2_with fail
          refine (ts_kindB HST1.out).mono ?_
          rintro e w2 ⟨rfl, st2⟩
          have HST2 : Hid (TSt w.heap.size (w.heap.size + 1) ra rb b1 b2 w w2 [] (⟨2, yn, yt⟩ :: b') s t) := st2
          clear st2
          go_wp2_with fail
          refine (ts_kindA HST2.out).mono ?_
          rintro e w3 ⟨rfl, st3⟩
          have HST3 : Hid (TSt w.heap.size (w.heap.size + 1) ra rb b1 b2 w w3 [] (⟨2, yn, yt⟩ :: b') s t) := st3
          clear st3
          go_wp2_with fail
          refine (ts_kindB HST3.out).mono ?_
          rintro e w4 ⟨rfl, st4⟩
          have HST4 : Hid (TSt w.heap.size (w.heap.size + 1) ra rb b1 b2 w w4 [] (⟨2, yn, yt⟩ :: b') s t) := st4
          clear st4
          go_wp2_with fail
          refine (ts_restB HST4.out HN.out.1 HN.out.2.1).mono ?_
          rintro e w5 ⟨rfl, st5⟩
          have HST5 : Hid (TSt w.heap.size (w.heap.size + 1) ra rb b1 b2 w w5 [] b' s t) := st5
          clear st5
          go_wp2_with fail
          refine (HKp.out w5 _ ((Below.refl _ _).alloc (Nat.le_refl _) _) HST5.out).mono ?_
          rintro e w6 ⟨rfl, st6, hB6⟩
          have HST6 : Hid (TSt w.heap.size (w.heap.size + 1) ra rb b1 b2 w w6 [] b' (layP s (keepPt ⟨2, yn, yt⟩)) t) := st6
          have hz := hB6 w5.heap.size _ _ (Nat.le_refl _) (Blk.new w5 _ 61)
          have z0 := hz.cell 0 rfl
          have z1 := hz.cell 1 rfl
          have z2 := hz.cell 2 rfl
          clear st6 hB6 hz
          go_wp2_with fail
          refine (HL.out w6 HST6.out).mono ?_
          rintro e w7 ⟨rfl, st7, _⟩
          have HST7 : Hid (TSt w.heap.size (w.heap.size + 1) ra rb b1 b2 w w7 [] b' (layP s (keepPt ⟨2, yn, yt⟩)) (layP t ⟨2, yn, yt⟩)) := st7
          clear st7
          go_wp2
          go_roundg (wt [] + wt b')
          case measure => have h1 := HK.out; have h2 := wt_cons ⟨2, yn, yt⟩ b'; omega
          case rel => exact ⟨[], b', _, _, _, _, _, _, _, _, rfl, HST7.out, HX.out.1, HX.out.2⟩
        | cons x a' =>
          have hx2 : (x.k == 2) = false := by simp; intro h; exact hA ⟨x, a', rfl, h⟩
          have hx0 : (x.k != 0) = true := by simp; exact okP_kind (allOk_cons HJ.out.oka).1
          clear hA
          go_wp2_with fail
          refine (ts_kindA HST.out).mono ?_
          rintro e w1 ⟨rfl, st1⟩
          have HST1 : Hid (TSt w.heap.size (w.heap.size + 1) ra rb b1 b2 w w1 (x :: a') (⟨2, yn, yt⟩ :: b') s t) := st1
          clear st1
          go_wp2_with fail
          refine (ts_kindA HST1.out).mono ?_
          rintro e w3 ⟨rfl, st3⟩
          have HST3 : Hid (TSt w.heap.size (w.heap.size + 1) ra rb b1 b2 w w3 (x :: a') (⟨2, yn, yt⟩ :: b') s t) := st3
          clear st3
          go_wp2_with fail
          refine (ts_kindB HST3.out).mono ?_
          rintro e w4 ⟨rfl, st4⟩
          have HST4 : Hid (TSt w.heap.size (w.heap.size + 1) ra rb b1 b2 w w4 (x :: a') (⟨2, yn, yt⟩ :: b') s t) := st4
          clear st4
          go_wp2_with fail
          refine (ts_restB HST4.out HN.out.1 HN.out.2.1).mono ?_
          rintro e w5 ⟨rfl, st5⟩
          have HST5 : Hid (TSt w.heap.size (w.heap.size + 1) ra rb b1 b2 w w5 (x :: a') b' s t) := st5
          clear st5
          go_wp2_with fail
          refine (HKp.out w5 _ ((Below.refl _ _).alloc (Nat.le_refl _) _) HST5.out).mono ?_
          rintro e w6 ⟨rfl, st6, hB6⟩
          have HST6 : Hid (TSt w.heap.size (w.heap.size + 1) ra rb b1 b2 w w6 (x :: a') b' (layP s (keepPt ⟨2, yn, yt⟩)) t) := st6
          have hz := hB6 w5.heap.size _ _ (Nat.le_refl _) (Blk.new w5 _ 61)
          have z0 := hz.cell 0 rfl
          have z1 := hz.cell 1 rfl
          have z2 := hz.cell 2 rfl
          clear st6 hB6 hz
          go_wp2_with fail
          refine (HL.out w6 HST6.out).mono ?_
          rintro e w7 ⟨rfl, st7, _⟩
          have HST7 : Hid (TSt w.heap.size (w.heap.size + 1) ra rb b1 b2 w w7 (x :: a') b' (layP s (keepPt ⟨2, yn, yt⟩)) (layP t ⟨2, yn, yt⟩)) := st7
          clear st7
          go_wp2
          go_roundg (wt (x :: a') + wt b')
          case measure => have h1 := HK.out; have h2 := wt_cons ⟨2, yn, yt⟩ b'; omega
          case rel => exact ⟨x :: a', b', _, _, _, _, _, _, _, _, rfl, HST7.out, HX.out.1, HX.out.2⟩
      · cases a with
        | nil =>
          cases b with
          | nil =>
            clear hA hB
            have HE : Hid ((s, t) = jn) := by have h := HNn.out; rw [Tn_nil] at h; exact h
            have hsm := HJ.out.small
            have HLs : Hid (L ≤ 100000000 ∧ L' ≤ 100000000) := ⟨by omega, by omega⟩
            clear hsm
            go_wp2_with fail
            refine (ts_kindA HST.out).mono ?_
            rintro e w1 ⟨rfl, st1⟩
            have HST1 : Hid (TSt w.heap.size (w.heap.size + 1) ra rb b1 b2 w w1 [] [] s t) := st1
            clear st1
            go_wp2_with fail
            refine (ts_kindB HST1.out).mono ?_
            rintro e w2 ⟨rfl, st2⟩
            have HST2 : Hid (TSt w.heap.size (w.heap.size + 1) ra rb b1 b2 w w2 [] [] s t) := st2
            clear st2
            go_wp2_with fail
            refine (ts_changeX HST2.out HJ.out.s HLs.out.1).mono ?_
            rintro e w3 ⟨u3, rfl, hO3, hF3, o', p', v', hD3, hap⟩
            have HX3 : Hid (w3.ownsRow w.heap.size 61 3 u3 (settleP s).length (cellsOf (settleP s)) ∧ Wr (fun k => k = ra ∨ k = rb) w w3 ∧ Wt w.heap.size (w.heap.size + 1) w3 t o' p' v' ∧ ∀ k, u3.ownBlock = some k → ¬ Blks (w.heap.size + 1) o' v' k) := ⟨hO3, hF3, hD3, hap⟩
            clear hO3 hF3 hD3 hap
            go_wp2_with fail
            refine (ts_changeY HX3.out.1 HX3.out.2.1 HX3.out.2.2.1 HX3.out.2.2.2 HJ.out.t HLs.out.2).mono ?_
            rintro e w4 ⟨u4, rfl, hO3, hO4, hF4, hap⟩
            have HF : Hid (w4.ownsRow w.heap.size 61 3 u3 (settleP jn.1).length (cellsOf (settleP jn.1)) ∧ w4.ownsRow w.heap.size 61 3 u4 (settleP jn.2).length (cellsOf (settleP jn.2)) ∧ Wr (fun k => k = ra ∨ k = rb) w w4 ∧ ∀ k, u3.ownBlock = some k → u4.ownBlock ≠ some k) := by
              rw [← HE.out]; exact ⟨hO3, hO4, hF4, hap⟩
            clear hO3 hO4 hF4 hap
            go_wp2
            go_ret2
            exact ⟨u3, u4, rfl, HF.out⟩
          | cons y b' => exact absurd ⟨y, b', rfl, HJ.out.left⟩ hB
        | cons x a' =>
          cases b with
          | nil => exact absurd ⟨x, a', rfl, HJ.out.right⟩ hA
          | cons y b' =>
            have hx : x.k ≠ 2 := fun h => hA ⟨x, a', rfl, h⟩
            have hy : y.k ≠ 2 := fun h => hB ⟨y, b', rfl, h⟩
            have hx2 : (x.k == 2) = false := by simpa using hx
            have hx0 : (x.k != 0) = true := by simp; exact okP_kind (allOk_cons HJ.out.oka).1
            have hy2 : (y.k == 2) = false := by simpa using hy
            obtain ⟨m, hm⟩ : ∃ m, min (pl x) (pl y) = m := ⟨_, rfl⟩
            have HAb : Hid (∀ wx, TSt w.heap.size (w.heap.size + 1) ra rb b1 b2 w wx (x :: a') (y :: b') s t → Calls Tryd.prog 62 #[.pointer (some ⟨ra, 0, none⟩), .pointer (some ⟨rb, 0, none⟩)] wx fun e w' => e = .returned (.tuple #[.agg #[.int .i64 (cut x 0 m).k, .int .i64 (cut x 0 m).n, .string (cut x 0 m).t], .agg #[.int .i64 (cut y 0 m).k, .int .i64 (cut y 0 m).n, .string (cut y 0 m).t]]) ∧ TSt w.heap.size (w.heap.size + 1) ra rb b1 b2 w w' (restP x m ++ a') (restP y m ++ b') s t) := fun wx h => ts_abreast h HN.out.1 HN.out.2.1 HN.out.2.2 m hm
            have hn2 := Tn_both (s := s) (t := t) HJ.out.oka HJ.out.okb hx hy
            rw [hm, HNn.out] at hn2
            obtain ⟨hj2, ocx, ocy, hck, hcy, hcn, hdn, hct, hdt, hm1, _, _, _, _, hb1', hb2'⟩ := HJ.out.both hx hy hm
            have hsm := HJ.out.small
            have HM : Hid (wt (restP x m ++ a') + wt (restP y m ++ b') < gk) := by
              show _ < _
              have h1 := HK.out
              have h2 := rest_wt (allOk_cons HJ.out.oka).1 (k := m) hm1
              have h3 := rest_wt (allOk_cons HJ.out.okb).1 (k := m) hm1
              simp only [wt] at h1
              rw [wt_append, wt_append]
              omega
            have HX : Hid (TOk (restP x m ++ a') (restP y m ++ b') (stepS s (cut x 0 m) (cut y 0 m)) (stepS t (cut y 0 m) (cut x 0 m)) (S + m) (L + 3) A (S' + m) (L' + 3) A' ∧ Tn (restP x m ++ a') (restP y m ++ b') (stepS s (cut x 0 m) (cut y 0 m)) (stepS t (cut y 0 m) (cut x 0 m)) = jn) := ⟨hj2, hn2.symm⟩
            have HP : Hid (∀ wy wx, Below wy.heap.size wy wx → TSt w.heap.size (w.heap.size + 1) ra rb b1 b2 w wy (restP x m ++ a') (restP y m ++ b') s t → Calls Tryd.prog 56 #[.pointer (some ⟨w.heap.size, 0, none⟩), .agg #[.int .i64 (cut x 0 m).k, .int .i64 (cut x 0 m).n, .string (cut x 0 m).t]] wx fun e w' => e = .returned (.tuple #[]) ∧ TSt w.heap.size (w.heap.size + 1) ra rb b1 b2 w w' (restP x m ++ a') (restP y m ++ b') (layP s (cut x 0 m)) t ∧ ∀ k cs T, wy.heap.size ≤ k → Blk wx k cs T → Blk w' k cs T) := fun wy wx hb h => ts_layX h hb HJ.out.s _ ocx (by omega) (by omega) (by omega)
            have HQ : Hid (∀ s' wy wx, Below wy.heap.size wy wx → TSt w.heap.size (w.heap.size + 1) ra rb b1 b2 w wy (restP x m ++ a') (restP y m ++ b') s' t → Calls Tryd.prog 56 #[.pointer (some ⟨w.heap.size + 1, 0, none⟩), .agg #[.int .i64 (cut y 0 m).k, .int .i64 (cut y 0 m).n, .string (cut y 0 m).t]] wx fun e w' => e = .returned (.tuple #[]) ∧ TSt w.heap.size (w.heap.size + 1) ra rb b1 b2 w w' (restP x m ++ a') (restP y m ++ b') s' (layP t (cut y 0 m)) ∧ ∀ k cs T, wy.heap.size ≤ k → Blk wx k cs T → Blk w' k cs T) := fun s' wy wx hb h => ts_layY h hb HJ.out.t _ ocy (by omega) (by omega) (by omega)
            clear hA hB hx hy hm hn2 hj2 ocx ocy hck hcy hcn hdn hct hdt hm1 hb1' hb2' hsm
            generalize cut x 0 m = cx at *
            generalize cut y 0 m = cy at *
            generalize restP x m ++ a' = xa at *
            generalize restP y m ++ b' = yb at *
            go_wp2_with fail
            refine (ts_kindA HST.out).mono ?_
            rintro e w1 ⟨rfl, st1⟩
            have HST1 : Hid (TSt w.heap.size (w.heap.size + 1) ra rb b1 b2 w w1 (x :: a') (y :: b') s t) := st1
            clear st1
            go_wp2_with fail
            refine (ts_kindA HST1.out).mono ?_
            rintro e w2 ⟨rfl, st2⟩
            have HST2 : Hid (TSt w.heap.size (w.heap.size + 1) ra rb b1 b2 w w2 (x :: a') (y :: b') s t) := st2
            clear st2
            go_wp2_with fail
            refine (ts_kindB HST2.out).mono ?_
            rintro e w3 ⟨rfl, st3⟩
            have HST3 : Hid (TSt w.heap.size (w.heap.size + 1) ra rb b1 b2 w w3 (x :: a') (y :: b') s t) := st3
            clear st3
            go_wp2_with fail
            refine (HAb.out w3 HST3.out).mono ?_
            rintro e w4 ⟨rfl, st4⟩
            have HST4 : Hid (TSt w.heap.size (w.heap.size + 1) ra rb b1 b2 w w4 xa yb s t) := st4
            clear st4 HAb HST HST1 HST2 HST3
            obtain ⟨ck, cn, ct⟩ := cx
            obtain ⟨dk, dn, dt⟩ := cy
            have hb5 : Below w4.heap.size w4 ((w4.alloc (.cells #[.int .i64 ck, .int .i64 cn, .string ct] 61)).alloc (.cells #[.int .i64 dk, .int .i64 dn, .string dt] 61)) := ((Below.refl _ _).alloc (Nat.le_refl _) _).alloc (by simp) _
            have HB5 : Hid (Below w4.heap.size w4 ((w4.alloc (.cells #[.int .i64 ck, .int .i64 cn, .string ct] 61)).alloc (.cells #[.int .i64 dk, .int .i64 dn, .string dt] 61))) := hb5
            have HZ1 : Hid (Blk ((w4.alloc (.cells #[.int .i64 ck, .int .i64 cn, .string ct] 61)).alloc (.cells #[.int .i64 dk, .int .i64 dn, .string dt] 61)) w4.heap.size #[.int .i64 ck, .int .i64 cn, .string ct] 61) := (Blk.new w4 _ 61).alloc _
            have HZ2 : Hid (Blk ((w4.alloc (.cells #[.int .i64 ck, .int .i64 cn, .string ct] 61)).alloc (.cells #[.int .i64 dk, .int .i64 dn, .string dt] 61)) (w4.heap.size + 1) #[.int .i64 dk, .int .i64 dn, .string dt] 61) := Blk.new' _ 61 (by simp)
            clear hb5
            simp only at HP HQ HX ⊢
            have HS1 : Hid (dk = 1 → stepS s ⟨ck, cn, ct⟩ ⟨dk, dn, dt⟩ = layP s ⟨ck, cn, ct⟩) := fun h => if_pos h
            have HS0 : Hid (dk ≠ 1 → stepS s ⟨ck, cn, ct⟩ ⟨dk, dn, dt⟩ = s) := fun h => if_neg h
            have HT1 : Hid (ck = 1 → stepS t ⟨dk, dn, dt⟩ ⟨ck, cn, ct⟩ = layP t ⟨dk, dn, dt⟩) := fun h => if_pos h
            have HT0 : Hid (ck ≠ 1 → stepS t ⟨dk, dn, dt⟩ ⟨ck, cn, ct⟩ = t) := fun h => if_neg h
            by_cases q1 : dk = 1
            · have HE1 : Hid (stepS s ⟨ck, cn, ct⟩ ⟨dk, dn, dt⟩ = layP s ⟨ck, cn, ct⟩) := HS1.out q1
              subst q1
              by_cases p1 : ck = 1
              · have HE2 : Hid (stepS t ⟨1, dn, dt⟩ ⟨ck, cn, ct⟩ = layP t ⟨1, dn, dt⟩) := HT1.out p1
                subst p1
                clear HS0 HS1 HT0 HT1
                go_wp2_with fail
                refine (HP.out w4 _ HB5.out HST4.out).mono ?_
                rintro e w6 ⟨rfl, st6, hB6⟩
                have HST6 : Hid (TSt w.heap.size (w.heap.size + 1) ra rb b1 b2 w w6 xa yb (layP s ⟨1, cn, ct⟩) t) := st6
                have hz1 := hB6 w4.heap.size _ _ (Nat.le_refl _) HZ1.out
                have hz2 := hB6 (w4.heap.size + 1) _ _ (by omega) HZ2.out
                have z10 := hz1.cell 0 rfl
                have z20 := hz2.cell 0 rfl
                have z21 := hz2.cell 1 rfl
                have z22 := hz2.cell 2 rfl
                clear st6 hB6 hz1 hz2
                go_wp2_with fail
                refine (HQ.out _ w6 _ (Below.refl _ _) HST6.out).mono ?_
                rintro e w7 ⟨rfl, st7, _⟩
                have HST7 : Hid (TSt w.heap.size (w.heap.size + 1) ra rb b1 b2 w w7 xa yb (layP s ⟨1, cn, ct⟩) (layP t ⟨1, dn, dt⟩)) := st7
                clear st7
                go_wp2
                go_roundg (wt xa + wt yb)
                case measure => exact HM.out
                case rel => have hX := HX.out; rw [HE1.out, HE2.out] at hX; exact ⟨xa, yb, _, _, _, _, _, _, _, _, rfl, HST7.out, hX.1, hX.2⟩
              · have HE2 : Hid (stepS t ⟨1, dn, dt⟩ ⟨ck, cn, ct⟩ = t) := HT0.out p1
                have hc1 : (ck == 1) = false := by simpa using p1
                clear HS0 HS1 HT0 HT1 p1
                go_wp2_with fail
                refine (HP.out w4 _ HB5.out HST4.out).mono ?_
                rintro e w6 ⟨rfl, st6, hB6⟩
                have HST6 : Hid (TSt w.heap.size (w.heap.size + 1) ra rb b1 b2 w w6 xa yb (layP s ⟨ck, cn, ct⟩) t) := st6
                have hz1 := hB6 w4.heap.size _ _ (Nat.le_refl _) HZ1.out
                have z10 := hz1.cell 0 rfl
                clear st6 hB6 hz1
                go_wp2
                go_roundg (wt xa + wt yb)
                case measure => exact HM.out
                case rel => have hX := HX.out; rw [HE1.out, HE2.out] at hX; exact ⟨xa, yb, _, _, _, _, _, _, _, _, rfl, HST6.out, hX.1, hX.2⟩
            · have HE1 : Hid (stepS s ⟨ck, cn, ct⟩ ⟨dk, dn, dt⟩ = s) := HS0.out q1
              have hd1 : (dk == 1) = false := by simpa using q1
              clear q1
              by_cases p1 : ck = 1
              · have HE2 : Hid (stepS t ⟨dk, dn, dt⟩ ⟨ck, cn, ct⟩ = layP t ⟨dk, dn, dt⟩) := HT1.out p1
                subst p1
                clear HS0 HS1 HT0 HT1
                go_wp2_with fail
                refine (HQ.out s w4 _ HB5.out HST4.out).mono ?_
                rintro e w6 ⟨rfl, st6, _⟩
                have HST6 : Hid (TSt w.heap.size (w.heap.size + 1) ra rb b1 b2 w w6 xa yb s (layP t ⟨dk, dn, dt⟩)) := st6
                clear st6
                go_wp2
                go_roundg (wt xa + wt yb)
                case measure => exact HM.out
                case rel => have hX := HX.out; rw [HE1.out, HE2.out] at hX; exact ⟨xa, yb, _, _, _, _, _, _, _, _, rfl, HST6.out, hX.1, hX.2⟩
              · have HE2 : Hid (stepS t ⟨dk, dn, dt⟩ ⟨ck, cn, ct⟩ = t) := HT0.out p1
                have hc1 : (ck == 1) = false := by simpa using p1
                clear HS0 HS1 HT0 HT1 p1
                go_wp2
                go_roundg (wt xa + wt yb)
                case measure => exact HM.out
                case rel => have hX := HX.out; rw [HE1.out, HE2.out] at hX; exact ⟨xa, yb, _, _, _, _, _, _, _, _, rfl, HST4.out.here HB5.out, hX.1, hX.2⟩
end Go.Proofs.YtdlolnahbgecjaaDoor
