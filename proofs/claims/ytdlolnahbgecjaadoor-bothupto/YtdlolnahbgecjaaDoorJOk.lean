import Derived.Test.YtdlolnahbgecjaaDoorPush5
import Derived.Test.YtdlolnahbgecjaaDoorEach
namespace Go.Proofs.YtdlolnahbgecjaaDoor
open Go.RowKit
set_option linter.unusedVariables false

/-- how many bytes a part has -/
def pl (p : Pt) : Nat := p.n.toNat + p.t.size
def restP (p : Pt) (k : Nat) : List Pt := if pl p ≤ k then [] else [cut p k (pl p - k)]
def wt : List Pt → Nat
  | [] => 0
  | p :: r => pl p + 1 + wt r
theorem wt_append (a b : List Pt) : wt (a ++ b) = wt a + wt b := by
  induction a with
  | nil => simp [wt]
  | cons p r ih => simp only [List.cons_append, wt, ih]; omega
theorem okP_of {p : Pt} (h : okP p) : okPt p = true := by
  unfold okPt
  rcases h with ⟨h, h2, h3⟩ | ⟨h, h2, h3⟩
  · rw [h3]
    have e : (⟨#[]⟩ : ByteArray).toList.isEmpty = true := by rw [ByteArray.toList_eq]; rfl
    rw [e]
    rcases h with h | h <;> simp [h, h2]
  · have e : p.t.toList.isEmpty = false := by
      cases e : p.t.toList.isEmpty with
      | false => rfl
      | true =>
        rw [List.isEmpty_iff, ByteArray.toList_eq] at e
        have : p.t.data.size = 0 := by rw [← Array.length_toList, e]; rfl
        have h4 : p.t.size = p.t.data.size := rfl
        omega
    rw [e]; simp [h, h2]
theorem pl_pos {p : Pt} (h : okP p) : 1 ≤ pl p := by
  unfold pl; rcases h with ⟨_, h, _⟩ | ⟨_, _, h⟩ <;> omega
theorem pl_n {p : Pt} (h : okP p) (hk : p.k ≠ 2) : (pl p : Int) = p.n ∧ p.t = ⟨#[]⟩ := by
  rcases h with ⟨_, h, h2⟩ | ⟨h, _⟩
  · refine ⟨?_, h2⟩; unfold pl; rw [h2]; show ((p.n.toNat + 0 : Nat) : Int) = _; omega
  · exact absurd h hk
theorem pl_t {p : Pt} (h : okP p) (hk : p.k = 2) : pl p = p.t.size ∧ p.n = 0 := by
  rcases h with ⟨h, _⟩ | ⟨_, h, _⟩
  · omega
  · exact ⟨by unfold pl; omega, h⟩
theorem extract_size' (t : ByteArray) (a b : Nat) (h : b ≤ t.size) : (t.extract a b).size = b - a := by rw [ByteArray.size_extract]; omega
theorem cut_ok {p : Pt} (h : okP p) {a m : Nat} (hm : 1 ≤ m) (hl : a + m ≤ pl p) : okP (cut p a m) ∧ pl (cut p a m) = m ∧ (cut p a m).k = p.k := by
  unfold cut
  by_cases hk : p.k = 2
  · rw [if_pos hk]
    obtain ⟨e1, e2⟩ := pl_t h hk
    have e : (p.t.extract a (a + m)).size = m := by rw [extract_size' _ _ _ (by omega)]; omega
    exact ⟨Or.inr ⟨hk, e2, by show 0 < (p.t.extract a (a + m)).size; omega⟩, by unfold pl; show p.n.toNat + (p.t.extract a (a + m)).size = m; rw [e, e2]; simp, rfl⟩
  · rw [if_neg hk]
    obtain ⟨e1, e2⟩ := pl_n h hk
    have hk' : p.k = 1 ∨ p.k = 3 := by rcases h with ⟨h, _⟩ | ⟨h, _⟩; exact h; exact absurd h hk
    exact ⟨Or.inl ⟨hk', by simp; omega, e2⟩, by unfold pl; show (m : Int).toNat + p.t.size = m; rw [e2]; show (m : Int).toNat + 0 = m; omega, rfl⟩
theorem cut_all {p : Pt} (h : okP p) : cut p 0 (pl p) = p := by
  unfold cut
  by_cases hk : p.k = 2
  · rw [if_pos hk]
    obtain ⟨e1, e2⟩ := pl_t h hk
    obtain ⟨k, n, t⟩ := p
    simp only at e1 e2 ⊢
    rw [e1, Nat.zero_add]
    congr 1
    exact ByteArray.extract_zero_size
  · rw [if_neg hk]
    obtain ⟨e1, e2⟩ := pl_n h hk
    obtain ⟨k, n, t⟩ := p
    simp only at e1 e2 ⊢
    rw [e1]
theorem cut_cut {p : Pt} (h : okP p) {a m b j : Nat} (hj : b + j ≤ m) (hl : a + m ≤ pl p) : cut (cut p a m) b j = cut p (a + b) j := by
  unfold cut
  by_cases hk : p.k = 2
  · rw [if_pos hk]
    obtain ⟨e1, e2⟩ := pl_t h hk
    simp only [hk, if_true]
    congr 1
    rw [ByteArray.extract_extract]
    congr 1 <;> omega
  · rw [if_neg hk]
    simp only [hk, if_false]
theorem rest_all {p : Pt} {k : Nat} (h : pl p ≤ k) : restP p k = [] := by unfold restP; rw [if_pos h]
theorem rest_part {p : Pt} {k : Nat} (h : k < pl p) : restP p k = [cut p k (pl p - k)] := by unfold restP; rw [if_neg (by omega)]
theorem rest_ok {p : Pt} (h : okP p) (k : Nat) : ∀ q ∈ restP p k, okP q := by
  intro q hq
  unfold restP at hq
  split at hq
  · cases hq
  · rw [List.mem_singleton] at hq; subst hq; exact (cut_ok h (by omega) (by omega)).1
theorem rest_wt {p : Pt} (h : okP p) {k : Nat} (hk : 1 ≤ k) : wt (restP p k) < pl p + 1 := by
  unfold restP
  split
  · simp [wt]
  · simp only [wt]; rw [(cut_ok h (a := k) (m := pl p - k) (by omega) (by omega)).2.1]; omega

/-- one step of both -/
def stepJ (s : WS) (p q : Pt) : WS := if q.k = 1 then layP s p else if p.k = 1 then layP s q else s

/-- joining: what the writer holds in the end (n: as many steps as there may be) -/
def J : Nat → List Pt → List Pt → WS → WS
  | 0, _, _, s => s
  | _ + 1, [], [], s => s
  | n + 1, [], y :: b, s => if y.k = 2 then J n [] b (layP s y) else s
  | n + 1, x :: a, [], s => if x.k = 3 then J n a [] (layP s x) else s
  | n + 1, x :: a, y :: b, s =>
    if y.k = 2 then J n (x :: a) b (layP s y)
    else if x.k = 3 then J n a (y :: b) (layP s x)
    else J n (restP x (min (pl x) (pl y)) ++ a) (restP y (min (pl x) (pl y)) ++ b) (stepJ s (cut x 0 (min (pl x) (pl y))) (cut y 0 (min (pl x) (pl y))))
def allOk (l : List Pt) : Prop := ∀ p ∈ l, okP p
theorem allOk_cons {p : Pt} {l : List Pt} (h : allOk (p :: l)) : okP p ∧ allOk l := ⟨h p (by simp), fun q hq => h q (by simp [hq])⟩
theorem allOk_app {a b : List Pt} (h : allOk a) (k : allOk b) : allOk (a ++ b) := fun q hq => by
  rcases List.mem_append.1 hq with hq | hq
  · exact h q hq
  · exact k q hq
/-- more steps than there may be change nothing -/
theorem J_more : ∀ (n : Nat) (a b : List Pt) (s : WS), allOk a → allOk b → wt a + wt b ≤ n → J (n + 1) a b s = J n a b s
  | 0, a, b, s, ha, hb, h => by
    cases a with
    | nil => cases b with
      | nil => rfl
      | cons y b => simp only [wt] at h; omega
    | cons x a => simp only [wt] at h; omega
  | n + 1, a, b, s, ha, hb, h => by
    cases a with
    | nil => cases b with
      | nil => rfl
      | cons y b =>
        simp only [wt] at h
        rw [J.eq_3, J.eq_3]
        split
        · exact J_more n [] b _ ha (allOk_cons hb).2 (by simp only [wt]; omega)
        · rfl
    | cons x a => cases b with
      | nil =>
        simp only [wt] at h
        rw [J.eq_4, J.eq_4]
        split
        · exact J_more n a [] _ (allOk_cons ha).2 hb (by simp only [wt]; omega)
        · rfl
      | cons y b =>
        obtain ⟨hx, ha'⟩ := allOk_cons ha
        obtain ⟨hy, hb'⟩ := allOk_cons hb
        simp only [wt] at h
        rw [J.eq_5, J.eq_5]
        split
        · exact J_more n (x :: a) b _ ha hb' (by simp only [wt]; omega)
        · split
          · exact J_more n a (y :: b) _ ha' hb (by simp only [wt]; omega)
          · have h1 := pl_pos hx
            have h2 := pl_pos hy
            have w1 := rest_wt hx (k := min (pl x) (pl y)) (by omega)
            have w2 := rest_wt hy (k := min (pl x) (pl y)) (by omega)
            exact J_more n _ _ _ (allOk_app (rest_ok hx _) ha') (allOk_app (rest_ok hy _) hb') (by rw [wt_append, wt_append]; omega)
theorem J_le {a b : List Pt} (ha : allOk a) (hb : allOk b) (s : WS) {n : Nat} (h : wt a + wt b ≤ n) : J n a b s = J (wt a + wt b) a b s := by
  obtain ⟨m, rfl⟩ : ∃ m, n = wt a + wt b + m := ⟨n - (wt a + wt b), by omega⟩
  clear h
  induction m with
  | zero => rfl
  | succ m ih => rw [← Nat.add_assoc, J_more _ a b s ha hb (by omega), ih]
/-- joining -/
def Jn (a b : List Pt) (s : WS) : WS := J (wt a + wt b) a b s
theorem Jn_nil (s : WS) : Jn [] [] s = s := rfl
theorem Jn_add {a b : List Pt} {y : Pt} {s : WS} (ha : allOk a) (hb : allOk (y :: b)) (hy : y.k = 2) : Jn a (y :: b) s = Jn a b (layP s y) := by
  have hb' := (allOk_cons hb).2
  unfold Jn
  simp only [wt]
  rw [show wt a + (pl y + 1 + wt b) = (wt a + pl y + wt b) + 1 by omega]
  cases a with
  | nil => rw [J.eq_3, if_pos hy]; exact J_le ha hb' _ (by simp only [wt]; omega)
  | cons x a => rw [J.eq_5, if_pos hy]; exact J_le ha hb' _ (by omega)
theorem Jn_drop' {a b : List Pt} {x : Pt} {s : WS} (ha : allOk (x :: a)) (hb : allOk b) (hx : x.k = 3) (h : ∀ y b', b = y :: b' → y.k ≠ 2) : Jn (x :: a) b s = Jn a b (layP s x) := by
  have ha' := (allOk_cons ha).2
  unfold Jn
  simp only [wt]
  rw [show pl x + 1 + wt a + wt b = (pl x + wt a + wt b) + 1 by omega]
  cases b with
  | nil => rw [J.eq_4, if_pos hx]; exact J_le ha' hb _ (by simp only [wt]; omega)
  | cons y b => rw [J.eq_5, if_neg (h y b rfl), if_pos hx]; exact J_le ha' hb _ (by omega)
theorem lay_add' {s : WS} {y : Pt} (hy : y.k = 2) : layP s y = ⟨s.out, s.add ++ y.t, s.drop⟩ := by unfold layP; rw [if_neg (by omega), if_pos hy]
theorem lay_drop' {s : WS} {x : Pt} (hx : x.k = 3) : layP s x = ⟨s.out, s.add, s.drop + x.n⟩ := by unfold layP; rw [if_neg (by omega), if_neg (by omega)]
theorem lay_comm {s : WS} {x y : Pt} (hx : x.k = 3) (hy : y.k = 2) : layP (layP s y) x = layP (layP s x) y := by
  rw [lay_add' hy, lay_drop' hx, lay_drop' hx, lay_add' hy]
theorem Jn_drop : ∀ {b : List Pt} {a : List Pt} {x : Pt} {s : WS}, allOk (x :: a) → allOk b → x.k = 3 → Jn (x :: a) b s = Jn a b (layP s x)
  | [], a, x, s, ha, hb, hx => Jn_drop' ha hb hx (fun y b' h => by cases h)
  | y :: b, a, x, s, ha, hb, hx => by
    by_cases hy : y.k = 2
    · rw [Jn_add ha hb hy, Jn_drop ha (allOk_cons hb).2 hx, Jn_add (allOk_cons ha).2 hb hy, lay_comm hx hy]
    · exact Jn_drop' ha hb hx (fun y' b' h => by cases h; exact hy)
theorem Jn_both {a b : List Pt} {x y : Pt} {s : WS} (ha : allOk (x :: a)) (hb : allOk (y :: b)) (hx : x.k ≠ 3) (hy : y.k ≠ 2) :
    Jn (x :: a) (y :: b) s = Jn (restP x (min (pl x) (pl y)) ++ a) (restP y (min (pl x) (pl y)) ++ b) (stepJ s (cut x 0 (min (pl x) (pl y))) (cut y 0 (min (pl x) (pl y)))) := by
  obtain ⟨ox, ha'⟩ := allOk_cons ha
  obtain ⟨oy, hb'⟩ := allOk_cons hb
  have h1 := pl_pos ox
  have h2 := pl_pos oy
  have w1 := rest_wt ox (k := min (pl x) (pl y)) (by omega)
  have w2 := rest_wt oy (k := min (pl x) (pl y)) (by omega)
  unfold Jn
  rw [show wt (x :: a) + wt (y :: b) = (pl x + wt a + (pl y + 1 + wt b)) + 1 by simp only [wt]; omega, J.eq_5, if_neg hy, if_neg hx]
  exact J_le (allOk_app (rest_ok ox _) ha') (allOk_app (rest_ok oy _) hb') _ (by rw [wt_append, wt_append]; omega)
end Go.Proofs.YtdlolnahbgecjaaDoor
namespace Go.Proofs.YtdlolnahbgecjaaDoor
open Go.RowKit
set_option linter.unusedVariables false

/-- how many bytes a change makes, and of how many -/
def madeL : List Pt → Nat
  | [] => 0
  | p :: r => (if p.k = 3 then 0 else pl p) + madeL r
def fromL : List Pt → Nat
  | [] => 0
  | p :: r => (if p.k = 2 then 0 else pl p) + fromL r
theorem madeL_append (a b : List Pt) : madeL (a ++ b) = madeL a + madeL b := by
  induction a with
  | nil => simp [madeL]
  | cons p r ih => simp only [List.cons_append, madeL, ih]; omega
theorem fromL_append (a b : List Pt) : fromL (a ++ b) = fromL a + fromL b := by
  induction a with
  | nil => simp [fromL]
  | cons p r ih => simp only [List.cons_append, fromL, ih]; omega
theorem rest_made {p : Pt} (h : okP p) {k : Nat} (hk : k ≤ pl p) : madeL (restP p k) = if p.k = 3 then 0 else pl p - k := by
  by_cases e : pl p ≤ k
  · rw [rest_all e]; simp only [madeL]; split <;> omega
  · obtain ⟨h1, h2, h3⟩ := cut_ok h (a := k) (m := pl p - k) (by omega) (by omega)
    rw [rest_part (by omega)]; simp only [madeL, h2, h3]; omega
theorem rest_from {p : Pt} (h : okP p) {k : Nat} (hk : k ≤ pl p) : fromL (restP p k) = if p.k = 2 then 0 else pl p - k := by
  by_cases e : pl p ≤ k
  · rw [rest_all e]; simp only [fromL]; split <;> omega
  · obtain ⟨h1, h2, h3⟩ := cut_ok h (a := k) (m := pl p - k) (by omega) (by omega)
    rw [rest_part (by omega)]; simp only [fromL, h2, h3]; omega
theorem rest_sum {p : Pt} (h : okP p) {k : Nat} (hk : k ≤ pl p) : sumL (restP p k) = if p.k = 2 then 0 else p.n - k := by
  by_cases e : pl p ≤ k
  · rw [rest_all e]; simp only [sumL]
    split
    · rfl
    · rename_i h2; have := (pl_n h h2).1; omega
  · obtain ⟨h1, h2, h3⟩ := cut_ok h (a := k) (m := pl p - k) (by omega) (by omega)
    rw [rest_part (by omega)]; simp only [sumL]
    split
    · rename_i h4; rw [(pl_t h1 (by omega)).2]; rfl
    · rename_i h4; have := (pl_n h1 (by omega)).1; have := (pl_n h h4).1; omega
theorem rest_text {p : Pt} (h : okP p) {k : Nat} (hk : k ≤ pl p) : textL (restP p k) = if p.k = 2 then p.t.size - k else 0 := by
  by_cases e : pl p ≤ k
  · rw [rest_all e]; simp only [textL]
    split
    · rename_i h2; have := (pl_t h h2).1; omega
    · rfl
  · obtain ⟨h1, h2, h3⟩ := cut_ok h (a := k) (m := pl p - k) (by omega) (by omega)
    rw [rest_part (by omega)]; simp only [textL]
    split
    · rename_i h4; have := (pl_t h1 (by omega)).1; have := (pl_t h h4).1; omega
    · rename_i h4; rw [(pl_n h1 (by omega)).2]; rfl
theorem rest_len (p : Pt) (k : Nat) : (restP p k).length ≤ 1 := by unfold restP; split <;> simp
theorem rest_min (x y : Pt) : (restP x (min (pl x) (pl y))).length + (restP y (min (pl x) (pl y))).length ≤ 1 := by
  by_cases h : pl x ≤ pl y
  · rw [rest_all (by omega)]; have := rest_len y (min (pl x) (pl y)); simp; omega
  · rw [rest_all (p := y) (by omega)]; have := rest_len x (min (pl x) (pl y)); simp; omega

/-- the writer, and the list in short that it stands for, in bounds -/
structure SOk (s : WS) (S : Int) (L A : Nat) : Prop where
  w : WOk s S L A
  p : POk (settleP s) S L A
theorem POk.mono {l : List Pt} {S S' : Int} {L L' A A' : Nat} (h : POk l S L A) (h1 : S ≤ S') (h2 : L ≤ L') (h3 : A ≤ A') : POk l S' L' A' :=
  ⟨h.ok, by have := h.sum; omega, by have := h.len; omega, by have := h.txt; omega⟩
theorem WOk.mono {s : WS} {S S' : Int} {L L' A A' : Nat} (h : WOk s S L A) (h1 : S ≤ S') (h2 : L ≤ L') (h3 : A ≤ A') : WOk s S' L' A' :=
  ⟨h.nn, h.drop, by have := h.sum; omega, by have := h.len; omega, by have := h.add; omega, h.clean⟩
theorem SOk.mono {s : WS} {S S' : Int} {L L' A A' : Nat} (h : SOk s S L A) (h1 : S ≤ S') (h2 : L ≤ L') (h3 : A ≤ A') : SOk s S' L' A' := ⟨h.w.mono h1 h2 h3, h.p.mono h1 h2 h3⟩
theorem SOk.step {s : WS} {S : Int} {L A : Nat} (h : SOk s S L A) {p : Pt} (hp : okP p) : settleP (layP s p) = pushP (settleP s) p := (lay_step h.w.clean h.w.drop hp).1
theorem SOk.lay {s : WS} {S : Int} {L A : Nat} (h : SOk s S L A) {p : Pt} (hp : okP p) : SOk (layP s p) (S + p.n) (L + 3) (A + p.t.size) :=
  ⟨h.w.lay (okP_of hp), by rw [h.step hp]; exact (h.p.push hp).mono (Int.le_refl _) (by omega) (Nat.le_refl _)⟩
theorem settle_zero : settleP ⟨[], ⟨#[]⟩, 0⟩ = [] := rfl
theorem SOk.zero : SOk ⟨[], ⟨#[]⟩, 0⟩ 0 0 0 :=
  ⟨⟨by simp, Int.le_refl _, by simp [sumL], by simp, Nat.le_refl _, trivial⟩, by rw [settle_zero]; exact ⟨by simp, by simp [sumL], by simp, by simp [textL]⟩⟩

/-- where a join stands -/
structure JOk (a b : List Pt) (s : WS) (S : Int) (L A : Nat) : Prop where
  oka : allOk a
  okb : allOk b
  fit : madeL a = fromL b
  s : SOk s S L A
  sum : S + sumL a ≤ 4611686018427387904
  len : L + 3 * (a.length + b.length) ≤ 10000000
  txt : A + textL a + textL b ≤ 10000000
theorem allOk_nn {l : List Pt} (h : allOk l) : 0 ≤ sumL l := sumL_nn (fun q hq => okP_nn (h q hq))
theorem JOk.add {a b : List Pt} {y : Pt} {s : WS} {S : Int} {L A : Nat} (h : JOk a (y :: b) s S L A) (hy : y.k = 2) : JOk a b (layP s y) S (L + 3) (A + y.t.size) := by
  obtain ⟨oy, hb⟩ := allOk_cons h.okb
  have h1 := h.fit
  have h2 := h.sum
  have h3 := h.len
  have h4 := h.txt
  have hn := (pl_t oy hy).2
  have hs := h.s.lay oy
  rw [hn, Int.add_zero] at hs
  simp only [fromL, hy, if_true, Nat.zero_add] at h1
  simp only [List.length_cons, textL] at h3 h4
  exact ⟨h.oka, hb, h1, hs, h2, by omega, by omega⟩
theorem JOk.drop {a b : List Pt} {x : Pt} {s : WS} {S : Int} {L A : Nat} (h : JOk (x :: a) b s S L A) (hx : x.k = 3) : JOk a b (layP s x) (S + x.n) (L + 3) A := by
  obtain ⟨ox, ha⟩ := allOk_cons h.oka
  have h1 := h.fit
  have h2 := h.sum
  have h3 := h.len
  have h4 := h.txt
  have ht := (pl_n ox (by omega)).2
  have hs := h.s.lay ox
  rw [show x.t.size = 0 by rw [ht]; rfl, Nat.add_zero] at hs
  simp only [madeL, hx, if_true, Nat.zero_add] at h1
  simp only [List.length_cons, textL, sumL] at h2 h3 h4
  exact ⟨ha, h.okb, h1, hs, by omega, by omega, by omega⟩
/-- there is something on either side -/
theorem JOk.left {b : List Pt} {y : Pt} {s : WS} {S : Int} {L A : Nat} (h : JOk [] (y :: b) s S L A) : y.k = 2 := by
  have h1 := h.fit
  obtain ⟨oy, hb⟩ := allOk_cons h.okb
  have := pl_pos oy
  simp only [madeL, fromL] at h1
  by_cases e : y.k = 2
  · exact e
  · rw [if_neg e] at h1; omega
theorem JOk.right {a : List Pt} {x : Pt} {s : WS} {S : Int} {L A : Nat} (h : JOk (x :: a) [] s S L A) : x.k = 3 := by
  have h1 := h.fit
  obtain ⟨ox, ha⟩ := allOk_cons h.oka
  have := pl_pos ox
  simp only [madeL, fromL] at h1
  by_cases e : x.k = 3
  · exact e
  · rw [if_neg e] at h1; omega
/-- how much a step of both adds -/
theorem JOk.both {a b : List Pt} {x y : Pt} {s : WS} {S : Int} {L A : Nat} (h : JOk (x :: a) (y :: b) s S L A) (hx : x.k ≠ 3) (hy : y.k ≠ 2) :
    ∃ S' A', JOk (restP x (min (pl x) (pl y)) ++ a) (restP y (min (pl x) (pl y)) ++ b) (stepJ s (cut x 0 (min (pl x) (pl y))) (cut y 0 (min (pl x) (pl y)))) S' (L + 3) A' := by
  obtain ⟨ox, ha⟩ := allOk_cons h.oka
  obtain ⟨oy, hb⟩ := allOk_cons h.okb
  have h1 := h.fit
  have h2 := h.sum
  have h3 := h.len
  have h4 := h.txt
  have p1 := pl_pos ox
  have p2 := pl_pos oy
  have hrm := rest_min x y
  generalize hk : min (pl x) (pl y) = k at *
  have hkx : k ≤ pl x := by omega
  have hky : k ≤ pl y := by omega
  have hk1 : 1 ≤ k := by omega
  obtain ⟨cx, cxl, cxk⟩ := cut_ok ox (a := 0) (m := k) hk1 (by omega)
  obtain ⟨cy, cyl, cyk⟩ := cut_ok oy (a := 0) (m := k) hk1 (by omega)
  have fit' : madeL (restP x k ++ a) = fromL (restP y k ++ b) := by
    rw [madeL_append, fromL_append, rest_made ox hkx, rest_from oy hky, if_neg hx, if_neg hy]
    simp only [madeL, fromL, if_neg hx, if_neg hy] at h1
    omega
  have hsum : sumL (restP x k ++ a) = (if x.k = 2 then 0 else x.n - k) + sumL a := by rw [sumL_append, rest_sum ox hkx]
  have hta : textL (restP x k ++ a) = (if x.k = 2 then x.t.size - k else 0) + textL a := by rw [textL_append, rest_text ox hkx]
  have htb : textL (restP y k ++ b) = textL b := by rw [textL_append, rest_text oy hky, if_neg hy, Nat.zero_add]
  have hyt : y.t.size = 0 := by rw [(pl_n oy hy).2]; rfl
  simp only [sumL, List.length_cons, textL] at h2 h3 h4
  have hlen : (L + 3) + 3 * ((restP x k ++ a).length + (restP y k ++ b).length) ≤ 10000000 := by
    rw [List.length_append, List.length_append]; omega
  have hnx := okP_nn ox
  have cyn : (cut y 0 k).n = k ∧ (cut y 0 k).t.size = 0 := by
    obtain ⟨e1, e2⟩ := pl_n cy (by omega)
    exact ⟨by omega, by rw [e2]; rfl⟩
  unfold stepJ
  by_cases q1 : (cut y 0 k).k = 1
  · rw [if_pos q1]
    by_cases x2 : x.k = 2
    · have e1 := (pl_t ox x2).1
      obtain ⟨e2, e3⟩ := pl_t cx (by omega)
      have hs := h.s.lay cx
      rw [e3, Int.add_zero] at hs
      rw [if_pos x2] at hsum hta
      exact ⟨S, A + (cut x 0 k).t.size, allOk_app (rest_ok ox _) ha, allOk_app (rest_ok oy _) hb, fit', hs, by omega, hlen, by omega⟩
    · obtain ⟨e1, e1'⟩ := pl_n ox x2
      obtain ⟨e2, e3⟩ := pl_n cx (by omega)
      have hs := h.s.lay cx
      rw [e3] at hs
      rw [if_neg x2] at hsum hta
      refine ⟨S + (cut x 0 k).n, A, allOk_app (rest_ok ox _) ha, allOk_app (rest_ok oy _) hb, fit', hs, ?_, hlen, by omega⟩
      rw [hsum]; omega
  · rw [if_neg q1]
    by_cases x1 : (cut x 0 k).k = 1
    · rw [if_pos x1]
      have x2 : x.k ≠ 2 := by omega
      obtain ⟨e1, e1'⟩ := pl_n ox x2
      have hs := h.s.lay cy
      rw [cyn.1, cyn.2, Nat.add_zero] at hs
      rw [if_neg x2] at hsum hta
      refine ⟨S + k, A, allOk_app (rest_ok ox _) ha, allOk_app (rest_ok oy _) hb, fit', hs, ?_, hlen, by omega⟩
      rw [hsum]; omega
    · rw [if_neg x1]
      have x2 : x.k = 2 := by
        rcases ox with ⟨h, _⟩ | ⟨h, _⟩
        · omega
        · exact h
      have e1 := (pl_t ox x2).1
      rw [if_pos x2] at hsum hta
      exact ⟨S, A, allOk_app (rest_ok ox _) ha, allOk_app (rest_ok oy _) hb, fit', h.s.mono (Int.le_refl _) (by omega) (Nat.le_refl _), by omega, hlen, by omega⟩
end Go.Proofs.YtdlolnahbgecjaaDoor
