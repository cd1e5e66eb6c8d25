import Derived.Test.YtdlolnahbgecjaaDoorBase
namespace Go.Proofs.YtdlolnahbgecjaaDoor

/-- 'push', of the document's answer -/
def pushP (l : List Pt) (p : Pt) : List Pt :=
  if p.n = 0 ∧ p.t.size = 0 then l
  else match l.reverse with
    | [] => [p]
    | q :: r =>
      if q.k = p.k then r.reverse ++ [⟨q.k, q.n + p.n, q.t ++ p.t⟩]
      else if p.k ≠ 2 ∨ q.k ≠ 3 then l ++ [p]
      else match r with
        | [] => [p, q]
        | q2 :: r2 => if q2.k = 2 then r2.reverse ++ [⟨q2.k, q2.n, q2.t ++ p.t⟩, q] else r.reverse ++ [p, q]

/-- a writer: what is written, what waits -/
structure WS where
  out : List Pt
  add : ByteArray
  drop : Int
def settleP (s : WS) : List Pt := s.out ++ (if s.add.size = 0 then [] else [⟨2, 0, s.add⟩]) ++ (if s.drop = 0 then [] else [⟨3, s.drop, ⟨#[]⟩⟩])
def keepL (l : List Pt) (n : Int) : List Pt := match l.reverse with
  | [] => [⟨1, n, ⟨#[]⟩⟩]
  | q :: r => if q.k = 1 then r.reverse ++ [⟨q.k, q.n + n, q.t⟩] else l ++ [⟨1, n, ⟨#[]⟩⟩]
def keepP (s : WS) (n : Int) : WS := ⟨keepL (settleP s) n, ⟨#[]⟩, 0⟩
def layP (s : WS) (p : Pt) : WS :=
  if p.k = 1 then keepP s p.n else if p.k = 2 then ⟨s.out, s.add ++ p.t, s.drop⟩ else ⟨s.out, s.add, s.drop + p.n⟩
def clean (l : List Pt) : Prop := match l.reverse with
  | [] => True
  | q :: _ => q.k = 1 ∧ q.t = ⟨#[]⟩

theorem empty_of {t : ByteArray} (h : t.size = 0) : t = ⟨#[]⟩ := by
  obtain ⟨d⟩ := t
  have : d = #[] := Array.eq_empty_of_size_eq_zero h
  subst this; rfl
theorem empty_append (t : ByteArray) : (⟨#[]⟩ : ByteArray) ++ t = t := ByteArray.empty_append
theorem append_empty (t : ByteArray) : t ++ (⟨#[]⟩ : ByteArray) = t := ByteArray.append_empty

/-- an ordinary part: what okPt says -/
def okP (p : Pt) : Prop := ((p.k = 1 ∨ p.k = 3) ∧ 1 ≤ p.n ∧ p.t = ⟨#[]⟩) ∨ (p.k = 2 ∧ p.n = 0 ∧ 0 < p.t.size)

theorem clean_cases {l : List Pt} (h : clean l) : l = [] ∨ ∃ r n, l = r ++ [⟨1, n, ⟨#[]⟩⟩] := by
  unfold clean at h
  cases e : l.reverse with
  | nil => exact Or.inl (List.reverse_eq_nil_iff.1 e)
  | cons q r =>
    rw [e] at h
    refine Or.inr ⟨r.reverse, q.n, ?_⟩
    have : l = (q :: r).reverse := by rw [← e]; simp
    rw [this, List.reverse_cons]
    obtain ⟨k, n, t⟩ := q
    simp at h
    simp [h.1, h.2]

/-- a part that is something -/
def some' (p : Pt) : Prop := ¬ (p.n = 0 ∧ p.t.size = 0)
theorem pushP_nil {p : Pt} (hp : some' p) : pushP [] p = [p] := by unfold pushP; rw [if_neg hp]; rfl
theorem pushP_same {r : List Pt} {q p : Pt} (hp : some' p) (h : q.k = p.k) : pushP (r ++ [q]) p = r ++ [⟨q.k, q.n + p.n, q.t ++ p.t⟩] := by
  unfold pushP; rw [if_neg hp]; simp [h]
theorem pushP_snoc {r : List Pt} {q p : Pt} (hp : some' p) (h : q.k ≠ p.k) (h2 : p.k ≠ 2 ∨ q.k ≠ 3) : pushP (r ++ [q]) p = r ++ [q] ++ [p] := by
  unfold pushP; rw [if_neg hp]; simp only [List.reverse_append, List.reverse_cons, List.reverse_nil, List.nil_append, List.cons_append]
  rw [if_neg h, if_pos h2]
theorem pushP_swap1 {q p : Pt} (hp : some' p) (h : p.k = 2) (h2 : q.k = 3) : pushP [q] p = [p, q] := by
  unfold pushP; rw [if_neg hp]; simp only [List.reverse_cons, List.reverse_nil, List.nil_append]
  rw [if_neg (by omega), if_neg (by omega)]
theorem pushP_swap2 {r : List Pt} {q2 q p : Pt} (hp : some' p) (h : p.k = 2) (h2 : q.k = 3) (h3 : q2.k = 2) : pushP (r ++ [q2, q]) p = r ++ [⟨q2.k, q2.n, q2.t ++ p.t⟩, q] := by
  unfold pushP; rw [if_neg hp]; simp only [List.reverse_append, List.reverse_cons, List.reverse_nil, List.nil_append, List.cons_append, List.reverse_reverse]
  rw [if_neg (by omega), if_neg (by omega), if_pos h3]
theorem pushP_swap3 {r : List Pt} {q2 q p : Pt} (hp : some' p) (h : p.k = 2) (h2 : q.k = 3) (h3 : q2.k ≠ 2) : pushP (r ++ [q2, q]) p = r ++ [q2] ++ [p, q] := by
  unfold pushP; rw [if_neg hp]; simp only [List.reverse_append, List.reverse_cons, List.reverse_nil, List.nil_append, List.cons_append, List.reverse_reverse]
  rw [if_neg (by omega), if_neg (by omega), if_neg h3]
theorem keepL_nil (n : Int) : keepL [] n = [⟨1, n, ⟨#[]⟩⟩] := rfl
theorem keepL_same {r : List Pt} {q : Pt} {n : Int} (h : q.k = 1) : keepL (r ++ [q]) n = r ++ [⟨q.k, q.n + n, q.t⟩] := by
  unfold keepL; simp [h]
theorem keepL_snoc {r : List Pt} {q : Pt} {n : Int} (h : q.k ≠ 1) : keepL (r ++ [q]) n = r ++ [q] ++ [⟨1, n, ⟨#[]⟩⟩] := by
  unfold keepL; simp [h]
theorem snoc_cases (l : List Pt) : l = [] ∨ ∃ r q, l = r ++ [q] := by
  rcases List.eq_nil_or_concat l with h | ⟨r, q, h⟩
  · exact Or.inl h
  · exact Or.inr ⟨r, q, by simpa using h⟩
theorem clean_keep (l : List Pt) (h : ∀ r q, l = r ++ [q] → q.k = 1 → q.t = ⟨#[]⟩) (n : Int) : clean (keepL l n) := by
  rcases snoc_cases l with rfl | ⟨r, q, rfl⟩
  · simp [keepL_nil, clean]
  · by_cases hq : q.k = 1
    · rw [keepL_same hq]; simp [clean, hq, h r q rfl hq]
    · rw [keepL_snoc hq]; simp [clean]
theorem settle_keep (s : WS) (hc : clean s.out) : ∀ r q, settleP s = r ++ [q] → q.k = 1 → q.t = ⟨#[]⟩ := by
  intro r q h hq
  obtain ⟨out, add, drop⟩ := s
  unfold settleP at h
  simp only at h hc
  by_cases hd : drop = 0
  · rw [if_pos hd, List.append_nil] at h
    by_cases ha : add.size = 0
    · rw [if_pos ha, List.append_nil] at h
      subst h
      simp [clean] at hc
      exact hc.2
    · rw [if_neg ha] at h
      have := List.append_inj_right' h rfl
      simp at this; subst this; simp at hq
  · rw [if_neg hd] at h
    have := List.append_inj_right' h rfl
    simp at this; subst this; simp at hq
theorem keepP_push (l : List Pt) (n : Int) (hn : 1 ≤ n) : keepL l n = pushP l ⟨1, n, ⟨#[]⟩⟩ := by
  have hp : some' ⟨1, n, ⟨#[]⟩⟩ := fun h => by have := h.1; simp at this; omega
  rcases snoc_cases l with rfl | ⟨r, q, rfl⟩
  · rw [keepL_nil, pushP_nil hp]
  · by_cases hq : q.k = 1
    · rw [keepL_same hq, pushP_same hp hq, append_empty]
    · rw [keepL_snoc hq, pushP_snoc hp hq (Or.inl (by simp))]

theorem lay_step {s : WS} {p : Pt} (hc : clean s.out) (hd : 0 ≤ s.drop) (hp : okP p) : settleP (layP s p) = pushP (settleP s) p ∧ clean (layP s p).out ∧ 0 ≤ (layP s p).drop := by
  have e0 : (⟨#[]⟩ : ByteArray).size = 0 := rfl
  rcases hp with ⟨hk, hn, ht⟩ | ⟨hk, hn, ht⟩
  · have hsp : some' p := fun h => by omega
    rcases hk with hk | hk
    · have hl : layP s p = keepP s p.n := by unfold layP; rw [if_pos hk]
      rw [hl]
      refine ⟨?_, clean_keep _ (settle_keep s hc) _, Int.le_refl _⟩
      have e : p = ⟨1, p.n, ⟨#[]⟩⟩ := by obtain ⟨k, n, t⟩ := p; simp at hk ht; rw [hk, ht]
      have h2 : settleP (keepP s p.n) = keepL (settleP s) p.n := by simp [settleP, keepP, e0]
      rw [h2, keepP_push _ _ hn, ← e]
    · have hl : layP s p = ⟨s.out, s.add, s.drop + p.n⟩ := by unfold layP; rw [if_neg (by omega), if_neg (by omega)]
      rw [hl]
      refine ⟨?_, hc, by show 0 ≤ s.drop + p.n; omega⟩
      obtain ⟨out, add, drop⟩ := s
      obtain ⟨k, n, t⟩ := p
      simp only at hk hn ht hd hc
      subst hk ht
      unfold settleP
      simp only
      rw [if_neg (show ¬ drop + n = 0 by omega)]
      by_cases hd0 : drop = 0
      · subst hd0
        rw [if_pos rfl, List.append_nil, Int.zero_add]
        rcases snoc_cases (out ++ if add.size = 0 then [] else [(⟨2, 0, add⟩ : Pt)]) with h | ⟨r, q, h⟩
        · rw [h, pushP_nil hsp]; rfl
        · have hq : q.k ≠ 3 := by
            by_cases ha : add.size = 0
            · rw [if_pos ha, List.append_nil] at h
              subst h; simp [clean] at hc; omega
            · rw [if_neg ha] at h
              have := List.append_inj_right' h rfl
              simp at this; subst this; simp
          rw [h, pushP_snoc hsp hq (Or.inl (by simp))]
      · rw [if_neg hd0, pushP_same (q := ⟨3, drop, ⟨#[]⟩⟩) hsp rfl, append_empty]
  · have hsp : some' p := fun h => by omega
    have hl : layP s p = ⟨s.out, s.add ++ p.t, s.drop⟩ := by unfold layP; rw [if_neg (by omega), if_pos hk]
    rw [hl]
    refine ⟨?_, hc, hd⟩
    obtain ⟨out, add, drop⟩ := s
    obtain ⟨k, n, t⟩ := p
    simp only at hk hn ht hd hc
    subst hk hn
    unfold settleP
    simp only
    have hs : ¬ (add ++ t).size = 0 := by rw [ByteArray.size_append]; omega
    rw [if_neg hs]
    by_cases ha : add.size = 0
    · have ea : add = ⟨#[]⟩ := empty_of ha
      subst ea
      rw [if_pos e0, empty_append, List.append_nil]
      by_cases hd0 : drop = 0
      · rw [if_pos hd0, List.append_nil, List.append_nil]
        rcases clean_cases hc with rfl | ⟨r, m, rfl⟩
        · rw [pushP_nil hsp]; rfl
        · rw [pushP_snoc hsp (by simp) (Or.inr (by simp))]
      · rw [if_neg hd0]
        rcases clean_cases hc with rfl | ⟨r, m, rfl⟩
        · simp only [List.nil_append]; rw [pushP_swap1 hsp rfl rfl]; rfl
        · rw [show r ++ [(⟨1, m, ⟨#[]⟩⟩ : Pt)] ++ [⟨3, drop, ⟨#[]⟩⟩] = r ++ [⟨1, m, ⟨#[]⟩⟩, ⟨3, drop, ⟨#[]⟩⟩] by simp, pushP_swap3 hsp rfl rfl (by simp)]
          simp
    · rw [if_neg ha]
      by_cases hd0 : drop = 0
      · rw [if_pos hd0, List.append_nil, List.append_nil, pushP_same (q := ⟨2, 0, add⟩) hsp rfl]; rfl
      · rw [if_neg hd0, show out ++ [(⟨2, 0, add⟩ : Pt)] ++ [⟨3, drop, ⟨#[]⟩⟩] = out ++ [⟨2, 0, add⟩, ⟨3, drop, ⟨#[]⟩⟩] by simp, pushP_swap2 (q2 := ⟨2, 0, add⟩) (q := ⟨3, drop, ⟨#[]⟩⟩) hsp rfl rfl rfl]
        simp

theorem lay_all : ∀ (ps : List Pt) (s : WS), clean s.out → 0 ≤ s.drop → (∀ p ∈ ps, okP p) → settleP (ps.foldl layP s) = ps.foldl pushP (settleP s) ∧ clean (ps.foldl layP s).out ∧ 0 ≤ (ps.foldl layP s).drop
  | [], s, hc, hd, _ => ⟨rfl, hc, hd⟩
  | p :: ps, s, hc, hd, h => by
    obtain ⟨h1, h2, h3⟩ := lay_step hc hd (h p (by simp))
    have := lay_all ps (layP s p) h2 h3 (fun q hq => h q (by simp [hq]))
    rw [h1] at this
    exact this
end Go.Proofs.YtdlolnahbgecjaaDoor
