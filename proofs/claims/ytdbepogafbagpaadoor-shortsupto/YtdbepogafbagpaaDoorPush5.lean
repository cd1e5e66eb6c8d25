import Derived.Test.YtdbepogafbagpaaDoorPush4
namespace Go.Proofs.YtdbepogafbagpaaDoor
open Go.RowKit
set_option linter.unusedVariables false

def textL : List Pt → Nat
  | [] => 0
  | p :: r => p.t.size + textL r
theorem textL_append (a b : List Pt) : textL (a ++ b) = textL a + textL b := by
  induction a with
  | nil => simp [textL]
  | cons p r ih => simp only [List.cons_append, textL, ih]; omega
theorem okP_some {p : Pt} (h : okP p) : some' p := by
  rintro ⟨a, b⟩
  rcases h with ⟨_, h, _⟩ | ⟨_, _, h⟩ <;> omega
theorem okP_nn {p : Pt} (h : okP p) : 0 ≤ p.n := by
  rcases h with ⟨_, h, _⟩ | ⟨_, h, _⟩ <;> omega

/-- what is asked of a list in short: its numbers, and how much it holds -/
structure POk (l : List Pt) (S : Int) (L A : Nat) : Prop where
  ok : ∀ q ∈ l, okP q
  sum : sumL l ≤ S
  len : l.length ≤ L
  txt : textL l ≤ A

theorem snoc_two (l : List Pt) : l = [] ∨ (∃ q, l = [q]) ∨ ∃ r q2 q, l = (r ++ [q2]) ++ [q] := by
  rcases snoc_cases l with rfl | ⟨r, q, rfl⟩
  · exact Or.inl rfl
  · rcases snoc_cases r with rfl | ⟨r, q2, rfl⟩
    · exact Or.inr (Or.inl ⟨q, rfl⟩)
    · exact Or.inr (Or.inr ⟨r, q2, q, rfl⟩)
theorem okP_same {q p : Pt} (hq : okP q) (hp : okP p) (h : q.k = p.k) : okP ⟨q.k, q.n + p.n, q.t ++ p.t⟩ := by
  rcases hq with ⟨a, b, c⟩ | ⟨a, b, c⟩
  · rcases hp with ⟨a', b', c'⟩ | ⟨a', b', c'⟩
    · exact Or.inl ⟨a, by simp; omega, by show q.t ++ p.t = _; rw [c, c']; rfl⟩
    · omega
  · rcases hp with ⟨a', b', c'⟩ | ⟨a', b', c'⟩
    · omega
    · exact Or.inr ⟨a, by simp; omega, by show 0 < (q.t ++ p.t).size; rw [ByteArray.size_append]; omega⟩
theorem POk.push {l : List Pt} {S : Int} {L A : Nat} {p : Pt} (h : POk l S L A) (hp : okP p) : POk (pushP l p) (S + p.n) (L + 1) (A + p.t.size) := by
  have hs := okP_some hp
  have h0 := okP_nn hp
  obtain ⟨h1, h2, h3, h4⟩ := h
  rcases snoc_cases l with rfl | ⟨r, q, rfl⟩
  · rw [pushP_nil hs]
    exact ⟨by simpa using hp, by simp [sumL] at h2 ⊢; omega, by simp, by simp [textL]⟩
  · have hq := h1 q (by simp)
    have hr : ∀ x ∈ r, okP x := fun x hx => h1 x (by simp [hx])
    simp only [sumL_append, textL_append, List.length_append, sumL, textL, List.length_cons, List.length_nil] at h2 h3 h4
    by_cases e : q.k = p.k
    · rw [pushP_same hs e]
      refine ⟨?_, ?_, ?_, ?_⟩
      · intro x hx
        rcases List.mem_append.1 hx with hx | hx
        · exact hr x hx
        · rw [List.mem_singleton] at hx; subst hx; exact okP_same hq hp e
      · simp only [sumL_append, sumL]; omega
      · simp; omega
      · simp only [textL_append, textL, ByteArray.size_append]; omega
    · by_cases e2 : p.k ≠ 2 ∨ q.k ≠ 3
      · rw [pushP_snoc hs e e2]
        refine ⟨?_, ?_, ?_, ?_⟩
        · intro x hx
          rcases List.mem_append.1 hx with hx | hx
          · exact h1 x hx
          · rw [List.mem_singleton] at hx; subst hx; exact hp
        · simp only [sumL_append, sumL]; omega
        · simp; omega
        · simp only [textL_append, textL]; omega
      · have e3 : p.k = 2 := Decidable.byContradiction fun x => e2 (Or.inl x)
        have e4 : q.k = 3 := Decidable.byContradiction fun x => e2 (Or.inr x)
        have hpn : p.n = 0 := by rcases hp with ⟨a, _, _⟩ | ⟨_, b, _⟩ <;> omega
        rcases snoc_cases r with rfl | ⟨r, q2, rfl⟩
        · simp only [List.nil_append]
          rw [pushP_swap1 hs e3 e4]
          refine ⟨?_, ?_, ?_, ?_⟩
          · intro x hx
            simp only [List.mem_cons, List.not_mem_nil, or_false] at hx
            rcases hx with hx | hx <;> subst hx <;> assumption
          · simp only [sumL] at h2 ⊢; omega
          · simp at h3 ⊢; omega
          · simp only [textL] at h4 ⊢; omega
        · have hq2 := hr q2 (by simp)
          have hr' : ∀ x ∈ r, okP x := fun x hx => hr x (by simp [hx])
          simp only [sumL_append, textL_append, List.length_append, sumL, textL, List.length_cons, List.length_nil] at h2 h3 h4
          rw [show r ++ [q2] ++ [q] = r ++ [q2, q] by simp]
          by_cases e5 : q2.k = 2
          · rw [pushP_swap2 hs e3 e4 e5]
            refine ⟨?_, ?_, ?_, ?_⟩
            · intro x hx
              simp only [List.mem_append, List.mem_cons, List.not_mem_nil, or_false] at hx
              rcases hx with hx | hx | hx
              · exact hr' x hx
              · subst hx
                have := okP_same hq2 hp (by omega)
                rw [hpn, Int.add_zero] at this; exact this
              · subst hx; exact hq
            · simp only [sumL_append, sumL]; omega
            · simp; omega
            · simp only [textL_append, textL, ByteArray.size_append]; omega
          · rw [pushP_swap3 hs e3 e4 e5]
            refine ⟨?_, ?_, ?_, ?_⟩
            · intro x hx
              simp only [List.mem_append, List.mem_cons, List.not_mem_nil, or_false] at hx
              rcases hx with (hx | hx) | hx | hx
              · exact hr' x hx
              · subst hx; exact hq2
              · subst hx; exact hp
              · subst hx; exact hq
            · simp only [sumL_append, sumL]; omega
            · simp; omega
            · simp only [textL_append, textL]; omega

theorem sumL_mem {l : List Pt} (h : ∀ q ∈ l, 0 ≤ q.n) {q : Pt} (hq : q ∈ l) : q.n ≤ sumL l := by
  induction l with
  | nil => cases hq
  | cons p r ih =>
    have h1 := h p (by simp)
    have h2 := sumL_nn (fun x hx => h x (List.mem_cons_of_mem _ hx))
    simp only [sumL]
    rcases List.mem_cons.1 hq with rfl | hq
    · omega
    · have := ih (fun x hx => h x (List.mem_cons_of_mem _ hx)) hq; omega
theorem textL_mem {l : List Pt} {q : Pt} (hq : q ∈ l) : q.t.size ≤ textL l := by
  induction l with
  | nil => cases hq
  | cons p r ih =>
    simp only [textL]
    rcases List.mem_cons.1 hq with rfl | hq
    · omega
    · have := ih hq; omega

theorem push_any {base : Nat} (w : World) (v : Value) (l : List Pt) (p : Pt) (S : Int) (L A : Nat) (hb : base ≤ w.heap.size) (O : Own w base v l) (hp : okP p) (h : POk l S L A) (hS : S + p.n ≤ 9223372036854775807) (hL : L ≤ 100000000) (hA : A + p.t.size ≤ 100000000) :
    Calls Tryd.prog 33 #[v, .agg #[.int .i64 p.k, .int .i64 p.n, .string p.t]] w fun e w' => ∃ v', e = .returned v' ∧ Own w' base v' (pushP l p) ∧ Fr base [60] w w' := by
  have hs := okP_some hp
  have h0 := okP_nn hp
  have hnn : ∀ q ∈ l, 0 ≤ q.n := fun q hq => okP_nn (h.ok q hq)
  have h2 := h.sum
  have h3 := h.len
  have h4 := h.txt
  rcases snoc_cases l with rfl | ⟨r, q, rfl⟩
  · rw [pushP_nil hs]; exact push_nil w v p hb O hs
  · have hqn := sumL_mem hnn (q := q) (by simp)
    have hqt := textL_mem (l := r ++ [q]) (q := q) (by simp)
    have hrl : r.length ≤ 100000000 := by simp at h3; omega
    by_cases e : q.k = p.k
    · rw [pushP_same hs e]
      exact push_same w v r q p hb O hs e hrl (hnn q (by simp)) h0 (by omega) (by omega)
    · by_cases e2 : p.k = 2
      · obtain ⟨pk, pn, pt⟩ := p
        simp only at e2
        subst e2
        by_cases e3 : q.k = 3
        · obtain ⟨qk, qn, qt⟩ := q
          simp only at e3
          subst e3
          rcases snoc_cases r with rfl | ⟨r, q2, rfl⟩
          · simp only [List.nil_append] at O ⊢
            rw [pushP_swap1 hs rfl rfl]
            exact push_swap1 w v qn pn qt pt hb O hs
          · have hrl' : r.length ≤ 100000000 := by simp at hrl; omega
            by_cases e4 : q2.k = 2
            · have hq2 := textL_mem (l := r ++ [q2] ++ [⟨3, qn, qt⟩]) (q := q2) (by simp)
              obtain ⟨ak, an, at'⟩ := q2
              simp only at e4
              subst e4
              have hh := push_swap2 w v r an at' qn pn qt pt hb O hrl' hs (by simp only at hA hq2; omega)
              rw [show r ++ [(⟨2, an, at'⟩ : Pt)] ++ [⟨3, qn, qt⟩] = r ++ [⟨2, an, at'⟩, ⟨3, qn, qt⟩] by simp, pushP_swap2 (q2 := ⟨2, an, at'⟩) (q := ⟨3, qn, qt⟩) hs rfl rfl rfl]
              rw [show r ++ [(⟨2, an, at' ++ pt⟩ : Pt)] ++ [⟨3, qn, qt⟩] = r ++ [⟨2, an, at' ++ pt⟩, ⟨3, qn, qt⟩] by simp] at hh
              exact hh
            · have hh := push_swap3 w v r q2 qn pn qt pt hb O (by simp [e4]) hrl' hs
              rw [show r ++ [q2] ++ [(⟨3, qn, qt⟩ : Pt)] = r ++ [q2, ⟨3, qn, qt⟩] by simp, pushP_swap3 (q := ⟨3, qn, qt⟩) hs rfl rfl e4]
              rw [show r ++ [q2] ++ [(⟨2, pn, pt⟩ : Pt)] ++ [⟨3, qn, qt⟩] = r ++ [q2] ++ [⟨2, pn, pt⟩, ⟨3, qn, qt⟩] by simp] at hh
              exact hh
        · rw [pushP_snoc hs e (Or.inr e3)]
          exact push_snocB w v r q pn pt hb O hs e (by simp [e3]) hrl
      · rw [pushP_snoc hs e (Or.inl e2)]
        exact push_snocA w v r q p hb O hs e (by simp [e2]) hrl
end Go.Proofs.YtdbepogafbagpaaDoor
