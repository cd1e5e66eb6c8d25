import Derived.Test.YtdbepogafbagpaaDoorLay
namespace Go.Proofs.YtdbepogafbagpaaDoor
open Go.RowKit
set_option linter.unusedVariables false

def sumL : List Pt → Int
  | [] => 0
  | p :: r => p.n + sumL r
theorem sumL_append (a b : List Pt) : sumL (a ++ b) = sumL a + sumL b := by
  induction a with
  | nil => simp [sumL]
  | cons p r ih => simp only [List.cons_append, sumL, ih]; omega
theorem sumL_nn {l : List Pt} (h : ∀ q ∈ l, 0 ≤ q.n) : 0 ≤ sumL l := by
  induction l with
  | nil => simp [sumL]
  | cons p r ih =>
    have h1 := h p (by simp)
    have h2 := ih (fun q hq => h q (by simp [hq]))
    simp only [sumL]; omega

/-- what is asked of a writer's state: its numbers, and how much it holds -/
structure WOk (s : WS) (S : Int) (L A : Nat) : Prop where
  nn : ∀ q ∈ s.out, 0 ≤ q.n
  drop : 0 ≤ s.drop
  sum : sumL s.out + s.drop ≤ S
  len : s.out.length ≤ L
  add : s.add.size ≤ A
  clean : clean s.out
theorem WOk.settle {s : WS} {S : Int} {L A : Nat} (h : WOk s S L A) : (∀ q ∈ settleP s, 0 ≤ q.n) ∧ sumL (settleP s) ≤ S ∧ (settleP s).length ≤ L + 2 := by
  have h1 := h.nn
  have h2 := h.drop
  have h3 := h.sum
  have h4 := h.len
  rw [settle_parts]
  refine ⟨?_, ?_, ?_⟩
  · intro q hq
    simp only [List.mem_append] at hq
    rcases hq with (hq | hq) | hq
    · exact h1 q hq
    · unfold addPart at hq; split at hq
      · cases hq
      · simp at hq; subst hq; exact Int.le_refl _
    · unfold dropPart at hq; split at hq
      · cases hq
      · simp at hq; subst hq; exact h2
  · rw [sumL_append, sumL_append]
    have e1 : sumL (addPart s.add) = 0 := by unfold addPart; split <;> simp [sumL]
    have e2 : sumL (dropPart s.drop) = s.drop := by
      unfold dropPart; split
      · rename_i h; simp [sumL, h]
      · simp [sumL]
    omega
  · rw [List.length_append, List.length_append]
    have e1 : (addPart s.add).length ≤ 1 := by unfold addPart; split <;> simp
    have e2 : (dropPart s.drop).length ≤ 1 := by unfold dropPart; split <;> simp
    omega
theorem keepL_facts {l : List Pt} {n : Int} (h : ∀ q ∈ l, 0 ≤ q.n) (hn : 0 ≤ n) : (∀ q ∈ keepL l n, 0 ≤ q.n) ∧ sumL (keepL l n) = sumL l + n ∧ (keepL l n).length ≤ l.length + 1 := by
  rcases snoc_cases l with rfl | ⟨r, q, rfl⟩
  · rw [keepL_nil]; simp [sumL, hn]
  · have hq := h q (by simp)
    by_cases e : q.k = 1
    · rw [keepL_same e]
      refine ⟨?_, ?_, by simp⟩
      · intro x hx
        simp only [List.mem_append, List.mem_singleton] at hx
        rcases hx with hx | hx
        · exact h x (by simp [hx])
        · subst hx; simp; omega
      · rw [sumL_append, sumL_append]; simp [sumL]; omega
    · rw [keepL_snoc e]
      refine ⟨?_, ?_, by simp⟩
      · intro x hx
        rw [List.mem_append] at hx
        rcases hx with hx | hx
        · exact h x hx
        · simp at hx; subst hx; exact hn
      · rw [sumL_append]; simp [sumL]
theorem WOk.lay {s : WS} {S : Int} {L A : Nat} {q : Pt} (h : WOk s S L A) (hok : okPt q = true) : WOk (layP s q) (S + q.n) (L + 3) (A + q.t.size) := by
  obtain ⟨s1, s2, s3⟩ := h.settle
  have h1 := h.nn
  have h2 := h.drop
  have h3 := h.sum
  have h4 := h.len
  have h5 := h.add
  rcases ok_cases hok with ⟨h13, hn, hts⟩ | ⟨hk, hn, hts⟩
  · rcases h13 with hk | hk
    · have e : layP s q = keepP s q.n := by unfold layP; rw [if_pos hk]
      rw [e]
      obtain ⟨k1, k2, k3⟩ := keepL_facts (n := q.n) s1 (by omega)
      exact ⟨k1, Int.le_refl _, by show sumL (keepL (settleP s) q.n) + 0 ≤ _; omega, by show (keepL (settleP s) q.n).length ≤ _; omega, by show 0 ≤ _; omega, clean_keep _ (settle_keep s h.clean) _⟩
    · have e : layP s q = ⟨s.out, s.add, s.drop + q.n⟩ := by unfold layP; rw [if_neg (by omega), if_neg (by omega)]
      rw [e]
      exact ⟨h1, by show 0 ≤ s.drop + q.n; omega, by show sumL s.out + (s.drop + q.n) ≤ _; omega, by show s.out.length ≤ _; omega, by show s.add.size ≤ _; omega, h.clean⟩
  · have e : layP s q = ⟨s.out, s.add ++ q.t, s.drop⟩ := by unfold layP; rw [if_neg (by omega), if_pos hk]
    rw [e]
    exact ⟨h1, h2, by show sumL s.out + s.drop ≤ _; omega, by show s.out.length ≤ _; omega, by show (s.add ++ q.t).size ≤ _; rw [ByteArray.size_append]; omega, h.clean⟩
theorem WOk.last {s : WS} {S : Int} {L A : Nat} (h : WOk s S L A) {r : List Pt} {x : Pt} (e : settleP s = r ++ [x]) : 0 ≤ x.n ∧ x.n ≤ S := by
  obtain ⟨s1, s2, s3⟩ := h.settle
  rw [e] at s1 s2
  rw [sumL_append] at s2
  have h1 := s1 x (by simp)
  have h2 := sumL_nn (l := r) (fun q hq => s1 q (by simp [hq]))
  simp [sumL] at s2
  omega

/-- lay at a state that is known to be in bounds -/
theorem lay_ok (base wb : Nat) (w : World) (s : WS) (outv p bufv : Value) (q : Pt) (S : Int) (L A : Nat) (W : Wt base wb w s outv p bufv) (h : WOk s S L A) (hok : okPt q = true) (hS : S + q.n ≤ 9223372036854775807) (hL : L ≤ 100000000) (hA : A + q.t.size ≤ 100000000) :
    Calls Tryd.prog 56 #[.pointer (some ⟨wb, 0, none⟩), .agg #[.int .i64 q.k, .int .i64 q.n, .string q.t]] w fun e w' => e = .returned (.tuple #[]) ∧ ∃ outv' p' bufv', Wt base wb w' (layP s q) outv' p' bufv' ∧ Fr base [107, 61, 5] w w' :=
  lay_any base wb w s outv p bufv q W hok h.drop (by have := h.len; omega) (by have := h.add; omega) (fun _ => by have := h.sum; have := sumL_nn h.nn; omega) (fun _ r x e _ => by have := h.last e; omega)

def layTo (ps : List Pt) : Nat → WS
  | 0 => ⟨[], ⟨#[]⟩, 0⟩
  | k + 1 => layP (layTo ps k) (nth ps k)
theorem layTo_ok {ps : List Pt} (hg : Good ps = true) : ∀ k, k ≤ ps.length → ∀ r, fromTo ps k = some r → WOk (layTo ps k) r (3 * k) (textTo ps k)
  | 0, _, r, h => by
    simp [fromTo] at h; subst h
    exact ⟨fun q hq => (by cases hq), Int.le_refl _, (by simp [layTo, sumL]), (by simp [layTo]), (by show 0 ≤ _; omega), trivial⟩
  | k + 1, hk, r, h => by
    obtain ⟨s, hs, e, _⟩ := fromTo_part h
    have := (layTo_ok hg k (by omega) s hs).lay (good_nth hg k (by omega))
    rw [e]
    exact this
theorem layTo_fold (ps : List Pt) : ∀ k, k ≤ ps.length → layTo ps k = (ps.take k).foldl layP ⟨[], ⟨#[]⟩, 0⟩
  | 0, _ => rfl
  | k + 1, hk => by rw [take_nth ps k (by omega), List.foldl_append, ← layTo_fold ps k (by omega)]; rfl
/-- a change in short -/
def shortL (ps : List Pt) : List Pt := ps.foldl pushP []
theorem ok_okP {p : Pt} (h : okPt p = true) : okP p := by
  rcases ok_cases h with ⟨a, b, c⟩ | h
  · exact Or.inl ⟨a, b, empty_of c⟩
  · exact Or.inr h
theorem layTo_short {ps : List Pt} (hg : Good ps = true) : settleP (layTo ps ps.length) = shortL ps := by
  rw [layTo_fold ps ps.length (Nat.le_refl _), List.take_length]
  have := (lay_all ps ⟨[], ⟨#[]⟩, 0⟩ trivial (Int.le_refl _) (fun p hp => ok_okP (by unfold Good at hg; exact List.all_eq_true.1 hg p hp))).1
  rw [this]
  rfl
end Go.Proofs.YtdbepogafbagpaaDoor
