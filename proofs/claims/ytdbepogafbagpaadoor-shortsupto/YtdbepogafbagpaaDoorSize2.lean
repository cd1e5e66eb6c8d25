import Derived.Test.YtdbepogafbagpaaDoorSize
namespace Go.Proofs.YtdbepogafbagpaaDoor
open Go.RowKit
set_option linter.unusedVariables false

/-- w' is w, new blocks laid, and the blocks of S alone written. -/
structure Wr (S : Nat → Prop) (w w' : World) : Prop where
  os : w'.os = w.os
  tape : w'.tape = w.tape
  output : w'.output = w.output
  size : w.heap.size ≤ w'.heap.size
  block : ∀ k, k < w.heap.size → ¬ S k → w'.heap[k]? = w.heap[k]?
theorem Wr.refl (S : Nat → Prop) (w : World) : Wr S w w := ⟨rfl, rfl, rfl, Nat.le_refl _, fun _ _ _ => rfl⟩
theorem Wr.trans {S : Nat → Prop} {a b c : World} (h : Wr S a b) (k : Wr S b c) : Wr S a c :=
  ⟨k.os.trans h.os, k.tape.trans h.tape, k.output.trans h.output, Nat.le_trans h.size k.size, fun i hi hn => (k.block i (Nat.lt_of_lt_of_le hi h.size) hn).trans (h.block i hi hn)⟩
theorem Wr.mono {S T : Nat → Prop} {a b : World} (h : Wr S a b) (hST : ∀ k, k < a.heap.size → S k → T k) : Wr T a b := ⟨h.os, h.tape, h.output, h.size, fun i hi hn => h.block i hi (fun hs => hn (hST i hi hs))⟩
theorem Wr.of_below {S : Nat → Prop} {w w' : World} {B : Nat} (h : Below B w w') (hS : ∀ k, B ≤ k → k < w.heap.size → S k) : Wr S w w' :=
  ⟨h.os, h.tape, h.output, h.size, fun k hk hn => h.block k (Nat.lt_of_not_le (fun hle => hn (hS k hle hk)))⟩
theorem Wr.here {S : Nat → Prop} {w w' : World} (h : Below w.heap.size w w') : Wr S w w' := Wr.of_below h (fun k h1 h2 => by omega)
theorem Wr.only {S : Nat → Prop} {row : Nat} {w w' : World} (h : Only row w w') (hS : S row) : Wr S w w' :=
  ⟨h.os, h.tape, h.output, h.size, fun k hk hn => h.block k hk (by simp; rintro rfl; exact hn hS)⟩
theorem Wr.set {S : Nat → Prop} {w w1 : World} (h : Wr S w w1) {b : Nat} (hb : S b ∨ w.heap.size ≤ b) (i : Nat) (u : Value) : Wr S w (w1.setCell ⟨b, i, none⟩ u) :=
  ⟨h.os, h.tape, h.output, by have := h.size; simpa [World.setCell] using this, fun k hk hn => (Below.heap_setCell _ _ _ _ (fun (e : k = b) => by subst e; exact hb.elim hn (fun hb => by omega))).trans (h.block k hk hn)⟩
theorem Wr.below {S : Nat → Prop} {w w' : World} (h : Wr S w w') {B : Nat} (hB : ∀ k, k < B → ¬ S k) (hw : B ≤ w.heap.size) : Below B w w' := ⟨h.os, h.tape, h.output, h.size, fun k hk => h.block k (by omega) (hB k hk)⟩
theorem Blk.wr {S : Nat → Prop} {w w' : World} {b : Nat} {cs : Array Value} {t : TypeId} (h : Blk w b cs t) (hw : Wr S w w') (hn : ¬ S b) : Blk w' b cs t := (hw.block b h.lt hn).trans h
theorem At.wr {S : Nat → Prop} {w w' : World} {b off : Nat} {ps : List Pt} (h : At w b off ps) (o : Wr S w w') (hb : 0 < ps.length → b < w.heap.size) (hn : ¬ S b) : At w' b off ps := by
  intro i hi
  have hb := hb (by omega)
  obtain ⟨h0, h1, h2⟩ := h i hi
  have key : ∀ j, w'.cell? ⟨b, j, none⟩ = w.cell? ⟨b, j, none⟩ := fun j => World.cell?_of_block (o.block b hb hn)
  exact ⟨(key _).trans h0, (key _).trans h1, (key _).trans h2⟩
theorem SzErr.wr {S : Nat → Prop} {w w' : World} {ev : Value} {f : Addr} (h : SzErr w ev f) (hw : Wr S w w') (hn : ∀ b cs, Blk w b cs 78 → ¬ S b) : SzErr w' ev f := by
  obtain ⟨g, s, rfl, hg⟩ := h
  exact ⟨g, s, rfl, hg.wr hw (hn _ _ hg)⟩

/-- what 'grow' makes of a sum -/
def grown (s n most : Int) : Int := if most - s < n then s else s + n

theorem grow_any {N : Nat} {f c : Addr} (sb eb : Nat) (ev : Value) (s n most : Int) (w : World) (E : Env N f c w) (hN : N ≤ eb) (hs : Blk w sb #[.int .i64 s] 3) (he : Blk w eb #[ev] 55) (h0 : 0 ≤ s) (h1 : s ≤ most) (h2 : most ≤ 9223372036854775807) (hn0 : 0 ≤ n) :
    Calls Tryd.prog 51 #[.pointer (some ⟨sb, 0, none⟩), .int .i64 n, .int .i64 most, .pointer (some ⟨eb, 0, none⟩)] w fun e w' => e = .returned (.tuple #[]) ∧ ∃ ev', Blk w' sb #[.int .i64 (grown s n most)] 3 ∧ Blk w' eb #[ev'] 55 ∧
      Wr (fun k => k = sb ∨ k = eb) w w' ∧ ((most - s < n ∧ SzErr w' ev' f) ∨ (n ≤ most - s ∧ ev' = ev ∧ (SzErr w ev f → SzErr w' ev f))) := by
  by_cases hn : most - s < n
  · refine (grow_err sb eb ev s n most w E hN hs he h0 h1 h2 hn).mono ?_
    rintro e w' ⟨rfl, ev', hb, hse, ho⟩
    refine ⟨rfl, ev', ?_, hb, Wr.only ho (Or.inr rfl), Or.inl ⟨hn, hse⟩⟩
    rw [show grown s n most = s by unfold grown; rw [if_pos hn]]
    exact hs.only ho (hs.ne he (by decide))
  · refine (grow_ok sb eb s n most w hs h0 h1 h2 hn0 (by omega)).mono ?_
    rintro e w' ⟨rfl, rfl⟩
    refine ⟨rfl, ev, ?_, he.setOther _ _ (he.ne hs (by decide)), (Wr.refl _ w).set (Or.inl (Or.inl rfl)) 0 _, Or.inr ⟨by omega, rfl, fun h => h.set hs (by decide) 0 _⟩⟩
    rw [show grown s n most = s + n by unfold grown; rw [if_neg hn]]
    exact hs.set 0 _

theorem grown_bd {s n most : Int} (h0 : 0 ≤ s) (h1 : s ≤ most) (hn : 0 ≤ n) : 0 ≤ grown s n most ∧ grown s n most ≤ most := by unfold grown; split <;> omega

/-- the variables of 'size', as they lie in memory -/
structure SzB (N : Nat) (ob mb eb gb : Nat) (w : World) (ov mk : Int) (ev : Value) : Prop where
  o : Blk w ob #[.int .i64 ov] 3
  m : Blk w mb #[.int .i64 mk] 3
  e : Blk w eb #[ev] 55
  g : Blk w gb #[.func (.func 51) #[] #[.pointer (some ⟨eb, 0, none⟩)]] 101
  om : ob ≠ mb
  eN : N ≤ eb
  ov0 : 0 ≤ ov
  ov1 : ov ≤ 4611686018427387904
  mk0 : 0 ≤ mk
  mk1 : mk ≤ 9223372036854775807
theorem SzB.here {N ob mb eb gb : Nat} {w w' : World} {ov mk : Int} {ev : Value} (S : SzB N ob mb eb gb w ov mk ev) (h : Below w.heap.size w w') : SzB N ob mb eb gb w' ov mk ev :=
  ⟨S.o.here h, S.m.here h, S.e.here h, S.g.here h, S.om, S.eN, S.ov0, S.ov1, S.mk0, S.mk1⟩
theorem SzB.cg {N ob mb eb gb : Nat} {w : World} {ov mk : Int} {ev : Value} (S : SzB N ob mb eb gb w ov mk ev) : w.cell? ⟨gb, 0, none⟩ = some (.func (.func 51) #[] #[.pointer (some ⟨eb, 0, none⟩)]) := S.g.cell 0 rfl

theorem grow_over {N : Nat} {f c : Addr} {ob mb eb gb : Nat} {w : World} {ov mk : Int} {ev : Value} (E : Env N f c w) (S : SzB N ob mb eb gb w ov mk ev) (n : Int) (hn0 : 0 ≤ n) :
    Calls Tryd.prog 51 #[.pointer (some ⟨ob, 0, none⟩), .int .i64 n, .int .i64 4611686018427387904, .pointer (some ⟨eb, 0, none⟩)] w fun e w' => e = .returned (.tuple #[]) ∧ ∃ ev', SzB N ob mb eb gb w' (grown ov n 4611686018427387904) mk ev' ∧
      Wr (fun x => x = ob ∨ x = mb ∨ x = eb) w w' ∧ ((4611686018427387904 - ov < n ∧ SzErr w' ev' f) ∨ (n ≤ 4611686018427387904 - ov ∧ ev' = ev ∧ (SzErr w ev f → SzErr w' ev f))) := by
  refine (grow_any ob eb ev ov n 4611686018427387904 w E S.eN S.o S.e S.ov0 S.ov1 (by omega) hn0).mono ?_
  rintro e w' ⟨rfl, ev', ho, he, hw, hr⟩
  have hb := grown_bd S.ov0 S.ov1 hn0
  refine ⟨rfl, ev', ⟨ho, S.m.wr hw ?_, he, S.g.wr hw ?_, S.om, S.eN, hb.1, hb.2, S.mk0, S.mk1⟩, hw.mono (fun k _ h => h.elim Or.inl (fun h => Or.inr (Or.inr h))), hr⟩
  · rintro (h | h)
    · exact S.om h.symm
    · exact S.m.ne S.e (by decide) h
  · rintro (h | h)
    · exact S.g.ne S.o (by decide) h
    · exact S.g.ne S.e (by decide) h

theorem grow_makes {N : Nat} {f c : Addr} {ob mb eb gb : Nat} {w : World} {ov mk : Int} {ev : Value} (E : Env N f c w) (S : SzB N ob mb eb gb w ov mk ev) (n : Int) (hn0 : 0 ≤ n) :
    Calls Tryd.prog 51 #[.pointer (some ⟨mb, 0, none⟩), .int .i64 n, .int .i64 9223372036854775807, .pointer (some ⟨eb, 0, none⟩)] w fun e w' => e = .returned (.tuple #[]) ∧ ∃ ev', SzB N ob mb eb gb w' ov (grown mk n 9223372036854775807) ev' ∧
      Wr (fun x => x = ob ∨ x = mb ∨ x = eb) w w' ∧ ((9223372036854775807 - mk < n ∧ SzErr w' ev' f) ∨ (n ≤ 9223372036854775807 - mk ∧ ev' = ev ∧ (SzErr w ev f → SzErr w' ev f))) := by
  refine (grow_any mb eb ev mk n 9223372036854775807 w E S.eN S.m S.e S.mk0 S.mk1 (by omega) hn0).mono ?_
  rintro e w' ⟨rfl, ev', hm, he, hw, hr⟩
  have hb := grown_bd S.mk0 S.mk1 hn0
  refine ⟨rfl, ev', ⟨S.o.wr hw ?_, hm, he, S.g.wr hw ?_, S.om, S.eN, S.ov0, S.ov1, hb.1, hb.2⟩, hw.mono (fun k _ h => h.elim (fun h => Or.inr (Or.inl h)) (fun h => Or.inr (Or.inr h))), hr⟩
  · rintro (h | h)
    · exact S.om h
    · exact S.o.ne S.e (by decide) h
  · rintro (h | h)
    · exact S.g.ne S.m (by decide) h
    · exact S.g.ne S.e (by decide) h

/-- what the variables of 'size' hold behind k parts -/
def SzSt (f : Addr) (ps : List Pt) (k : Nat) (w : World) (ov mk : Int) (ev : Value) : Prop :=
  (ev = .nilIface ∧ fromTo ps k = some ov ∧ mk = madeTo ps k) ∨ (SzErr w ev f ∧ fromTo ps k = none)
theorem fromTo_none_next {ps : List Pt} {k : Nat} (h : fromTo ps k = none) : fromTo ps (k + 1) = none := fromTo_stays h (by omega)

/-- a Drop -/
theorem st_drop {f : Addr} {ps : List Pt} {k : Nat} {w w1 w2 : World} {ov mk : Int} {ev ev' : Value} (h : SzSt f ps k w ov mk ev) (hw : Below w.heap.size w w1) (h3 : (nth ps k).k = 3)
    (hr : (4611686018427387904 - ov < (nth ps k).n ∧ SzErr w2 ev' f) ∨ ((nth ps k).n ≤ 4611686018427387904 - ov ∧ ev' = ev ∧ (SzErr w1 ev f → SzErr w2 ev f))) :
    SzSt f ps (k + 1) w2 (grown ov (nth ps k).n 4611686018427387904) mk ev' := by
  rcases h with ⟨rfl, hf, hm⟩ | ⟨he, hf⟩
  · rcases hr with ⟨hn, he⟩ | ⟨hn, rfl, _⟩
    · exact Or.inr ⟨he, fromTo_none hf hn⟩
    · refine Or.inl ⟨rfl, ?_, ?_⟩
      · rw [fromTo_some hf hn]; unfold grown; rw [if_neg (by omega)]
      · simp only [madeTo]; rw [if_pos h3, hm]; omega
  · rcases hr with ⟨hn, he'⟩ | ⟨hn, rfl, hk⟩
    · exact Or.inr ⟨he', fromTo_none_next hf⟩
    · exact Or.inr ⟨hk (he.here hw), fromTo_none_next hf⟩
/-- an Add -/
theorem st_add {f : Addr} {ps : List Pt} {k : Nat} {w w1 w2 : World} {ov mk : Int} {ev ev' : Value} (h : SzSt f ps k w ov mk ev) (hw : Below w.heap.size w w1) (h2 : (nth ps k).k = 2) (hn0 : (nth ps k).n = 0) (hov : ov ≤ 4611686018427387904)
    (hbd : ∀ s, fromTo ps k = some s → madeTo ps k + (nth ps k).t.size ≤ 9223372036854775807)
    (hr : (9223372036854775807 - mk < ((nth ps k).t.size : Int) ∧ SzErr w2 ev' f) ∨ (((nth ps k).t.size : Int) ≤ 9223372036854775807 - mk ∧ ev' = ev ∧ (SzErr w1 ev f → SzErr w2 ev f))) :
    SzSt f ps (k + 1) w2 ov (grown mk (nth ps k).t.size 9223372036854775807) ev' := by
  rcases h with ⟨rfl, hf, hm⟩ | ⟨he, hf⟩
  · have hb := hbd _ hf
    rcases hr with ⟨hn, he⟩ | ⟨hn, rfl, _⟩
    · omega
    · refine Or.inl ⟨rfl, ?_, ?_⟩
      · rw [fromTo_some hf (by omega), hn0]; simp
      · simp only [madeTo]; rw [if_neg (by omega), hm, hn0]; unfold grown; rw [if_neg (by omega)]; omega
  · rcases hr with ⟨hn, he'⟩ | ⟨hn, rfl, hk⟩
    · exact Or.inr ⟨he', fromTo_none_next hf⟩
    · exact Or.inr ⟨hk (he.here hw), fromTo_none_next hf⟩
/-- a Keep: what is made, then what is gone over -/
theorem st_keep {f : Addr} {ps : List Pt} {k : Nat} {w w1 w2 w3 : World} {ov mk : Int} {ev ev' ev'' : Value} (h : SzSt f ps k w ov mk ev) (hw : Below w.heap.size w w1) (h1 : (nth ps k).k = 1) (ht : (nth ps k).t.size = 0)
    (hbd : ∀ s, fromTo ps k = some s → madeTo ps k ≤ s + 1048576)
    (hr : (9223372036854775807 - mk < (nth ps k).n ∧ SzErr w2 ev' f) ∨ ((nth ps k).n ≤ 9223372036854775807 - mk ∧ ev' = ev ∧ (SzErr w1 ev f → SzErr w2 ev f)))
    (hr2 : (4611686018427387904 - ov < (nth ps k).n ∧ SzErr w3 ev'' f) ∨ ((nth ps k).n ≤ 4611686018427387904 - ov ∧ ev'' = ev' ∧ (SzErr w2 ev' f → SzErr w3 ev' f))) :
    SzSt f ps (k + 1) w3 (grown ov (nth ps k).n 4611686018427387904) (grown mk (nth ps k).n 9223372036854775807) ev'' := by
  rcases h with ⟨rfl, hf, hm⟩ | ⟨he, hf⟩
  · have hb := hbd _ hf
    rcases hr2 with ⟨hn2, he2⟩ | ⟨hn2, rfl, hk2⟩
    · exact Or.inr ⟨he2, fromTo_none hf hn2⟩
    · rcases hr with ⟨hn, he⟩ | ⟨hn, rfl, hk⟩
      · omega
      · refine Or.inl ⟨rfl, ?_, ?_⟩
        · rw [fromTo_some hf hn2]; unfold grown; rw [if_neg (by omega)]
        · simp only [madeTo]; rw [if_neg (by omega), hm, ht]; unfold grown; rw [if_neg (by omega)]; omega
  · refine Or.inr ⟨?_, fromTo_none_next hf⟩
    have h2 : SzErr w2 ev' f := by
      rcases hr with ⟨_, h⟩ | ⟨_, rfl, hk⟩
      · exact h
      · exact hk (he.here hw)
    rcases hr2 with ⟨_, h⟩ | ⟨_, rfl, hk⟩
    · exact h
    · exact hk h2

theorem Env.wr {N : Nat} {f c : Addr} {w w' : World} (E : Env N f c w) {S : Nat → Prop} (h : Wr S w w') (hS : ∀ k, k < N → ¬ S k) : Env N f c w' := E.below (h.below hS E.le) (Nat.le_refl _)

set_option maxRecDepth 100000 in
set_option maxHeartbeats 2000000 in
theorem size2_any {N : Nat} {f c : Addr} (ob mb eb gb : Nat) (ps : List Pt) (k : Nat) (w : World) (ov mk : Int) (ev : Value) (E : Env N f c w) (S : SzB N ob mb eb gb w ov mk ev) (T : SzSt f ps k w ov mk ev) (hoN : N ≤ ob) (hmN : N ≤ mb) (hok : okPt (nth ps k) = true) (hn1 : (nth ps k).n ≤ 9223372036854775807)
    (hbd : ∀ s, fromTo ps k = some s → madeTo ps k ≤ s + 1048576 ∧ madeTo ps k + (nth ps k).t.size ≤ 9223372036854775807) :
    Calls Tryd.prog 52 #[.agg #[.int .i64 (nth ps k).k, .int .i64 (nth ps k).n, .string (nth ps k).t], .pointer (some ⟨gb, 0, none⟩), .pointer (some ⟨mb, 0, none⟩), .pointer (some ⟨ob, 0, none⟩)] w fun e w' => e = .returned (.tuple #[]) ∧ ∃ ov' mk' ev', SzB N ob mb eb gb w' ov' mk' ev' ∧ SzSt f ps (k + 1) w' ov' mk' ev' ∧ Wr (fun x => x = ob ∨ x = mb ∨ x = eb) w w' := by
  obtain ⟨p, hp⟩ : ∃ p, p = nth ps k := ⟨_, rfl⟩
  rw [← hp] at hok hn1 ⊢
  have HP : Hid (p = nth ps k) := hp
  have HB : Hid (∀ s, fromTo ps k = some s → madeTo ps k ≤ s + 1048576 ∧ madeTo ps k + (nth ps k).t.size ≤ 9223372036854775807) := hbd
  have cg := S.cg
  have hgl := S.g.lt
  have hg := ok_n hok
  have HS : Hid (SzB N ob mb eb gb w ov mk ev) := S
  have HT : Hid (SzSt f ps k w ov mk ev) := T
  have HE : Hid (Env N f c w) := E
  have hw0 : Hid (Below w.heap.size w (w.alloc (.cells #[.int .i64 p.k, .int .i64 p.n, .string p.t] 61))) := (Below.refl _ _).alloc (Nat.le_refl _) _
  have hSN : Hid (∀ x, x < N → ¬ (x = ob ∨ x = mb ∨ x = eb)) := fun x hx => by have := S.eN; omega
  have hc := ok_cases hok
  have c61 : Hid (Blk (w.alloc (.cells #[.int .i64 p.k, .int .i64 p.n, .string p.t] 61)) w.heap.size #[.int .i64 p.k, .int .i64 p.n, .string p.t] 61) := Blk.new w _ 61
  clear E S T hp hbd hok
  rcases hc with ⟨h13, hn, hts⟩ | ⟨h2, hn, hts⟩
  · rcases h13 with h1 | h3
    · have HK : Hid (p.k = 1) := h1
      have HTS : Hid (p.t.size = 0) := hts
      clear hts
      have k1 : (p.k == 1) = true := by simp [h1]
      clear h1
      have hnS : Hid (¬ (w.heap.size = ob ∨ w.heap.size = mb ∨ w.heap.size = eb)) := fun h => by have h1 := HS.out.o.lt; have h2 := HS.out.m.lt; have h3 := HS.out.e.lt; omega
      go_enter Tryd.func52, Tryd.ntmps52
      go_wp2_with fail
      refine (grow_makes (HE.out.here hw0.out) (HS.out.here hw0.out) p.n hg).mono ?_
      rintro e w1 ⟨rfl, ev1, S1, W1, R1⟩
      have HS1 : Hid (SzB N ob mb eb gb w1 ov (grown mk p.n 9223372036854775807) ev1) := S1
      have q : Hid (Blk w1 w.heap.size #[.int .i64 p.k, .int .i64 p.n, .string p.t] 61) := c61.out.wr W1 hnS.out
      have q1 : w1.cell? ⟨w.heap.size, 1, none⟩ = some (.int .i64 p.n) := q.out.cell 1 rfl
      have HE1 : Hid (Env N f c w1) := (HE.out.here hw0.out).wr W1 hSN.out
      have cg1 := S1.cg
      clear cg
      go_wp2_with fail
      refine (grow_over HE1.out HS1.out p.n hg).mono ?_
      rintro e w2 ⟨rfl, ev2, S2, W2, R2⟩
      have fin : Hid (SzSt f ps (k + 1) w2 (grown ov p.n 4611686018427387904) (grown mk p.n 9223372036854775807) ev2) := by
        have hw0' := hw0.out
        rw [HP.out] at R1 R2 hw0' ⊢
        exact st_keep HT.out hw0' (by rw [← HP.out]; exact HK.out) (by rw [← HP.out]; exact HTS.out) (fun s hs => (HB.out s hs).1) R1 R2
      have finW : Hid (Wr (fun x => x = ob ∨ x = mb ∨ x = eb) w w2) := ((Wr.here hw0.out).trans W1).trans W2
      clear R1 R2 W1 S1
      go_wp2
      go_end0
      exact ⟨rfl, _, _, _, S2, fin.out, finW.out⟩
    · have HK : Hid (p.k = 3) := h3
      have k1 : (p.k == 1) = false := by simp [h3]
      have k3 : (p.k == 3) = true := by simp [h3]
      clear h3 hts
      go_enter Tryd.func52, Tryd.ntmps52
      go_wp2_with fail
      refine (grow_over (HE.out.here hw0.out) (HS.out.here hw0.out) p.n hg).mono ?_
      rintro e w2 ⟨rfl, ev2, S2, W2, R2⟩
      have fin : Hid (SzSt f ps (k + 1) w2 (grown ov p.n 4611686018427387904) mk ev2) := by
        have hw0' := hw0.out
        rw [HP.out] at R2 hw0' ⊢
        exact st_drop HT.out hw0' (by rw [← HP.out]; exact HK.out) R2
      have finW : Hid (Wr (fun x => x = ob ∨ x = mb ∨ x = eb) w w2) := (Wr.here hw0.out).trans W2
      clear R2
      go_wp2
      go_end0
      exact ⟨rfl, _, _, _, S2, fin.out, finW.out⟩
  · have HK : Hid (p.k = 2) := h2
    have k1 : (p.k == 1) = false := by simp [h2]
    have k3 : (p.k == 3) = false := by simp [h2]
    have k2 : (p.k == 2) = true := by simp [h2]
    have HN : Hid (p.n = 0) := hn
    have hov := HS.out.ov1
    clear h2 hn hts
    go_enter Tryd.func52, Tryd.ntmps52
    go_wp2_with fail
    refine (grow_makes (HE.out.here hw0.out) (HS.out.here hw0.out) p.t.size (by omega)).mono ?_
    rintro e w2 ⟨rfl, ev2, S2, W2, R2⟩
    have fin : Hid (SzSt f ps (k + 1) w2 ov (grown mk p.t.size 9223372036854775807) ev2) := by
      have hw0' := hw0.out
      rw [HP.out] at R2 hw0' ⊢
      exact st_add HT.out hw0' (by rw [← HP.out]; exact HK.out) (by rw [← HP.out]; exact HN.out) hov (fun s hs => (HB.out s hs).2) R2
    have finW : Hid (Wr (fun x => x = ob ∨ x = mb ∨ x = eb) w w2) := (Wr.here hw0.out).trans W2
    clear R2
    go_wp2
    go_end0
    exact ⟨rfl, _, _, _, S2, fin.out, finW.out⟩
end Go.Proofs.YtdbepogafbagpaaDoor
