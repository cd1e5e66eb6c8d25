import Derived.Test.YtdlolnahbgecjaaDoorTake2
namespace Go.Proofs.YtdlolnahbgecjaaDoor
open Go.RowKit
set_option linter.unusedVariables false

/-- m bytes of a part, from us on -/
def cut (p : Pt) (us m : Nat) : Pt := if p.k = 2 then ⟨p.k, p.n, p.t.extract us (us + m)⟩ else ⟨p.k, m, p.t⟩

theorem ok_cases {p : Pt} (h : okPt p = true) : ((p.k = 1 ∨ p.k = 3) ∧ 1 ≤ p.n ∧ p.t.size = 0) ∨ (p.k = 2 ∧ p.n = 0 ∧ 0 < p.t.size) := by
  simp [okPt] at h
  have key : p.t.toList = [] ↔ p.t.size = 0 := by
    rw [ByteArray.toList_eq]
    show p.t.data.toList = [] ↔ p.t.data.size = 0
    constructor
    · intro e
      rw [← Array.length_toList, e]; rfl
    · intro e
      rw [← Array.length_toList] at e
      exact List.eq_nil_of_length_eq_zero e
  rcases h with ⟨⟨a, b⟩, c⟩ | ⟨⟨a, b⟩, c⟩
  · exact Or.inl ⟨a, b, key.1 c⟩
  · exact Or.inr ⟨a, b, by have := mt key.2 c; omega⟩

theorem take_any (ps : List Pt) (b off cap rb k us n m : Nat) (w : World) (A : At w b off ps) (hb : b < w.heap.size) (hk : k < ps.length) (hlen : ps.length ≤ 1048576) (R : Rd w rb (.slice (some ⟨b, off, none⟩) ps.length cap) k us)
    (hbr : b ≠ rb) (hok : okPt (nth ps k) = true) (h1 : (us : Int) + m ≤ psz (nth ps k)) (h2 : psz (nth ps k) ≤ 9223372036854775807) (hm : min (n : Int) (psz (nth ps k) - us) = m) :
    Calls Tryd.prog 69 #[.pointer (some ⟨rb, 0, none⟩), .int .i64 n] w fun e w' => e = .returned (.agg #[.int .i64 (cut (nth ps k) us m).k, .int .i64 (cut (nth ps k) us m).n, .string (cut (nth ps k) us m).t]) ∧ Only rb w w' ∧
      RdAfter w' rb (.slice (some ⟨b, off, none⟩) ps.length cap) k us m (psz (nth ps k) - us) := by
  rcases ok_cases hok with ⟨h, h', h''⟩ | ⟨h, h', h''⟩
  · have e : cut (nth ps k) us m = ⟨(nth ps k).k, m, (nth ps k).t⟩ := by unfold cut; rw [if_neg (by omega)]
    rw [e]
    exact take_num ps b off cap rb k us n m w A hb hk hlen R hbr (by simp; omega) h1 h2 (by omega) hm
  · have e : cut (nth ps k) us m = ⟨(nth ps k).k, (nth ps k).n, (nth ps k).t.extract us (us + m)⟩ := by unfold cut; rw [if_pos h]
    rw [e]
    exact take_add ps b off cap rb k us n m w A hb hk hlen R hbr (by simp [h]) h' h1 h2 (by omega) hm

set_option maxRecDepth 100000 in
set_option maxHeartbeats 1000000 in
theorem rest_any (ps : List Pt) (b off cap rb k us m : Nat) (w : World) (A : At w b off ps) (hb : b < w.heap.size) (hk : k < ps.length) (hlen : ps.length ≤ 1048576) (R : Rd w rb (.slice (some ⟨b, off, none⟩) ps.length cap) k us)
    (hbr : b ≠ rb) (hok : okPt (nth ps k) = true) (h1 : (us : Int) + m = psz (nth ps k)) (h2 : psz (nth ps k) ≤ 9223372036854775807) :
    Calls Tryd.prog 61 #[.pointer (some ⟨rb, 0, none⟩)] w fun e w' => e = .returned (.agg #[.int .i64 (cut (nth ps k) us m).k, .int .i64 (cut (nth ps k) us m).n, .string (cut (nth ps k) us m).t]) ∧ Only rb w w' ∧
      Rd w' rb (.slice (some ⟨b, off, none⟩) ps.length cap) ((k : Int) + 1) 0 := by
  have hr := R.lt
  have hn3 : 0 ≤ (nth ps k).n := ok_n hok
  have HL : Hid (∀ wx, At wx b off ps → b < wx.heap.size → Rd wx rb (.slice (some ⟨b, off, none⟩) ps.length cap) k us → Calls Tryd.prog 70 #[.pointer (some ⟨rb, 0, none⟩)] wx fun e w' => e = .returned (.int .i64 m) ∧ Below wx.heap.size wx w') := fun wx Ax hbx Rx => by
    have := left_in ps b off cap rb k us wx Ax hbx hk Rx (by omega) (by omega) h2 hn3
    rwa [show psz (nth ps k) - us = m by omega] at this
  have HT : Hid (∀ wx, At wx b off ps → b < wx.heap.size → Rd wx rb (.slice (some ⟨b, off, none⟩) ps.length cap) k us → Calls Tryd.prog 69 #[.pointer (some ⟨rb, 0, none⟩), .int .i64 m] wx fun e w' => e = .returned (.agg #[.int .i64 (cut (nth ps k) us m).k, .int .i64 (cut (nth ps k) us m).n, .string (cut (nth ps k) us m).t]) ∧ Only rb wx w' ∧
      Rd w' rb (.slice (some ⟨b, off, none⟩) ps.length cap) ((k : Int) + 1) 0) := fun wx Ax hbx Rx => by
    refine (take_any ps b off cap rb k us m m wx Ax hbx hk hlen Rx hbr hok (by omega) h2 (by omega)).mono ?_
    rintro e w' ⟨rfl, ho, hr'⟩
    refine ⟨rfl, ho, ?_⟩
    unfold RdAfter at hr'
    rw [if_pos (by omega)] at hr'
    exact hr'
  generalize cut (nth ps k) us m = q at *
  have HA : Hid (At w b off ps) := A
  have HR : Hid (Rd w rb (.slice (some ⟨b, off, none⟩) ps.length cap) k us) := R
  clear A R h1 h2 hok hn3
  have hw0 : Hid (Below w.heap.size w (w.alloc (.cells #[.int .i64 0, .int .i64 0, .string ⟨#[]⟩] 61))) := (Below.refl _ _).alloc (Nat.le_refl _) _
  go_enter Tryd.func61, Tryd.ntmps61
  go_wp2_with (first | (go_at_call 70; refine (HL.out _ (HA.out.below hw0.out (fun _ => hb)) (by simp; omega) (HR.out.below hw0.out hr)).mono ?_; rintro e w1 ⟨rfl, hb1⟩; have hbw1 : Hid (Below w.heap.size w w1) := hw0.out.trans (hb1.mono (by simp)); have hZ1 : Hid (Blk w1 w.heap.size #[.int .i64 0, .int .i64 0, .string ⟨#[]⟩] 61) := (Blk.new w _ 61).here hb1) | (go_at_call 69; refine (HT.out w1 (HA.out.below hbw1.out (fun _ => hb)) (Nat.lt_of_lt_of_le hb hbw1.out.size) (HR.out.below hbw1.out hr)).mono ?_; rintro e w2 ⟨rfl, ho2, hR2⟩; have hZ2 : Hid (Blk w2 w.heap.size #[.int .i64 0, .int .i64 0, .string ⟨#[]⟩] 61) := hZ1.out.only ho2 (by omega); have z0 : w2.cell? ⟨w.heap.size, 0, none⟩ = some (.int .i64 0) := hZ2.out.cell 0 rfl; have z1 : w2.cell? ⟨w.heap.size, 1, none⟩ = some (.int .i64 0) := hZ2.out.cell 1 rfl; have z2 : w2.cell? ⟨w.heap.size, 2, none⟩ = some (.string ⟨#[]⟩) := hZ2.out.cell 2 rfl; have fz := hZ2.out.free; have HR2 : Hid (Rd w2 rb (.slice (some ⟨b, off, none⟩) ps.length cap) ((k : Int) + 1) 0) := hR2; clear hR2))
  have hO : Hid (Only rb w w2) := Only.trans (Only.of_below hbw1.out) ho2
  have y3' : rb ≠ w.heap.size := by omega
  refine bodyPost_ret (v := .agg #[.int .i64 q.k, .int .i64 q.n, .string q.t]) (by simp [results, Tryd.results61, go_sem, z0, z1, z2]) rfl ⟨rfl, ?_, ?_⟩
  · exact ((hO.out.setNew (Nat.le_refl _) 0 _).setNew (Nat.le_refl _) 1 _).setNew (Nat.le_refl _) 2 _
  · exact Blk.setOther (Blk.setOther (Blk.setOther HR2.out _ _ y3') _ _ y3') _ _ y3'
end Go.Proofs.YtdlolnahbgecjaaDoor
namespace Go.Proofs.YtdlolnahbgecjaaDoor
open Go.RowKit
set_option linter.unusedVariables false

/-- the error that 'grow' lays: of one wrap, in a block of its own -/
def SzErr (w : World) (ev : Value) (f : Addr) : Prop := ∃ g s, ev = .iface 76 (.pointer (some ⟨g, 0, none⟩)) ∧ Blk w g #[.string s, .iface 149 (.pointer (some f))] 78
theorem SzErr.errIs {w : World} {ev : Value} {f : Addr} (h : SzErr w ev f) : ErrIs w ev (some f) := by
  obtain ⟨g, s, rfl, hb⟩ := h
  exact ⟨1, g, _, rfl, hb.cell 1 rfl, rfl⟩
theorem SzErr.here {w w' : World} {ev : Value} {f : Addr} (h : SzErr w ev f) (hb : Below w.heap.size w w') : SzErr w' ev f := by
  obtain ⟨g, s, rfl, hg⟩ := h
  exact ⟨g, s, rfl, hg.here hb⟩
theorem SzErr.set {w : World} {ev : Value} {f : Addr} (h : SzErr w ev f) {b : Nat} {cs : Array Value} {t : TypeId} (hb : Blk w b cs t) (ht : 78 ≠ t) (i : Nat) (u : Value) : SzErr (w.setCell ⟨b, i, none⟩ u) ev f := by
  obtain ⟨g, s, rfl, hg⟩ := h
  exact ⟨g, s, rfl, hg.setOther _ _ (hg.ne hb ht)⟩

set_option maxRecDepth 100000 in
set_option maxHeartbeats 1000000 in
theorem grow_ok (sb eb : Nat) (s n most : Int) (w : World) (hs : Blk w sb #[.int .i64 s] 3) (h0 : 0 ≤ s) (h1 : s ≤ most) (h2 : most ≤ 9223372036854775807) (hn0 : 0 ≤ n) (hn : n ≤ most - s) :
    Calls Tryd.prog 51 #[.pointer (some ⟨sb, 0, none⟩), .int .i64 n, .int .i64 most, .pointer (some ⟨eb, 0, none⟩)] w fun e w' => e = .returned (.tuple #[]) ∧ w' = w.setCell ⟨sb, 0, none⟩ (.int .i64 (s + n)) := by
  have c0 : w.cell? ⟨sb, 0, none⟩ = some (.int .i64 s) := hs.cell 0 rfl
  have f0 := hs.free 0
  clear hs
  go_enter Tryd.func51, Tryd.ntmps51
  go_wp2
  go_end0
  exact ⟨rfl, rfl⟩

set_option maxRecDepth 100000 in
set_option maxHeartbeats 1000000 in
theorem grow_err {N : Nat} {f c : Addr} (sb eb : Nat) (ev : Value) (s n most : Int) (w : World) (E : Env N f c w) (hN : N ≤ eb) (hs : Blk w sb #[.int .i64 s] 3) (he : Blk w eb #[ev] 55) (h0 : 0 ≤ s) (h1 : s ≤ most) (h2 : most ≤ 9223372036854775807) (hn : most - s < n) :
    Calls Tryd.prog 51 #[.pointer (some ⟨sb, 0, none⟩), .int .i64 n, .int .i64 most, .pointer (some ⟨eb, 0, none⟩)] w fun e w' => e = .returned (.tuple #[]) ∧ ∃ ev', Blk w' eb #[ev'] 55 ∧ SzErr w' ev' f ∧ Only eb w w' := by
  have c0 : w.cell? ⟨sb, 0, none⟩ = some (.int .i64 s) := hs.cell 0 rfl
  have gf := E.gf
  have hN6 := E.six
  have hle := E.le
  have hlt := he.lt
  have HE : Hid (Env N f c w) := E
  have HB : Hid (Blk w eb #[ev] 55) := he
  have e0 : eb ≠ 0 := by omega
  have e0' : 0 ≠ eb := by omega
  clear E hs he
  go_enter Tryd.func51, Tryd.ntmps51
  go_wp2
  go_region_held3 (fun w' => w'.cell? ⟨0, 0, none⟩ = some (.iface 149 (.pointer (some f))))
    (first
      | go_keep
      | assumption
      | exact (hbw.cell (p := ⟨0, 0, none⟩) (show 0 < w.heap.size by omega)).trans gf)
    ((go_at_call 38; refine (itoa_any (N := N) (f := f) (c := c) most w.drew (by exact HE.out.here (Below.refl _ _).drew) (by omega) (by omega)).mono ?_; rintro e w1 ⟨s1, rfl, hs1, hb1⟩; have hbw : Below w.heap.size w w1 := (Below.refl _ _).drew.trans hb1; obtain ⟨s2, hs2, hadd⟩ := addStr ⟨#[109, 111, 114, 101, 32, 116, 104, 97, 110, 32]⟩ s1 10 21 (by decide) hs1 (by omega); obtain ⟨s3, hs3, hadd3⟩ := addStr s2 ⟨#[32, 98, 121, 116, 101, 115]⟩ 31 6 hs2 (by decide) (by omega); have g1 : w1.cell? ⟨0, 0, none⟩ = some (.iface 149 (.pointer (some f))) := (hbw.cell (p := ⟨0, 0, none⟩) (show 0 < w.heap.size by omega)).trans gf; have HB1 : Hid (Blk w1 eb #[ev] 55) := HB.out.here hbw; have ce : ∀ o, (w1.alloc o).cell? ⟨eb, 0, none⟩ = some ev := fun o => (HB1.out.alloc o).cell 0 rfl; have fe : ∀ o, (w1.alloc o).frozen? ⟨eb, 0, none⟩ = false := fun o => (HB1.out.alloc o).free 0))
  go_wp2
  refine bodyPost_ret (v := .tuple #[]) (by simp [results, Tryd.results51, go_sem]) rfl ⟨rfl, _, (HB1.out.alloc _).set 0 _, ⟨w1.heap.size, s3, rfl, (Blk.new w1 _ 78).setOther _ _ (by show w1.heap.size ≠ eb; have := HB1.out.lt; omega)⟩, ?_⟩
  exact (Only.of_below (hbw.alloc hbw.size _)).setRow 0 _
end Go.Proofs.YtdlolnahbgecjaaDoor
namespace Go.Proofs.YtdlolnahbgecjaaDoor
open Go.RowKit
set_option linter.unusedVariables false

/-- w' is w, new blocks laid, and the blocks of S alone written. -/
structure Wr (S : Nat → Prop) (w w' : World) : Prop where
  os : w'.os = w.os
  tape : w'.tape = w.tape
  output : w'.output = w.output
  size : w.heap.size ≤ w'.heap.size
  block : ∀ k, k < w.heap.size → ¬ S k → w'.heap[k]? = w.heap[k]?
theorem Wr.refl (S : Nat → Prop) (w : World) : Wr S w w := ⟨rfl, rfl, rfl, Nat.le_refl _, fun _ _ _ => rfl⟩
theorem Wr.trans {S : Nat → Prop} {a b c : World} (h : Wr S a b) (k : Wr S b c) : Wr S a c :=
  ⟨k.os.trans h.os, k.tape.trans h.tape, k.output.trans h.output, Nat.le_trans h.size k.size, fun i hi hn => (k.block i (Nat.lt_of_lt_of_le hi h.size) hn).trans (h.block i hi hn)⟩
theorem Wr.mono {S T : Nat → Prop} {a b : World} (h : Wr S a b) (hST : ∀ k, k < a.heap.size → S k → T k) : Wr T a b := ⟨h.os, h.tape, h.output, h.size, fun i hi hn => h.block i hi (fun hs => hn (hST i hi hs))⟩
theorem Wr.of_below {S : Nat → Prop} {w w' : World} {B : Nat} (h : Below B w w') (hS : ∀ k, B ≤ k → k < w.heap.size → S k) : Wr S w w' :=
  ⟨h.os, h.tape, h.output, h.size, fun k hk hn => h.block k (Nat.lt_of_not_le (fun hle => hn (hS k hle hk)))⟩
theorem Wr.here {S : Nat → Prop} {w w' : World} (h : Below w.heap.size w w') : Wr S w w' := Wr.of_below h (fun k h1 h2 => by omega)
theorem Wr.only {S : Nat → Prop} {row : Nat} {w w' : World} (h : Only row w w') (hS : S row) : Wr S w w' :=
  ⟨h.os, h.tape, h.output, h.size, fun k hk hn => h.block k hk (by simp; rintro rfl; exact hn hS)⟩
theorem Wr.set {S : Nat → Prop} {w w1 : World} (h : Wr S w w1) {b : Nat} (hb : S b ∨ w.heap.size ≤ b) (i : Nat) (u : Value) : Wr S w (w1.setCell ⟨b, i, none⟩ u) :=
  ⟨h.os, h.tape, h.output, by have := h.size; simpa [World.setCell] using this, fun k hk hn => (Below.heap_setCell _ _ _ _ (fun (e : k = b) => by subst e; exact hb.elim hn (fun hb => by omega))).trans (h.block k hk hn)⟩
theorem Wr.below {S : Nat → Prop} {w w' : World} (h : Wr S w w') {B : Nat} (hB : ∀ k, k < B → ¬ S k) (hw : B ≤ w.heap.size) : Below B w w' := ⟨h.os, h.tape, h.output, h.size, fun k hk => h.block k (by omega) (hB k hk)⟩
theorem Blk.wr {S : Nat → Prop} {w w' : World} {b : Nat} {cs : Array Value} {t : TypeId} (h : Blk w b cs t) (hw : Wr S w w') (hn : ¬ S b) : Blk w' b cs t := (hw.block b h.lt hn).trans h
theorem At.wr {S : Nat → Prop} {w w' : World} {b off : Nat} {ps : List Pt} (h : At w b off ps) (o : Wr S w w') (hb : 0 < ps.length → b < w.heap.size) (hn : ¬ S b) : At w' b off ps := by
  intro i hi
  have hb := hb (by omega)
  obtain ⟨h0, h1, h2⟩ := h i hi
  have key : ∀ j, w'.cell? ⟨b, j, none⟩ = w.cell? ⟨b, j, none⟩ := fun j => World.cell?_of_block (o.block b hb hn)
  exact ⟨(key _).trans h0, (key _).trans h1, (key _).trans h2⟩
theorem SzErr.wr {S : Nat → Prop} {w w' : World} {ev : Value} {f : Addr} (h : SzErr w ev f) (hw : Wr S w w') (hn : ∀ b cs, Blk w b cs 78 → ¬ S b) : SzErr w' ev f := by
  obtain ⟨g, s, rfl, hg⟩ := h
  exact ⟨g, s, rfl, hg.wr hw (hn _ _ hg)⟩

/-- what 'grow' makes of a sum -/
def grown (s n most : Int) : Int := if most - s < n then s else s + n

theorem grow_any {N : Nat} {f c : Addr} (sb eb : Nat) (ev : Value) (s n most : Int) (w : World) (E : Env N f c w) (hN : N ≤ eb) (hs : Blk w sb #[.int .i64 s] 3) (he : Blk w eb #[ev] 55) (h0 : 0 ≤ s) (h1 : s ≤ most) (h2 : most ≤ 9223372036854775807) (hn0 : 0 ≤ n) :
    Calls Tryd.prog 51 #[.pointer (some ⟨sb, 0, none⟩), .int .i64 n, .int .i64 most, .pointer (some ⟨eb, 0, none⟩)] w fun e w' => e = .returned (.tuple #[]) ∧ ∃ ev', Blk w' sb #[.int .i64 (grown s n most)] 3 ∧ Blk w' eb #[ev'] 55 ∧
      Wr (fun k => k = sb ∨ k = eb) w w' ∧ ((most - s < n ∧ SzErr w' ev' f) ∨ (n ≤ most - s ∧ ev' = ev ∧ (SzErr w ev f → SzErr w' ev f))) := by
  by_cases hn : most - s < n
  · refine (grow_err sb eb ev s n most w E hN hs he h0 h1 h2 hn).mono ?_
    rintro e w' ⟨rfl, ev', hb, hse, ho⟩
    refine ⟨rfl, ev', ?_, hb, Wr.only ho (Or.inr rfl), Or.inl ⟨hn, hse⟩⟩
    rw [show grown s n most = s by unfold grown; rw [if_pos hn]]
    exact hs.only ho (hs.ne he (by decide))
  · refine (grow_ok sb eb s n most w hs h0 h1 h2 hn0 (by omega)).mono ?_
    rintro e w' ⟨rfl, rfl⟩
    refine ⟨rfl, ev, ?_, he.setOther _ _ (he.ne hs (by decide)), (Wr.refl _ w).set (Or.inl (Or.inl rfl)) 0 _, Or.inr ⟨by omega, rfl, fun h => h.set hs (by decide) 0 _⟩⟩
    rw [show grown s n most = s + n by unfold grown; rw [if_neg hn]]
    exact hs.set 0 _

theorem grown_bd {s n most : Int} (h0 : 0 ≤ s) (h1 : s ≤ most) (hn : 0 ≤ n) : 0 ≤ grown s n most ∧ grown s n most ≤ most := by unfold grown; split <;> omega

/-- the variables of 'size', as they lie in memory -/
structure SzB (N : Nat) (ob mb eb gb : Nat) (w : World) (ov mk : Int) (ev : Value) : Prop where
  o : Blk w ob #[.int .i64 ov] 3
  m : Blk w mb #[.int .i64 mk] 3
  e : Blk w eb #[ev] 55
  g : Blk w gb #[.func (.func 51) #[] #[.pointer (some ⟨eb, 0, none⟩)]] 101
  om : ob ≠ mb
  eN : N ≤ eb
  ov0 : 0 ≤ ov
  ov1 : ov ≤ 4611686018427387904
  mk0 : 0 ≤ mk
  mk1 : mk ≤ 9223372036854775807
theorem SzB.here {N ob mb eb gb : Nat} {w w' : World} {ov mk : Int} {ev : Value} (S : SzB N ob mb eb gb w ov mk ev) (h : Below w.heap.size w w') : SzB N ob mb eb gb w' ov mk ev :=
  ⟨S.o.here h, S.m.here h, S.e.here h, S.g.here h, S.om, S.eN, S.ov0, S.ov1, S.mk0, S.mk1⟩
theorem SzB.cg {N ob mb eb gb : Nat} {w : World} {ov mk : Int} {ev : Value} (S : SzB N ob mb eb gb w ov mk ev) : w.cell? ⟨gb, 0, none⟩ = some (.func (.func 51) #[] #[.pointer (some ⟨eb, 0, none⟩)]) := S.g.cell 0 rfl

theorem grow_over {N : Nat} {f c : Addr} {ob mb eb gb : Nat} {w : World} {ov mk : Int} {ev : Value} (E : Env N f c w) (S : SzB N ob mb eb gb w ov mk ev) (n : Int) (hn0 : 0 ≤ n) :
    Calls Tryd.prog 51 #[.pointer (some ⟨ob, 0, none⟩), .int .i64 n, .int .i64 4611686018427387904, .pointer (some ⟨eb, 0, none⟩)] w fun e w' => e = .returned (.tuple #[]) ∧ ∃ ev', SzB N ob mb eb gb w' (grown ov n 4611686018427387904) mk ev' ∧
      Wr (fun x => x = ob ∨ x = mb ∨ x = eb) w w' ∧ ((4611686018427387904 - ov < n ∧ SzErr w' ev' f) ∨ (n ≤ 4611686018427387904 - ov ∧ ev' = ev ∧ (SzErr w ev f → SzErr w' ev f))) := by
  refine (grow_any ob eb ev ov n 4611686018427387904 w E S.eN S.o S.e S.ov0 S.ov1 (by omega) hn0).mono ?_
  rintro e w' ⟨rfl, ev', ho, he, hw, hr⟩
  have hb := grown_bd S.ov0 S.ov1 hn0
  refine ⟨rfl, ev', ⟨ho, S.m.wr hw ?_, he, S.g.wr hw ?_, S.om, S.eN, hb.1, hb.2, S.mk0, S.mk1⟩, hw.mono (fun k _ h => h.elim Or.inl (fun h => Or.inr (Or.inr h))), hr⟩
  · rintro (h | h)
    · exact S.om h.symm
    · exact S.m.ne S.e (by decide) h
  · rintro (h | h)
    · exact S.g.ne S.o (by decide) h
    · exact S.g.ne S.e (by decide) h

theorem grow_makes {N : Nat} {f c : Addr} {ob mb eb gb : Nat} {w : World} {ov mk : Int} {ev : Value} (E : Env N f c w) (S : SzB N ob mb eb gb w ov mk ev) (n : Int) (hn0 : 0 ≤ n) :
    Calls Tryd.prog 51 #[.pointer (some ⟨mb, 0, none⟩), .int .i64 n, .int .i64 9223372036854775807, .pointer (some ⟨eb, 0, none⟩)] w fun e w' => e = .returned (.tuple #[]) ∧ ∃ ev', SzB N ob mb eb gb w' ov (grown mk n 9223372036854775807) ev' ∧
      Wr (fun x => x = ob ∨ x = mb ∨ x = eb) w w' ∧ ((9223372036854775807 - mk < n ∧ SzErr w' ev' f) ∨ (n ≤ 9223372036854775807 - mk ∧ ev' = ev ∧ (SzErr w ev f → SzErr w' ev f))) := by
  refine (grow_any mb eb ev mk n 9223372036854775807 w E S.eN S.m S.e S.mk0 S.mk1 (by omega) hn0).mono ?_
  rintro e w' ⟨rfl, ev', hm, he, hw, hr⟩
  have hb := grown_bd S.mk0 S.mk1 hn0
  refine ⟨rfl, ev', ⟨S.o.wr hw ?_, hm, he, S.g.wr hw ?_, S.om, S.eN, S.ov0, S.ov1, hb.1, hb.2⟩, hw.mono (fun k _ h => h.elim (fun h => Or.inr (Or.inl h)) (fun h => Or.inr (Or.inr h))), hr⟩
  · rintro (h | h)
    · exact S.om h
    · exact S.o.ne S.e (by decide) h
  · rintro (h | h)
    · exact S.g.ne S.m (by decide) h
    · exact S.g.ne S.e (by decide) h

/-- what the variables of 'size' hold behind k parts -/
def SzSt (f : Addr) (ps : List Pt) (k : Nat) (w : World) (ov mk : Int) (ev : Value) : Prop :=
  (ev = .nilIface ∧ fromTo ps k = some ov ∧ mk = madeTo ps k) ∨ (SzErr w ev f ∧ fromTo ps k = none)
theorem fromTo_none_next {ps : List Pt} {k : Nat} (h : fromTo ps k = none) : fromTo ps (k + 1) = none := fromTo_stays h (by omega)

/-- a Drop -/
theorem st_drop {f : Addr} {ps : List Pt} {k : Nat} {w w1 w2 : World} {ov mk : Int} {ev ev' : Value} (h : SzSt f ps k w ov mk ev) (hw : Below w.heap.size w w1) (h3 : (nth ps k).k = 3)
    (hr : (4611686018427387904 - ov < (nth ps k).n ∧ SzErr w2 ev' f) ∨ ((nth ps k).n ≤ 4611686018427387904 - ov ∧ ev' = ev ∧ (SzErr w1 ev f → SzErr w2 ev f))) :
    SzSt f ps (k + 1) w2 (grown ov (nth ps k).n 4611686018427387904) mk ev' := by
  rcases h with ⟨rfl, hf, hm⟩ | ⟨he, hf⟩
  · rcases hr with ⟨hn, he⟩ | ⟨hn, rfl, _⟩
    · exact Or.inr ⟨he, fromTo_none hf hn⟩
    · refine Or.inl ⟨rfl, ?_, ?_⟩
      · rw [fromTo_some hf hn]; unfold grown; rw [if_neg (by omega)]
      · simp only [madeTo]; rw [if_pos h3, hm]; omega
  · rcases hr with ⟨hn, he'⟩ | ⟨hn, rfl, hk⟩
    · exact Or.inr ⟨he', fromTo_none_next hf⟩
    · exact Or.inr ⟨hk (he.here hw), fromTo_none_next hf⟩
/-- an Add -/
theorem st_add {f : Addr} {ps : List Pt} {k : Nat} {w w1 w2 : World} {ov mk : Int} {ev ev' : Value} (h : SzSt f ps k w ov mk ev) (hw : Below w.heap.size w w1) (h2 : (nth ps k).k = 2) (hn0 : (nth ps k).n = 0) (hov : ov ≤ 4611686018427387904)
    (hbd : ∀ s, fromTo ps k = some s → madeTo ps k + (nth ps k).t.size ≤ 9223372036854775807)
    (hr : (9223372036854775807 - mk < ((nth ps k).t.size : Int) ∧ SzErr w2 ev' f) ∨ (((nth ps k).t.size : Int) ≤ 9223372036854775807 - mk ∧ ev' = ev ∧ (SzErr w1 ev f → SzErr w2 ev f))) :
    SzSt f ps (k + 1) w2 ov (grown mk (nth ps k).t.size 9223372036854775807) ev' := by
  rcases h with ⟨rfl, hf, hm⟩ | ⟨he, hf⟩
  · have hb := hbd _ hf
    rcases hr with ⟨hn, he⟩ | ⟨hn, rfl, _⟩
    · omega
    · refine Or.inl ⟨rfl, ?_, ?_⟩
      · rw [fromTo_some hf (by omega), hn0]; simp
      · simp only [madeTo]; rw [if_neg (by omega), hm, hn0]; unfold grown; rw [if_neg (by omega)]; omega
  · rcases hr with ⟨hn, he'⟩ | ⟨hn, rfl, hk⟩
    · exact Or.inr ⟨he', fromTo_none_next hf⟩
    · exact Or.inr ⟨hk (he.here hw), fromTo_none_next hf⟩
/-- a Keep: what is made, then what is gone over -/
theorem st_keep {f : Addr} {ps : List Pt} {k : Nat} {w w1 w2 w3 : World} {ov mk : Int} {ev ev' ev'' : Value} (h : SzSt f ps k w ov mk ev) (hw : Below w.heap.size w w1) (h1 : (nth ps k).k = 1) (ht : (nth ps k).t.size = 0)
    (hbd : ∀ s, fromTo ps k = some s → madeTo ps k ≤ s + 1048576)
    (hr : (9223372036854775807 - mk < (nth ps k).n ∧ SzErr w2 ev' f) ∨ ((nth ps k).n ≤ 9223372036854775807 - mk ∧ ev' = ev ∧ (SzErr w1 ev f → SzErr w2 ev f)))
    (hr2 : (4611686018427387904 - ov < (nth ps k).n ∧ SzErr w3 ev'' f) ∨ ((nth ps k).n ≤ 4611686018427387904 - ov ∧ ev'' = ev' ∧ (SzErr w2 ev' f → SzErr w3 ev' f))) :
    SzSt f ps (k + 1) w3 (grown ov (nth ps k).n 4611686018427387904) (grown mk (nth ps k).n 9223372036854775807) ev'' := by
  rcases h with ⟨rfl, hf, hm⟩ | ⟨he, hf⟩
  · have hb := hbd _ hf
    rcases hr2 with ⟨hn2, he2⟩ | ⟨hn2, rfl, hk2⟩
    · exact Or.inr ⟨he2, fromTo_none hf hn2⟩
    · rcases hr with ⟨hn, he⟩ | ⟨hn, rfl, hk⟩
      · omega
      · refine Or.inl ⟨rfl, ?_, ?_⟩
        · rw [fromTo_some hf hn2]; unfold grown; rw [if_neg (by omega)]
        · simp only [madeTo]; rw [if_neg (by omega), hm, ht]; unfold grown; rw [if_neg (by omega)]; omega
  · refine Or.inr ⟨?_, fromTo_none_next hf⟩
    have h2 : SzErr w2 ev' f := by
      rcases hr with ⟨_, h⟩ | ⟨_, rfl, hk⟩
      · exact h
      · exact hk (he.here hw)
    rcases hr2 with ⟨_, h⟩ | ⟨_, rfl, hk⟩
    · exact h
    · exact hk h2

theorem Env.wr {N : Nat} {f c : Addr} {w w' : World} (E : Env N f c w) {S : Nat → Prop} (h : Wr S w w') (hS : ∀ k, k < N → ¬ S k) : Env N f c w' := E.below (h.below hS E.le) (Nat.le_refl _)

set_option maxRecDepth 100000 in
set_option maxHeartbeats 2000000 in
theorem size2_any {N : Nat} {f c : Addr} (ob mb eb gb : Nat) (ps : List Pt) (k : Nat) (w : World) (ov mk : Int) (ev : Value) (E : Env N f c w) (S : SzB N ob mb eb gb w ov mk ev) (T : SzSt f ps k w ov mk ev) (hoN : N ≤ ob) (hmN : N ≤ mb) (hok : okPt (nth ps k) = true) (hn1 : (nth ps k).n ≤ 9223372036854775807)
    (hbd : ∀ s, fromTo ps k = some s → madeTo ps k ≤ s + 1048576 ∧ madeTo ps k + (nth ps k).t.size ≤ 9223372036854775807) :
    Calls Tryd.prog 52 #[.agg #[.int .i64 (nth ps k).k, .int .i64 (nth ps k).n, .string (nth ps k).t], .pointer (some ⟨gb, 0, none⟩), .pointer (some ⟨mb, 0, none⟩), .pointer (some ⟨ob, 0, none⟩)] w fun e w' => e = .returned (.tuple #[]) ∧ ∃ ov' mk' ev', SzB N ob mb eb gb w' ov' mk' ev' ∧ SzSt f ps (k + 1) w' ov' mk' ev' ∧ Wr (fun x => x = ob ∨ x = mb ∨ x = eb) w w' := by
  obtain ⟨p, hp⟩ : ∃ p, p = nth ps k := ⟨_, rfl⟩
  rw [← hp] at hok hn1 ⊢
  have HP : Hid (p = nth ps k) := hp
  have HB : Hid (∀ s, fromTo ps k = some s → madeTo ps k ≤ s + 1048576 ∧ madeTo ps k + (nth ps k).t.size ≤ 9223372036854775807) := hbd
  have cg := S.cg
  have hgl := S.g.lt
  have hg := ok_n hok
  have HS : Hid (SzB N ob mb eb gb w ov mk ev) := S
  have HT : Hid (SzSt f ps k w ov mk ev) := T
  have HE : Hid (Env N f c w) := E
  have hw0 : Hid (Below w.heap.size w (w.alloc (.cells #[.int .i64 p.k, .int .i64 p.n, .string p.t] 61))) := (Below.refl _ _).alloc (Nat.le_refl _) _
  have hSN : Hid (∀ x, x < N → ¬ (x = ob ∨ x = mb ∨ x = eb)) := fun x hx => by have := S.eN; omega
  have hc := ok_cases hok
  have c61 : Hid (Blk (w.alloc (.cells #[.int .i64 p.k, .int .i64 p.n, .string p.t] 61)) w.heap.size #[.int .i64 p.k, .int .i64 p.n, .string p.t] 61) := Blk.new w _ 61
  clear E S T hp hbd hok
  rcases hc with ⟨h13, hn, hts⟩ | ⟨h2, hn, hts⟩
  · rcases h13 with h1 | h3
    · have HK : Hid (p.k = 1) := h1
      have HTS : Hid (p.t.size = 0) := hts
      clear hts
      have k1 : (p.k == 1) = true := by simp [h1]
      clear h1
      have hnS : Hid (¬ (w.heap.size = ob ∨ w.heap.size = mb ∨ w.heap.size = eb)) := fun h => by have h1 := HS.out.o.lt; have h2 := HS.out.m.lt; have h3 := HS.out.e.lt; omega
      go_enter Tryd.func52, Tryd.ntmps52
      go_wp2_with fail
      refine (grow_makes (HE.out.here hw0.out) (HS.out.here hw0.out) p.n hg).mono ?_
      rintro e w1 ⟨rfl, ev1, S1, W1, R1⟩
      have HS1 : Hid (SzB N ob mb eb gb w1 ov (grown mk p.n 9223372036854775807) ev1) := S1
      have q : Hid (Blk w1 w.heap.size #[.int .i64 p.k, .int .i64 p.n, .string p.t] 61) := c61.out.wr W1 hnS.out
      have q1 : w1.cell? ⟨w.heap.size, 1, none⟩ = some (.int .i64 p.n) := q.out.cell 1 rfl
      have HE1 : Hid (Env N f c w1) := (HE.out.here hw0.out).wr W1 hSN.out
      have cg1 := S1.cg
      clear cg
      go_wp2_with fail
      refine (grow_over HE1.out HS1.out p.n hg).mono ?_
      rintro e w2 ⟨rfl, ev2, S2, W2, R2⟩
      have fin : Hid (SzSt f ps (k + 1) w2 (grown ov p.n 4611686018427387904) (grown mk p.n 9223372036854775807) ev2) := by
        have hw0' := hw0.out
        rw [HP.out] at R1 R2 hw0' ⊢
        exact st_keep HT.out hw0' (by rw [← HP.out]; exact HK.out) (by rw [← HP.out]; exact HTS.out) (fun s hs => (HB.out s hs).1) R1 R2
      have finW : Hid (Wr (fun x => x = ob ∨ x = mb ∨ x = eb) w w2) := ((Wr.here hw0.out).trans W1).trans W2
      clear R1 R2 W1 S1
      go_wp2
      go_end0
      exact ⟨rfl, _, _, _, S2, fin.out, finW.out⟩
    · have HK : Hid (p.k = 3) := h3
      have k1 : (p.k == 1) = false := by simp [h3]
      have k3 : (p.k == 3) = true := by simp [h3]
      clear h3 hts
      go_enter Tryd.func52, Tryd.ntmps52
      go_wp2_with fail
      refine (grow_over (HE.out.here hw0.out) (HS.out.here hw0.out) p.n hg).mono ?_
      rintro e w2 ⟨rfl, ev2, S2, W2, R2⟩
      have fin : Hid (SzSt f ps (k + 1) w2 (grown ov p.n 4611686018427387904) mk ev2) := by
        have hw0' := hw0.out
        rw [HP.out] at R2 hw0' ⊢
        exact st_drop HT.out hw0' (by rw [← HP.out]; exact HK.out) R2
      have finW : Hid (Wr (fun x => x = ob ∨ x = mb ∨ x = eb) w w2) := (Wr.here hw0.out).trans W2
      clear R2
      go_wp2
      go_end0
      exact ⟨rfl, _, _, _, S2, fin.out, finW.out⟩
  · have HK : Hid (p.k = 2) := h2
    have k1 : (p.k == 1) = false := by simp [h2]
    have k3 : (p.k == 3) = false := by simp [h2]
    have k2 : (p.k == 2) = true := by simp [h2]
    have HN : Hid (p.n = 0) := hn
    have hov := HS.out.ov1
    clear h2 hn hts
    go_enter Tryd.func52, Tryd.ntmps52
    go_wp2_with fail
    refine (grow_makes (HE.out.here hw0.out) (HS.out.here hw0.out) p.t.size (by omega)).mono ?_
    rintro e w2 ⟨rfl, ev2, S2, W2, R2⟩
    have fin : Hid (SzSt f ps (k + 1) w2 ov (grown mk p.t.size 9223372036854775807) ev2) := by
      have hw0' := hw0.out
      rw [HP.out] at R2 hw0' ⊢
      exact st_add HT.out hw0' (by rw [← HP.out]; exact HK.out) (by rw [← HP.out]; exact HN.out) hov (fun s hs => (HB.out s hs).2) R2
    have finW : Hid (Wr (fun x => x = ob ∨ x = mb ∨ x = eb) w w2) := (Wr.here hw0.out).trans W2
    clear R2
    go_wp2
    go_end0
    exact ⟨rfl, _, _, _, S2, fin.out, finW.out⟩
end Go.Proofs.YtdlolnahbgecjaaDoor
namespace Go.Proofs.YtdlolnahbgecjaaDoor
open Go.RowKit
set_option linter.unusedVariables false

theorem ok_pos {p : Pt} (h : okPt p = true) : (p.k == 0) = false ∧ (p.k != 0) = true := by
  rcases ok_cases h with ⟨h, _⟩ | ⟨h, _⟩ <;> simp <;> omega
theorem cut_full {p : Pt} (h : okPt p = true) (m : Nat) (hm : (m : Int) = psz p) : cut p 0 m = p := by
  unfold psz at hm
  rcases ok_cases h with ⟨h, h', h''⟩ | ⟨h, h', h''⟩
  · have e : (m : Int) = p.n := by omega
    unfold cut; rw [if_neg (by omega), e]
  · have e : m = p.t.size := by omega
    subst e
    have e2 : p.t.extract 0 (0 + p.t.size) = p.t := by rw [Nat.zero_add]; simp
    unfold cut; rw [if_pos h, e2]
theorem psz_ok {p : Pt} (h : okPt p = true) (hn : p.n ≤ 9223372036854775807) (ht : p.t.size ≤ 1048576) : 1 ≤ psz p ∧ psz p ≤ 9223372036854775807 := by
  unfold psz
  rcases ok_cases h with ⟨_, h', h''⟩ | ⟨_, h', h''⟩ <;> omega

/-- what is asked of the list that a reader goes over -/
structure Lst (ps : List Pt) : Prop where
  good : Good ps = true
  len : ps.length ≤ 1048576
  text : textTo ps ps.length ≤ 1048576
  num : ∀ i, (nth ps i).n ≤ 9223372036854775807

set_option maxRecDepth 100000 in
set_option maxHeartbeats 2000000 in
theorem eachSize_pos {N : Nat} {f c : Addr} (ob mb eb gb rb b off cap : Nat) (ps : List Pt) (L : Lst ps) (w : World) (ov mk : Int) (ev : Value) (E : Env N f c w) (S : SzB N ob mb eb gb w ov mk ev) (T : SzSt f ps 0 w ov mk ev) (hoN : N ≤ ob) (hmN : N ≤ mb) (hrN : N ≤ rb)
    (A : At w b off ps) (hb : b < w.heap.size) (hbo : b ≠ ob) (hbm : b ≠ mb) (hbe : b ≠ eb) (hbr : b ≠ rb) (R : Rd w rb (.slice (some ⟨b, off, none⟩) ps.length cap) 0 0) :
    Calls Tryd.prog 43 #[.pointer (some ⟨rb, 0, none⟩), .func (.func 52) #[] #[.pointer (some ⟨gb, 0, none⟩), .pointer (some ⟨mb, 0, none⟩), .pointer (some ⟨ob, 0, none⟩)]] w fun e w' => e = .returned (.tuple #[]) ∧ ∃ ov' mk' ev', SzB N ob mb eb gb w' ov' mk' ev' ∧ SzSt f ps ps.length w' ov' mk' ev' ∧ Wr (fun x => x = ob ∨ x = mb ∨ x = eb ∨ x = rb) w w' := by
  have HE : Hid (Env N f c w) := E
  have hlen := L.len
  have hSN : Hid (∀ x, x < N → ¬ (x = ob ∨ x = mb ∨ x = eb ∨ x = rb)) := fun x hx => by have := S.eN; omega
  have Hst : Hid (SzB N ob mb eb gb w ov mk ev ∧ SzSt f ps 0 w ov mk ev ∧ Rd w rb (.slice (some ⟨b, off, none⟩) ps.length cap) 0 0 ∧ At w b off ps) := ⟨S, T, R, A⟩
  clear E S T R A
  go_enter Tryd.func43, Tryd.ntmps43
  go_wp2
  go_loopg [4] ps.length (fun j u wr => ∃ k : Nat, k + j = ps.length ∧ ∃ ov' mk' ev', SzB N ob mb eb gb wr ov' mk' ev' ∧ SzSt f ps k wr ov' mk' ev' ∧ Rd wr rb (.slice (some ⟨b, off, none⟩) ps.length cap) k 0 ∧ At wr b off ps ∧ Wr (fun x => x = ob ∨ x = mb ∨ x = eb ∨ x = rb) w wr)
  case atStart => exact ⟨0, by omega, ov, mk, ev, Hst.out.1, Hst.out.2.1, Hst.out.2.2.1, Hst.out.2.2.2, Wr.refl _ _⟩
  case round =>
    obtain ⟨k, hk, ov', mk', ev', S, T, R, A, W⟩ := hrel
    have HS : Hid (SzB N ob mb eb gb wr ov' mk' ev') := S
    have HT : Hid (SzSt f ps k wr ov' mk' ev') := T
    have HR : Hid (Rd wr rb (.slice (some ⟨b, off, none⟩) ps.length cap) k 0) := R
    have HA : Hid (At wr b off ps) := A
    have HW : Hid (Wr (fun x => x = ob ∨ x = mb ∨ x = eb ∨ x = rb) w wr) := W
    have hbw : b < wr.heap.size := Nat.lt_of_lt_of_le hb W.size
    have HEr : Hid (Env N f c wr) := HE.out.wr W hSN.out
    have HK : Hid (k + gk = ps.length) := hk
    clear S T R A W hk
    by_cases hlt : k < ps.length
    · have hok := good_nth L.good k hlt
      have hts := size_le_text ps k hlt
      have htx := L.text
      have hz := psz_ok hok (L.num k) (by omega)
      obtain ⟨m, hm⟩ : ∃ m : Nat, (m : Int) = psz (nth ps k) := ⟨(psz (nth ps k)).toNat, by omega⟩
      have HC : Hid (cut (nth ps k) 0 m = nth ps k) := cut_full hok m hm
      have hkz := (ok_pos hok).2
      have HRest : Hid (∀ wx, At wx b off ps → b < wx.heap.size → Rd wx rb (.slice (some ⟨b, off, none⟩) ps.length cap) k 0 → Calls Tryd.prog 61 #[.pointer (some ⟨rb, 0, none⟩)] wx fun e w' => e = .returned (.agg #[.int .i64 (nth ps k).k, .int .i64 (nth ps k).n, .string (nth ps k).t]) ∧ Only rb wx w' ∧ Rd w' rb (.slice (some ⟨b, off, none⟩) ps.length cap) ((k : Int) + 1) 0) := fun wx Ax hbx Rx => by
        have := rest_any ps b off cap rb k 0 m wx Ax hbx hlt hlen Rx hbr hok (by simpa using hm) hz.2
        rwa [HC.out] at this
      have Hbd : Hid (∀ s, fromTo ps k = some s → madeTo ps k ≤ s + 1048576 ∧ madeTo ps k + (nth ps k).t.size ≤ 9223372036854775807) := fun s hs => by
        have hb1 := made_bd (ps := ps) (fun i => by
          by_cases hi : i < ps.length
          · exact ⟨ok_n (good_nth L.good i hi), L.num i⟩
          · simp [nth, List.getD, List.getElem?_eq_none (by omega : ps.length ≤ i)]) k s hs
        have h2 := textTo_le ps (show k ≤ ps.length by omega)
        omega
      have hnk := L.num k
      have HKind : Hid (∀ wx, At wx b off ps → b < wx.heap.size → Rd wx rb (.slice (some ⟨b, off, none⟩) ps.length cap) k 0 → Calls Tryd.prog 60 #[.pointer (some ⟨rb, 0, none⟩)] wx fun e w' => e = .returned (.int .i64 (nth ps k).k) ∧ Below wx.heap.size wx w') := fun wx Ax hbx Rx => kind_in ps b off cap rb k 0 wx Ax hbx hlt Rx
      have HClos : Hid (∀ wx, Env N f c wx → SzB N ob mb eb gb wx ov' mk' ev' → SzSt f ps k wx ov' mk' ev' → Calls Tryd.prog 52 #[.agg #[.int .i64 (nth ps k).k, .int .i64 (nth ps k).n, .string (nth ps k).t], .pointer (some ⟨gb, 0, none⟩), .pointer (some ⟨mb, 0, none⟩), .pointer (some ⟨ob, 0, none⟩)] wx fun e w' => e = .returned (.tuple #[]) ∧ ∃ ov' mk' ev', SzB N ob mb eb gb w' ov' mk' ev' ∧ SzSt f ps (k + 1) w' ov' mk' ev' ∧ Wr (fun x => x = ob ∨ x = mb ∨ x = eb) wx w') := fun wx Ex Sx Tx => size2_any ob mb eb gb ps k wx ov' mk' ev' Ex Sx Tx hoN hmN hok hnk Hbd.out
      clear hm hz hts htx hok Hbd HC hnk
      generalize nth ps k = q at *
      go_wp2_with fail
      refine (HKind.out wr HA.out hbw HR.out).mono ?_
      rintro e w1 ⟨rfl, hb1⟩
      have HA1 : Hid (At w1 b off ps) := HA.out.below hb1 (fun _ => hbw)
      have HR1 : Hid (Rd w1 rb (.slice (some ⟨b, off, none⟩) ps.length cap) k 0) := HR.out.below hb1 HR.out.lt
      have hbw1 : b < w1.heap.size := Nat.lt_of_lt_of_le hbw hb1.size
      go_wp2_with fail
      refine (HRest.out w1 HA1.out hbw1 HR1.out).mono ?_
      rintro e w2 ⟨rfl, ho, R2⟩
      have HR2 : Hid (Rd w2 rb (.slice (some ⟨b, off, none⟩) ps.length cap) ((k : Int) + 1) 0) := R2
      have HW2 : Hid (Wr (fun x => x = rb) wr w2) := (Wr.here hb1).trans (Wr.only ho rfl)
      clear R2 ho hb1
      have hneo : ob ≠ rb := HS.out.o.ne (show Blk wr rb _ 110 from HR.out) (by decide)
      have hnem : mb ≠ rb := HS.out.m.ne (show Blk wr rb _ 110 from HR.out) (by decide)
      have hnee : eb ≠ rb := HS.out.e.ne (show Blk wr rb _ 110 from HR.out) (by decide)
      have hneg : gb ≠ rb := HS.out.g.ne (show Blk wr rb _ 110 from HR.out) (by decide)
      have HS2 : Hid (SzB N ob mb eb gb w2 ov' mk' ev') := ⟨HS.out.o.wr HW2.out hneo, HS.out.m.wr HW2.out hnem, HS.out.e.wr HW2.out hnee, HS.out.g.wr HW2.out hneg, HS.out.om, HS.out.eN, HS.out.ov0, HS.out.ov1, HS.out.mk0, HS.out.mk1⟩
      have HT2 : Hid (SzSt f ps k w2 ov' mk' ev') := HT.out.elim Or.inl (fun h => Or.inr ⟨h.1.wr HW2.out (fun x cs hx => hx.ne (show Blk wr rb _ 110 from HR.out) (by decide)), h.2⟩)
      have HE2 : Hid (Env N f c w2) := HEr.out.wr HW2.out (fun x hx (h : x = rb) => by omega)
      have HA2 : Hid (At w2 b off ps) := HA.out.wr HW2.out (fun _ => hbw) hbr
      clear hneo hnem hnee hneg
      go_wp2_with fail
      refine (HClos.out w2 HE2.out HS2.out HT2.out).mono ?_
      rintro e w3 ⟨rfl, ov3, mk3, ev3, S3, T3, W3⟩
      have hbs : Hid (b < w2.heap.size) := Nat.lt_of_lt_of_le hbw HW2.out.size
      have fin : Hid (SzB N ob mb eb gb w3 ov3 mk3 ev3 ∧ SzSt f ps (k + 1) w3 ov3 mk3 ev3 ∧ Rd w3 rb (.slice (some ⟨b, off, none⟩) ps.length cap) ((k + 1 : Nat) : Int) 0 ∧ At w3 b off ps ∧ Wr (fun x => x = ob ∨ x = mb ∨ x = eb ∨ x = rb) w w3) := by
        refine ⟨S3, T3, ?_, HA2.out.wr W3 (fun _ => hbs.out) ?_, (HW.out.trans (HW2.out.mono ?_)).trans (W3.mono ?_)⟩
        · have hb2 : Blk w2 rb _ 110 := HR2.out
          exact hb2.wr W3 (fun h => by
            rcases h with h | h | h
            · exact HS2.out.o.ne hb2 (by decide) h.symm
            · exact HS2.out.m.ne hb2 (by decide) h.symm
            · exact HS2.out.e.ne hb2 (by decide) h.symm)
        · intro h; omega
        · intro x _ h; omega
        · intro x _ h; omega
      clear S3 T3 W3
      go_wp2
      go_roundg (gk - 1)
      case measure => have := HK.out; omega
      case rel => exact ⟨k + 1, by have := HK.out; omega, ov3, mk3, ev3, fin.out⟩
    · have hke : Hid (ps.length ≤ k) := by have := HK.out; show _ ≤ _; omega
      have hkl : Hid (k = ps.length) := by have := HK.out; show _ = _; omega
      go_wp2_with (go_at_call 60; refine (kind_out ps.length (some ⟨b, off, none⟩) cap rb k 0 wr hke.out HR.out).mono ?_; rintro e w1 ⟨rfl, hb1⟩)
      go_end0
      refine ⟨rfl, ov', mk', ev', HS.out.here hb1, ?_, HW.out.trans (Wr.here hb1)⟩
      rw [← hkl.out]
      exact HT.out.elim Or.inl (fun h => Or.inr ⟨h.1.here hb1, h.2⟩)
end Go.Proofs.YtdlolnahbgecjaaDoor
