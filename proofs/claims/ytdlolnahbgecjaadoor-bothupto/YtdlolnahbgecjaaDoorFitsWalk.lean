import Derived.Test.YtdlolnahbgecjaaDoorEach
import Derived.Laws.EntriesVeiled
namespace Go.Proofs.YtdlolnahbgecjaaDoor
open Go.RowKit
set_option linter.unusedVariables false

set_option maxRecDepth 100000 in
set_option maxHeartbeats 2000000 in
theorem each_zero (n : Nat) (ao : Option Addr) (cap rb : Nat) (fv : Value) (w : World) (hn : n = 0) (R : Rd w rb (.slice ao n cap) 0 0) :
    Calls Tryd.prog 43 #[.pointer (some ⟨rb, 0, none⟩), fv] w fun e w' => e = .returned (.tuple #[]) ∧ Below w.heap.size w w' := by
  have HR : Hid (Rd w rb (.slice ao n cap) ((0 : Nat) : Int) 0) := R
  have HN : Hid (n ≤ 0) := by show _ ≤ _; omega
  clear R hn
  go_enter Tryd.func43, Tryd.ntmps43
  go_wp2
  refine wp_loop_rounds 1 ?_
  rw [rounds_succ]
  go_wp2_with (go_at_call 60; refine (kind_out n ao cap rb 0 0 w HN.out HR.out).mono ?_; rintro e w1 ⟨rfl, hb1⟩)
  go_end0
  exact ⟨rfl, hb1⟩

theorem eachSize_any {N : Nat} {f c : Addr} (ob mb eb gb rb b off cap : Nat) (ao : Option Addr) (ps : List Pt) (L : Lst ps) (w : World) (ov mk : Int) (ev : Value) (E : Env N f c w) (S : SzB N ob mb eb gb w ov mk ev) (T : SzSt f ps 0 w ov mk ev) (hoN : N ≤ ob) (hmN : N ≤ mb) (hrN : N ≤ rb)
    (hao : 0 < ps.length → ao = some ⟨b, off, none⟩) (A : At w b off ps) (hb : 0 < ps.length → b < w.heap.size ∧ b ≠ ob ∧ b ≠ mb ∧ b ≠ eb ∧ b ≠ rb) (R : Rd w rb (.slice ao ps.length cap) 0 0) :
    Calls Tryd.prog 43 #[.pointer (some ⟨rb, 0, none⟩), .func (.func 52) #[] #[.pointer (some ⟨gb, 0, none⟩), .pointer (some ⟨mb, 0, none⟩), .pointer (some ⟨ob, 0, none⟩)]] w fun e w' => e = .returned (.tuple #[]) ∧ ∃ ov' mk' ev', SzB N ob mb eb gb w' ov' mk' ev' ∧ SzSt f ps ps.length w' ov' mk' ev' ∧ Wr (fun x => x = ob ∨ x = mb ∨ x = eb ∨ x = rb) w w' := by
  rcases Nat.eq_zero_or_pos ps.length with hz | hz
  · refine (each_zero ps.length ao cap rb _ w hz R).mono ?_
    rintro e w1 ⟨rfl, hb1⟩
    refine ⟨rfl, ov, mk, ev, S.here hb1, ?_, Wr.here hb1⟩
    rw [hz]
    exact T.elim Or.inl (fun h => Or.inr ⟨h.1.here hb1, h.2⟩)
  · obtain rfl := hao hz
    obtain ⟨h1, h2, h3, h4, h5⟩ := hb hz
    exact eachSize_pos ob mb eb gb rb b off cap ps L w ov mk ev E S T hoN hmN hrN A h1 h2 h3 h4 h5 R

set_option maxRecDepth 100000 in
set_option maxHeartbeats 400000 in
theorem read_any (ao : Option Addr) (n cap : Nat) (w : World) :
    Calls Tryd.prog 42 #[.slice ao n cap] w fun e w' => e = .returned (.pointer (some ⟨w.heap.size, 0, none⟩)) ∧ w.alloc (.cells #[.slice ao n cap, .int .i64 0, .int .i64 0] 110) = w' := by
  go_enter Tryd.func42, Tryd.ntmps42
  go_wp2
  go_ret
  exact ⟨rfl, rfl⟩

theorem Blk.new' {w : World} {n : Nat} (cs : Array Value) (t : TypeId) (h : w.heap.size = n) : Blk (w.alloc (.cells cs t)) n cs t := by subst h; exact Blk.new w cs t

theorem size_start (N : Nat) (w : World) (sv : Value) (hN : N ≤ w.heap.size) :
    SzB N w.heap.size (w.heap.size + 1) (w.heap.size + 1 + 1) (w.heap.size + 1 + 1 + 1) (((((w.alloc (.cells #[.int .i64 0] 3)).alloc (.cells #[.int .i64 0] 3)).alloc (.cells #[.nilIface] 55)).alloc (.cells #[.func (.func 51) #[] #[.pointer (some ⟨w.heap.size + 1 + 1, 0, none⟩)]] 101)).alloc (.cells #[sv, .int .i64 0, .int .i64 0] 110)) 0 0 .nilIface ∧
    Rd (((((w.alloc (.cells #[.int .i64 0] 3)).alloc (.cells #[.int .i64 0] 3)).alloc (.cells #[.nilIface] 55)).alloc (.cells #[.func (.func 51) #[] #[.pointer (some ⟨w.heap.size + 1 + 1, 0, none⟩)]] 101)).alloc (.cells #[sv, .int .i64 0, .int .i64 0] 110)) (w.heap.size + 1 + 1 + 1 + 1) sv 0 0 ∧
    Below w.heap.size w (((((w.alloc (.cells #[.int .i64 0] 3)).alloc (.cells #[.int .i64 0] 3)).alloc (.cells #[.nilIface] 55)).alloc (.cells #[.func (.func 51) #[] #[.pointer (some ⟨w.heap.size + 1 + 1, 0, none⟩)]] 101)).alloc (.cells #[sv, .int .i64 0, .int .i64 0] 110)) := by
  refine ⟨⟨?_, ?_, ?_, ?_, by omega, by omega, by omega, by omega, by omega, by omega⟩, ?_, ?_⟩
  · exact ((((Blk.new w _ 3).alloc _).alloc _).alloc _).alloc _
  · exact (((Blk.new' _ 3 (by simp)).alloc _).alloc _).alloc _
  · exact ((Blk.new' _ 55 (by simp)).alloc _).alloc _
  · exact (Blk.new' _ 101 (by simp)).alloc _
  · exact Blk.new' _ 110 (by simp)
  · exact (((((Below.refl _ _).alloc (by simp) _).alloc (by simp) _).alloc (by simp; omega) _).alloc (by simp; omega) _).alloc (by simp; omega) _

set_option maxRecDepth 100000 in
set_option maxHeartbeats 2000000 in
theorem size_any {N : Nat} {f c : Addr} (ps : List Pt) (ao : Option Addr) (b off cap : Nat) (w : World) (E : Env N f c w) (L : Lst ps) (hao : 0 < ps.length → ao = some ⟨b, off, none⟩) (A : At w b off ps) (hb : 0 < ps.length → b < w.heap.size) :
    Calls Tryd.prog 37 #[.slice ao ps.length cap] w fun e w' => ∃ o m v, e = .returned (.tuple #[.int .i64 o, .int .i64 m, v]) ∧ ((fromTo ps ps.length = some o ∧ m = madeTo ps ps.length ∧ v = .nilIface) ∨ (fromTo ps ps.length = none ∧ o = 0 ∧ m = 0 ∧ ErrIs w' v (some f))) ∧ Below w.heap.size w w' := by
  have hN := E.le
  have HE : Hid (Env N f c w) := E
  have HA : Hid (At w b off ps) := A
  have HAO : Hid (0 < ps.length → ao = some ⟨b, off, none⟩) := hao
  have HB : Hid (0 < ps.length → b < w.heap.size) := hb
  clear E A hao hb
  go_enter Tryd.func37, Tryd.ntmps37
  go_wp2_with fail
  refine (read_any ao ps.length cap _).mono ?_
  rintro e w' ⟨rfl, rfl⟩
  go_wp2_with fail
  obtain ⟨S0, R0, B0⟩ := size_start N w (.slice ao ps.length cap) hN
  refine (eachSize_any w.heap.size (w.heap.size + 1) (w.heap.size + 1 + 1) (w.heap.size + 1 + 1 + 1) (w.heap.size + 1 + 1 + 1 + 1) b off cap ao ps L _ 0 0 .nilIface (HE.out.here B0) S0 (Or.inl ⟨rfl, rfl, rfl⟩) hN (by omega) (by omega) HAO.out (HA.out.below B0 HB.out) (fun h => by have h1 := HB.out h; have h2 := B0.size; exact ⟨by omega, by omega, by omega, by omega, by omega⟩) R0).mono ?_
  rintro e w2 ⟨rfl, ov, mk, ev, S2, T2, W2⟩
  have HB2 : Hid (Below w.heap.size w w2) := B0.trans (W2.below (fun x hx h => by omega) B0.size)
  have HS2 : Hid (SzB N w.heap.size (w.heap.size + 1) (w.heap.size + 1 + 1) (w.heap.size + 1 + 1 + 1) w2 ov mk ev) := S2
  clear S0 R0 B0 W2 S2
  have co : w2.cell? ⟨w.heap.size, 0, none⟩ = some (.int .i64 ov) := HS2.out.o.cell 0 rfl
  have cm : w2.cell? ⟨w.heap.size + 1, 0, none⟩ = some (.int .i64 mk) := HS2.out.m.cell 0 rfl
  have ce : w2.cell? ⟨w.heap.size + 1 + 1, 0, none⟩ = some ev := HS2.out.e.cell 0 rfl
  have fo := HS2.out.o.free 0
  have fm := HS2.out.m.free 0
  have fe := HS2.out.e.free 0
  rcases T2 with ⟨rfl, hf, hm⟩ | ⟨he, hf⟩
  · have HF : Hid (fromTo ps ps.length = some ov ∧ mk = madeTo ps ps.length) := ⟨hf, hm⟩
    clear hf hm
    go_wp2
    refine bodyPost_ret (v := .tuple #[.int .i64 ov, .int .i64 mk, .nilIface]) (by simp [results, Tryd.results37, go_sem, co, cm, ce]) rfl ⟨ov, mk, .nilIface, rfl, Or.inl ⟨HF.out.1, HF.out.2, rfl⟩, ?_⟩
    exact ((HB2.out.setCell (Nat.le_refl _) _).setCell (show w.heap.size ≤ w.heap.size + 1 by omega) _).setCell (show w.heap.size ≤ w.heap.size + 1 + 1 by omega) _
  · obtain ⟨g, s, rfl, hg⟩ := he
    have HF : Hid (fromTo ps ps.length = none ∧ SzErr w2 (.iface 76 (.pointer (some ⟨g, 0, none⟩))) f) := ⟨hf, g, s, rfl, hg⟩
    clear hf hg
    go_wp2
    go_region
    go_wp2
    refine bodyPost_ret (v := .tuple #[.int .i64 0, .int .i64 0, .iface 76 (.pointer (some ⟨g, 0, none⟩))]) (by simp [results, Tryd.results37, go_sem, co, cm, ce]) rfl ⟨0, 0, .iface 76 (.pointer (some ⟨g, 0, none⟩)), rfl, Or.inr ⟨HF.out.1, rfl, rfl, ?_⟩, ?_⟩
    · have h1 := HF.out.2.set HS2.out.o (by decide) 0 (.int .i64 0)
      have h2 := h1.set (HS2.out.m.setOther ⟨w.heap.size, 0, none⟩ (.int .i64 0) (by show w.heap.size + 1 ≠ w.heap.size; omega)) (by decide) 0 (.int .i64 0)
      have h3 := h2.set ((HS2.out.e.setOther ⟨w.heap.size, 0, none⟩ (.int .i64 0) (by show w.heap.size + 1 + 1 ≠ w.heap.size; omega)).setOther ⟨w.heap.size + 1, 0, none⟩ (.int .i64 0) (by show w.heap.size + 1 + 1 ≠ w.heap.size + 1; omega)) (by decide) 0 (.iface 76 (.pointer (some ⟨g, 0, none⟩)))
      exact (h3.here ((Below.refl _ _).drew)).errIs
    · exact (((HB2.out.setCell (Nat.le_refl _) _).setCell (show w.heap.size ≤ w.heap.size + 1 by omega) _).setCell (show w.heap.size ≤ w.heap.size + 1 + 1 by omega) _).drew
end Go.Proofs.YtdlolnahbgecjaaDoor
namespace Go.Proofs.YtdlolnahbgecjaaDoor
open Go.RowKit
set_option linter.unusedVariables false

/-- which error 'fit' tells -/
def fitErr (ps : List Pt) (len : Int) (f c : Addr) : Option Addr := if Good ps = false then some c else if From ps < 0 ∨ From ps ≠ len then some f else none
def fitVal (ps : List Pt) (len : Int) : Int := (refFit ps len).1

theorem Arg.lst {w : World} {ps : List Pt} {ao : Option Addr} {b off : Nat} (A : Arg w ps ao b off) (hg : Good ps = true) : Lst ps := ⟨hg, A.len, A.text, fun i => (A.num i).2⟩

set_option maxRecDepth 100000 in
set_option maxHeartbeats 2000000 in
theorem fit_any {N : Nat} {f c : Addr} (ps : List Pt) (ao : Option Addr) (b off cap : Nat) (len : Int) (w : World) (E : Env N f c w) (A : Arg w ps ao b off) (hl0 : -9223372036854775808 ≤ len) (hl1 : len ≤ 9223372036854775807) :
    Calls Tryd.prog 25 #[.slice ao ps.length cap, .int .i64 len] w fun e w' => ∃ v, e = .returned (.tuple #[.int .i64 (fitVal ps len), v]) ∧ ErrIs w' v (fitErr ps len f c) ∧ Below w.heap.size w w' := by
  have HE : Hid (Env N f c w) := E
  have HA : Hid (Arg w ps ao b off) := A
  cases hg : Good ps with
  | false =>
    have HV : Hid (fitVal ps len = 0) := by show _ = _; unfold fitVal refFit; rw [if_pos hg]
    have HR : Hid (fitErr ps len f c = some c) := by show _ = _; unfold fitErr; rw [if_pos hg]
    have HC : Hid (Calls Tryd.prog 36 #[.slice ao ps.length cap] w fun e w' => ∃ t' p', e = .returned (.iface t' p') ∧ ErrIs w' (.iface t' p') (some c) ∧ Below w.heap.size w w') := by
      refine (check_any ps ao b off cap w E A).mono ?_
      rw [hg]
      rintro e w1 ⟨v, rfl, ⟨d, hv⟩, hb⟩
      obtain ⟨t', p', rfl⟩ := hv.shape
      exact ⟨t', p', rfl, ⟨d, hv⟩, hb⟩
    clear E A hg
    rw [HV.out, HR.out]
    go_enter Tryd.func25, Tryd.ntmps25
    go_wp2_with (go_at_call 36; refine HC.out.mono ?_; rintro e w1 ⟨t', p', rfl, hv1, hb1⟩; have HV1 : Hid (ErrIs w1 (.iface t' p') (some c)) := hv1; clear hv1)
    go_ret2
    exact ⟨.iface 76 (.pointer (some ⟨w1.heap.size, 0, none⟩)), rfl, errIs_wrap HV1.out rfl _, hb1.alloc hb1.size _⟩
  | true =>
    have HC : Hid (Calls Tryd.prog 36 #[.slice ao ps.length cap] w fun e w' => e = .returned .nilIface ∧ Below w.heap.size w w') := by
      refine (check_any ps ao b off cap w E A).mono ?_
      rw [hg]
      rintro e w1 ⟨v, rfl, rfl, hb⟩
      exact ⟨rfl, hb⟩
    have HL : Hid (Lst ps) := A.lst hg
    cases hf : fromTo ps ps.length with
    | none =>
      have hF : From ps = -1 := by unfold From; rw [hf]; rfl
      have HV : Hid (fitVal ps len = 0) := by show _ = _; unfold fitVal refFit; rw [if_neg (by simp [hg]), if_pos (Or.inl (by omega))]
      have HR : Hid (fitErr ps len f c = some f) := by show _ = _; unfold fitErr; rw [if_neg (by simp [hg]), if_pos (Or.inl (by omega))]
      have HS : Hid (∀ w1, Below w.heap.size w w1 → Calls Tryd.prog 37 #[.slice ao ps.length cap] w1 fun e w' => ∃ t' p', e = .returned (.tuple #[.int .i64 0, .int .i64 0, .iface t' p']) ∧ ErrIs w' (.iface t' p') (some f) ∧ Below w1.heap.size w1 w') := fun w1 hb1 => by
        refine (size_any ps ao b off cap w1 (E.here hb1) HL.out A.ao (A.cells.below hb1 A.lt) (fun h => Nat.lt_of_lt_of_le (A.lt h) hb1.size)).mono ?_
        rintro e w2 ⟨o, m, v, rfl, h | ⟨_, rfl, rfl, ⟨d, hv⟩⟩, hb⟩
        · rw [hf] at h; simp at h
        · obtain ⟨t', p', rfl⟩ := hv.shape
          exact ⟨t', p', rfl, ⟨d, hv⟩, hb⟩
      clear E A hg hf hF
      rw [HV.out, HR.out]
      go_enter Tryd.func25, Tryd.ntmps25
      go_wp2_with (first | (go_at_call 36; refine HC.out.mono ?_; rintro e w1 ⟨rfl, hb1⟩) | (go_at_call 37; refine (HS.out _ hb1).mono ?_; rintro e w2 ⟨t', p', rfl, hv2, hb2⟩; have HV2 : Hid (ErrIs w2 (.iface t' p') (some f)) := hv2; clear hv2))
      go_ret2
      exact ⟨.iface 76 (.pointer (some ⟨w2.heap.size, 0, none⟩)), rfl, errIs_wrap HV2.out rfl _, (hb1.trans (hb2.mono hb1.size)).alloc (Nat.le_trans hb1.size hb2.size) _⟩
    | some s =>
      have hF : From ps = s := by unfold From; rw [hf]; rfl
      have hsb := made_bd (ps := ps) (fun i => by
          by_cases hi : i < ps.length
          · exact ⟨ok_n (good_nth hg i hi), (A.num i).2⟩
          · simp [nth, List.getD, List.getElem?_eq_none (by omega : ps.length ≤ i)]) _ _ hf
      have htx := A.text
      have HS : Hid (∀ w1, Below w.heap.size w w1 → Calls Tryd.prog 37 #[.slice ao ps.length cap] w1 fun e w' => e = .returned (.tuple #[.int .i64 s, .int .i64 (madeTo ps ps.length), .nilIface]) ∧ Below w1.heap.size w1 w') := fun w1 hb1 => by
        refine (size_any ps ao b off cap w1 (E.here hb1) HL.out A.ao (A.cells.below hb1 A.lt) (fun h => Nat.lt_of_lt_of_le (A.lt h) hb1.size)).mono ?_
        rintro e w2 ⟨o, m, v, rfl, ⟨h, rfl, rfl⟩ | ⟨h, _⟩, hb⟩
        · rw [hf] at h; simp at h; subst h; exact ⟨rfl, hb⟩
        · rw [hf] at h; simp at h
      by_cases hne : s = len
      · have HV : Hid (fitVal ps len = madeTo ps ps.length) := by show _ = _; unfold fitVal refFit; rw [if_neg (by simp [hg]), if_neg (by rw [hF]; omega)]
        have HR : Hid (fitErr ps len f c = none) := by show _ = _; unfold fitErr; rw [if_neg (by simp [hg]), if_neg (by rw [hF]; omega)]
        rw [HV.out, HR.out]
        subst hne
        clear E A hg hf hF
        go_enter Tryd.func25, Tryd.ntmps25
        go_wp2_with (first | (go_at_call 36; refine HC.out.mono ?_; rintro e w1 ⟨rfl, hb1⟩) | (go_at_call 37; refine (HS.out _ hb1).mono ?_; rintro e w2 ⟨rfl, hb2⟩))
        go_ret2
        exact ⟨.nilIface, rfl, rfl, hb1.trans (hb2.mono hb1.size)⟩
      · have HV : Hid (fitVal ps len = 0) := by show _ = _; unfold fitVal refFit; rw [if_neg (by simp [hg]), if_pos (Or.inr (by rw [hF]; omega))]
        have HR : Hid (fitErr ps len f c = some f) := by show _ = _; unfold fitErr; rw [if_neg (by simp [hg]), if_pos (Or.inr (by rw [hF]; omega))]
        rw [HV.out, HR.out]
        have hne' : (s != len) = true := by rw [bne_iff_ne]; exact hne
        have h6 := E.six
        have hle := E.le
        clear E A hg hf hF hne
        go_enter Tryd.func25, Tryd.ntmps25
        go_wp2_with (first | (go_at_call 36; refine HC.out.mono ?_; rintro e w1 ⟨rfl, hb1⟩) | (go_at_call 37; refine (HS.out _ hb1).mono ?_; rintro e w2 ⟨rfl, hb2⟩))
        have hbw : Below w.heap.size w w2 := hb1.trans (hb2.mono hb1.size)
        have HE2 : Hid (Env N f c w2) := HE.out.here hbw
        have g2 : w2.cell? ⟨0, 0, none⟩ = some (.iface 149 (.pointer (some f))) := HE2.out.gf
        have h02 : 0 < w2.heap.size := by have := hbw.size; omega
        have n2 := World.new_ne w2 _ g2
        go_region_held3 (fun w' => w'.cell? ⟨0, 0, none⟩ = some (.iface 149 (.pointer (some f))))
          (first | assumption | go_keep)
          (first
            | ((go_at_call_of 38 (Value.int IntKind.i64 s); refine (itoa_any (N := N) (f := f) (c := c) s w2.drew (by exact HE2.out.here (Below.refl _ _).drew) (by omega) (by omega)).mono ?_; rintro e w3 ⟨s1, rfl, hs1, hb3'⟩; have hb3 : Below w2.heap.size w2 w3 := (Below.refl _ _).drew.trans hb3'; obtain ⟨s2, hs2, hadd⟩ := addStr ⟨#[102, 105, 116, 32]⟩ s1 4 21 (by decide) hs1 (by omega); obtain ⟨s3, hs3, hadd3⟩ := addStr s2 ⟨#[32, 116, 111, 32]⟩ 25 4 hs2 (by decide) (by omega); have g3 : w3.cell? ⟨0, 0, none⟩ = some (.iface 149 (.pointer (some f))) := (hb3.cell (p := ⟨0, 0, none⟩) h02).trans g2; have n3 := World.new_ne w3 _ g3))
            | ((go_at_call_of 38 (Value.int IntKind.i64 len); refine (itoa_any (N := N) (f := f) (c := c) len w3 (by exact HE2.out.here hb3) hl0 hl1).mono ?_; rintro e w4 ⟨s4, rfl, hs4, hb4⟩; obtain ⟨s5, hs5, hadd5⟩ := addStr s3 s4 29 21 hs3 hs4 (by omega); have g4 : w4.cell? ⟨0, 0, none⟩ = some (.iface 149 (.pointer (some f))) := (hb4.cell (p := ⟨0, 0, none⟩) (Nat.lt_of_lt_of_le h02 hb3.size)).trans g3; have n4 := World.new_ne w4 _ g4)))
        go_wp2
        go_ret2
        refine ⟨.iface 76 (.pointer (some ⟨w4.heap.size, 0, none⟩)), rfl, errIs_new rfl _, ?_⟩
        exact (hbw.trans ((hb3.trans (hb4.mono hb3.size)).mono hbw.size)).alloc (by have := hbw.size; have := hb3.size; have := hb4.size; omega) _
end Go.Proofs.YtdlolnahbgecjaaDoor
namespace Go.Proofs.YtdlolnahbgecjaaDoor
open Go.RowKit
set_option linter.unusedVariables false

theorem fit_num (ps : List Pt) (len : Int) (f c : Addr) (h : f ≠ c) : numOf f c (fitErr ps len f c) = (refFit ps len).2 := by
  unfold fitErr refFit
  split
  · simp [numOf]
  · split
    · simp [numOf, h]
    · simp [numOf]
theorem fitErr_or (ps : List Pt) (len : Int) (f c : Addr) : fitErr ps len f c = none ∨ fitErr ps len f c = some f ∨ fitErr ps len f c = some c := by
  unfold fitErr
  split
  · exact Or.inr (Or.inr rfl)
  · split
    · exact Or.inr (Or.inl rfl)
    · exact Or.inl rfl

set_option maxRecDepth 100000 in
set_option maxHeartbeats 2000000 in
theorem fitF_any {N : Nat} {f c : Addr} (ps : List Pt) (ao : Option Addr) (b off cap : Nat) (len : Int) (w : World) (E : Env N f c w) (A : Arg w ps ao b off) (hl0 : -9223372036854775808 ≤ len) (hl1 : len ≤ 9223372036854775807) :
    Calls Tryd.prog 10 #[.slice ao ps.length cap, .int .i64 len] w fun e w' => e = .returned (.tuple #[.int .i64 (refFit ps len).1, .int .i64 (refFit ps len).2]) ∧ Below w.heap.size w w' := by
  have HF : Hid (Calls Tryd.prog 25 #[.slice ao ps.length cap, .int .i64 len] w fun e w' => ∃ v, e = .returned (.tuple #[.int .i64 (fitVal ps len), v]) ∧ ErrIs w' v (fitErr ps len f c) ∧ Below w.heap.size w w') := fit_any ps ao b off cap len w E A hl0 hl1
  have HN : Hid (numOf f c (fitErr ps len f c) = (refFit ps len).2) := fit_num ps len f c E.ne
  have HE : Hid (Env N f c w) := E
  clear E A
  go_enter Tryd.func10, Tryd.ntmps10
  go_wp2_with (first | (go_at_call 25; refine HF.out.mono ?_; rintro e w1 ⟨v, rfl, hv, hb1⟩; have HV : Hid (ErrIs w1 v (fitErr ps len f c)) := hv; clear hv) | (go_at_call 26; refine (number_any v (fitErr ps len f c) w1 (HE.out.here hb1) (fitErr_or ps len f c) HV.out).mono ?_; rintro e w2 ⟨rfl, rfl⟩))
  go_ret2
  exact ⟨ret_two rfl HN.out, hb1⟩
end Go.Proofs.YtdlolnahbgecjaaDoor
namespace Go.Proofs.YtdlolnahbgecjaaDoor
open Go.RowKit
set_option linter.unusedVariables false

/-- 'ours': a new list, of the same parts -/
theorem ours_arg (ps : List Pt) (ao : Option Addr) (b off cap : Nat) (w : World) (A : Arg w ps ao b off) :
    Calls Tryd.prog 11 #[.slice ao ps.length cap] w fun e w' => ∃ ao' g cap', e = .returned (.slice ao' ps.length cap') ∧ Arg w' ps ao' g 0 ∧ (0 < ps.length → w.heap.size ≤ g) ∧ Owns w' w.heap.size (.slice ao' ps.length cap') ps ∧ Below w.heap.size w w' := by
  refine (ours_any ps ao b off cap w A).mono ?_
  rintro e w1 ⟨v, rfl, ho, hb⟩
  obtain ⟨ao', g, cap', rfl, h1, h2, h3⟩ := ho.form
  exact ⟨ao', g, cap', rfl, ⟨fun h => (h1 h).1, fun h => (h1 h).2.2, h2, A.len, A.text, A.num, A.kind⟩, fun h => (h1 h).2.1, ho, hb⟩

theorem refFit_code (ps : List Pt) (len : Int) : 0 ≤ (refFit ps len).2 ∧ (refFit ps len).2 ≤ 100 := by
  unfold refFit; split
  · simp
  · split <;> simp

set_option maxRecDepth 100000 in
set_option maxHeartbeats 2000000 in
theorem fits_walk {N : Nat} {f c : Addr} (ps : List Pt) (ao : Option Addr) (b off cap : Nat) (len : Int) (w : World) (E : Env N f c w) (A : Arg w ps ao b off) (hl0 : -9223372036854775808 ≤ len) (hl1 : len ≤ 9223372036854775807) :
    Calls Tryd.prog 3 #[.slice ao ps.length cap, .int .i64 len] w fun e w' => e = .returned (.bool true) ∧ Below w.heap.size w w' := by
  have HE : Hid (Env N f c w) := E
  have HA : Hid (Arg w ps ao b off) := A
  have hc := refFit_code ps len
  have HF : Hid (∀ wx ao' g cap', Env N f c wx → Arg wx ps ao' g 0 → Calls Tryd.prog 10 #[.slice ao' ps.length cap', .int .i64 len] wx fun e w' => e = .returned (.tuple #[.int .i64 (refFit ps len).1, .int .i64 (refFit ps len).2]) ∧ Below wx.heap.size wx w') := fun wx ao' g cap' Ex Ax => fitF_any ps ao' g 0 cap' len wx Ex Ax hl0 hl1
  have HR : Hid (∀ wx, Arg wx ps ao b off → Calls Tryd.prog 12 #[.slice ao ps.length cap, .int .i64 len] wx fun e w' => e = .returned (.tuple #[.int .i64 (refFit ps len).1, .int .i64 (refFit ps len).2]) ∧ Below wx.heap.size wx w') := fun wx Ax => refFit_any ps ao b off cap len wx Ax
  generalize (refFit ps len).1 = r1 at *
  generalize (refFit ps len).2 = r2 at *
  have x1 : (r1 == r1) = true := by simp
  clear E A
  go_enter Tryd.func3, Tryd.ntmps3
  go_wp2_with (first | (go_at_call 11; refine (ours_arg ps ao b off cap w HA.out).mono ?_; rintro e w1 ⟨ao', g, cap', rfl, hA1, hg1, ho1, hb1⟩; have HA1 : Hid (Arg w1 ps ao' g 0) := hA1; clear hA1 hg1 ho1) | (go_at_call 10; refine (HF.out w1 ao' g cap' (HE.out.here hb1) HA1.out).mono ?_; rintro e w2 ⟨rfl, hb2⟩; have hbw : Below w.heap.size w w2 := hb1.trans (hb2.mono hb1.size)) | (go_at_call 12; refine (HR.out w2 (HA.out.below hbw HA.out.lt)).mono ?_; rintro e w3 ⟨rfl, hb3⟩) | (go_at_call 13; refine (num_any r2 w3 hc.1 hc.2).mono ?_; rintro e w4 ⟨rfl, rfl⟩))
  go_ret
  exact ⟨rfl, hbw.trans (hb3.mono hbw.size)⟩
end Go.Proofs.YtdlolnahbgecjaaDoor
