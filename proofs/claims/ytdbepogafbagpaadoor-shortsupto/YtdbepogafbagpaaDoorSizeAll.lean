import Derived.Test.YtdbepogafbagpaaDoorEach
import Derived.Laws.EntriesVeiled
namespace Go.Proofs.YtdbepogafbagpaaDoor
open Go.RowKit
set_option linter.unusedVariables false

set_option maxRecDepth 100000 in
set_option maxHeartbeats 2000000 in
theorem each_zero (n : Nat) (ao : Option Addr) (cap rb : Nat) (fv : Value) (w : World) (hn : n = 0) (R : Rd w rb (.slice ao n cap) 0 0) :
    Calls Tryd.prog 43 #[.pointer (some ⟨rb, 0, none⟩), fv] w fun e w' => e = .returned (.tuple #[]) ∧ Below w.heap.size w w' := by
  have HR : Hid (Rd w rb (.slice ao n cap) ((0 : Nat) : Int) 0) := R
  have HN : Hid (n ≤ 0) := by show _ ≤ _; omega
  clear R hn
  go_enter Tryd.func43, Tryd.ntmps43
  go_wp2
  refine wp_loop_rounds 1 ?_
  rw [rounds_succ]
  go_wp2_with (go_at_call 60; refine (kind_out n ao cap rb 0 0 w HN.out HR.out).mono ?_; rintro e w1 ⟨rfl, hb1⟩)
  go_end0
  exact ⟨rfl, hb1⟩

theorem eachSize_any {N : Nat} {f c : Addr} (ob mb eb gb rb b off cap : Nat) (ao : Option Addr) (ps : List Pt) (L : Lst ps) (w : World) (ov mk : Int) (ev : Value) (E : Env N f c w) (S : SzB N ob mb eb gb w ov mk ev) (T : SzSt f ps 0 w ov mk ev) (hoN : N ≤ ob) (hmN : N ≤ mb) (hrN : N ≤ rb)
    (hao : 0 < ps.length → ao = some ⟨b, off, none⟩) (A : At w b off ps) (hb : 0 < ps.length → b < w.heap.size ∧ b ≠ ob ∧ b ≠ mb ∧ b ≠ eb ∧ b ≠ rb) (R : Rd w rb (.slice ao ps.length cap) 0 0) :
    Calls Tryd.prog 43 #[.pointer (some ⟨rb, 0, none⟩), .func (.func 52) #[] #[.pointer (some ⟨gb, 0, none⟩), .pointer (some ⟨mb, 0, none⟩), .pointer (some ⟨ob, 0, none⟩)]] w fun e w' => e = .returned (.tuple #[]) ∧ ∃ ov' mk' ev', SzB N ob mb eb gb w' ov' mk' ev' ∧ SzSt f ps ps.length w' ov' mk' ev' ∧ Wr (fun x => x = ob ∨ x = mb ∨ x = eb ∨ x = rb) w w' := by
  rcases Nat.eq_zero_or_pos ps.length with hz | hz
  · refine (each_zero ps.length ao cap rb _ w hz R).mono ?_
    rintro e w1 ⟨rfl, hb1⟩
    refine ⟨rfl, ov, mk, ev, S.here hb1, ?_, Wr.here hb1⟩
    rw [hz]
    exact T.elim Or.inl (fun h => Or.inr ⟨h.1.here hb1, h.2⟩)
  · obtain rfl := hao hz
    obtain ⟨h1, h2, h3, h4, h5⟩ := hb hz
    exact eachSize_pos ob mb eb gb rb b off cap ps L w ov mk ev E S T hoN hmN hrN A h1 h2 h3 h4 h5 R

set_option maxRecDepth 100000 in
set_option maxHeartbeats 400000 in
theorem read_any (ao : Option Addr) (n cap : Nat) (w : World) :
    Calls Tryd.prog 42 #[.slice ao n cap] w fun e w' => e = .returned (.pointer (some ⟨w.heap.size, 0, none⟩)) ∧ w.alloc (.cells #[.slice ao n cap, .int .i64 0, .int .i64 0] 110) = w' := by
  go_enter Tryd.func42, Tryd.ntmps42
  go_wp2
  go_ret
  exact ⟨rfl, rfl⟩

theorem Blk.new' {w : World} {n : Nat} (cs : Array Value) (t : TypeId) (h : w.heap.size = n) : Blk (w.alloc (.cells cs t)) n cs t := by subst h; exact Blk.new w cs t

theorem size_start (N : Nat) (w : World) (sv : Value) (hN : N ≤ w.heap.size) :
    SzB N w.heap.size (w.heap.size + 1) (w.heap.size + 1 + 1) (w.heap.size + 1 + 1 + 1) (((((w.alloc (.cells #[.int .i64 0] 3)).alloc (.cells #[.int .i64 0] 3)).alloc (.cells #[.nilIface] 55)).alloc (.cells #[.func (.func 51) #[] #[.pointer (some ⟨w.heap.size + 1 + 1, 0, none⟩)]] 101)).alloc (.cells #[sv, .int .i64 0, .int .i64 0] 110)) 0 0 .nilIface ∧
    Rd (((((w.alloc (.cells #[.int .i64 0] 3)).alloc (.cells #[.int .i64 0] 3)).alloc (.cells #[.nilIface] 55)).alloc (.cells #[.func (.func 51) #[] #[.pointer (some ⟨w.heap.size + 1 + 1, 0, none⟩)]] 101)).alloc (.cells #[sv, .int .i64 0, .int .i64 0] 110)) (w.heap.size + 1 + 1 + 1 + 1) sv 0 0 ∧
    Below w.heap.size w (((((w.alloc (.cells #[.int .i64 0] 3)).alloc (.cells #[.int .i64 0] 3)).alloc (.cells #[.nilIface] 55)).alloc (.cells #[.func (.func 51) #[] #[.pointer (some ⟨w.heap.size + 1 + 1, 0, none⟩)]] 101)).alloc (.cells #[sv, .int .i64 0, .int .i64 0] 110)) := by
  refine ⟨⟨?_, ?_, ?_, ?_, by omega, by omega, by omega, by omega, by omega, by omega⟩, ?_, ?_⟩
  · exact ((((Blk.new w _ 3).alloc _).alloc _).alloc _).alloc _
  · exact (((Blk.new' _ 3 (by simp)).alloc _).alloc _).alloc _
  · exact ((Blk.new' _ 55 (by simp)).alloc _).alloc _
  · exact (Blk.new' _ 101 (by simp)).alloc _
  · exact Blk.new' _ 110 (by simp)
  · exact (((((Below.refl _ _).alloc (by simp) _).alloc (by simp) _).alloc (by simp; omega) _).alloc (by simp; omega) _).alloc (by simp; omega) _

set_option maxRecDepth 100000 in
set_option maxHeartbeats 2000000 in
theorem size_any {N : Nat} {f c : Addr} (ps : List Pt) (ao : Option Addr) (b off cap : Nat) (w : World) (E : Env N f c w) (L : Lst ps) (hao : 0 < ps.length → ao = some ⟨b, off, none⟩) (A : At w b off ps) (hb : 0 < ps.length → b < w.heap.size) :
    Calls Tryd.prog 37 #[.slice ao ps.length cap] w fun e w' => ∃ o m v, e = .returned (.tuple #[.int .i64 o, .int .i64 m, v]) ∧ ((fromTo ps ps.length = some o ∧ m = madeTo ps ps.length ∧ v = .nilIface) ∨ (fromTo ps ps.length = none ∧ o = 0 ∧ m = 0 ∧ ErrIs w' v (some f))) ∧ Below w.heap.size w w' := by
  have hN := E.le
  have HE : Hid (Env N f c w) := E
  have HA : Hid (At w b off ps) := A
  have HAO : Hid (0 < ps.length → ao = some ⟨b, off, none⟩) := hao
  have HB : Hid (0 < ps.length → b < w.heap.size) := hb
  clear E A hao hb
  go_enter Tryd.func37, Tryd.ntmps37
  go_wp2_with fail
  refine (read_any ao ps.length cap _).mono ?_
  rintro e w' ⟨rfl, rfl⟩
  go_wp2_with fail
  obtain ⟨S0, R0, B0⟩ := size_start N w (.slice ao ps.length cap) hN
  refine (eachSize_any w.heap.size (w.heap.size + 1) (w.heap.size + 1 + 1) (w.heap.size + 1 + 1 + 1) (w.heap.size + 1 + 1 + 1 + 1) b off cap ao ps L _ 0 0 .nilIface (HE.out.here B0) S0 (Or.inl ⟨rfl, rfl, rfl⟩) hN (by omega) (by omega) HAO.out (HA.out.below B0 HB.out) (fun h => by have h1 := HB.out h; have h2 := B0.size; exact ⟨by omega, by omega, by omega, by omega, by omega⟩) R0).mono ?_
  rintro e w2 ⟨rfl, ov, mk, ev, S2, T2, W2⟩
  have HB2 : Hid (Below w.heap.size w w2) := B0.trans (W2.below (fun x hx h => by omega) B0.size)
  have HS2 : Hid (SzB N w.heap.size (w.heap.size + 1) (w.heap.size + 1 + 1) (w.heap.size + 1 + 1 + 1) w2 ov mk ev) := S2
  clear S0 R0 B0 W2 S2
  have co : w2.cell? ⟨w.heap.size, 0, none⟩ = some (.int .i64 ov) := HS2.out.o.cell 0 rfl
  have cm : w2.cell? ⟨w.heap.size + 1, 0, none⟩ = some (.int .i64 mk) := HS2.out.m.cell 0 rfl
  have ce : w2.cell? ⟨w.heap.size + 1 + 1, 0, none⟩ = some ev := HS2.out.e.cell 0 rfl
  have fo := HS2.out.o.free 0
  have fm := HS2.out.m.free 0
  have fe := HS2.out.e.free 0
  rcases T2 with ⟨rfl, hf, hm⟩ | ⟨he, hf⟩
  · have HF : Hid (fromTo ps ps.length = some ov ∧ mk = madeTo ps ps.length) := ⟨hf, hm⟩
    clear hf hm
    go_wp2
    refine bodyPost_ret (v := .tuple #[.int .i64 ov, .int .i64 mk, .nilIface]) (by simp [results, Tryd.results37, go_sem, co, cm, ce]) rfl ⟨ov, mk, .nilIface, rfl, Or.inl ⟨HF.out.1, HF.out.2, rfl⟩, ?_⟩
    exact ((HB2.out.setCell (Nat.le_refl _) _).setCell (show w.heap.size ≤ w.heap.size + 1 by omega) _).setCell (show w.heap.size ≤ w.heap.size + 1 + 1 by omega) _
  · obtain ⟨g, s, rfl, hg⟩ := he
    have HF : Hid (fromTo ps ps.length = none ∧ SzErr w2 (.iface 76 (.pointer (some ⟨g, 0, none⟩))) f) := ⟨hf, g, s, rfl, hg⟩
    clear hf hg
    go_wp2
    go_region
    go_wp2
    refine bodyPost_ret (v := .tuple #[.int .i64 0, .int .i64 0, .iface 76 (.pointer (some ⟨g, 0, none⟩))]) (by simp [results, Tryd.results37, go_sem, co, cm, ce]) rfl ⟨0, 0, .iface 76 (.pointer (some ⟨g, 0, none⟩)), rfl, Or.inr ⟨HF.out.1, rfl, rfl, ?_⟩, ?_⟩
    · have h1 := HF.out.2.set HS2.out.o (by decide) 0 (.int .i64 0)
      have h2 := h1.set (HS2.out.m.setOther ⟨w.heap.size, 0, none⟩ (.int .i64 0) (by show w.heap.size + 1 ≠ w.heap.size; omega)) (by decide) 0 (.int .i64 0)
      have h3 := h2.set ((HS2.out.e.setOther ⟨w.heap.size, 0, none⟩ (.int .i64 0) (by show w.heap.size + 1 + 1 ≠ w.heap.size; omega)).setOther ⟨w.heap.size + 1, 0, none⟩ (.int .i64 0) (by show w.heap.size + 1 + 1 ≠ w.heap.size + 1; omega)) (by decide) 0 (.iface 76 (.pointer (some ⟨g, 0, none⟩)))
      exact (h3.here ((Below.refl _ _).drew)).errIs
    · exact (((HB2.out.setCell (Nat.le_refl _) _).setCell (show w.heap.size ≤ w.heap.size + 1 by omega) _).setCell (show w.heap.size ≤ w.heap.size + 1 + 1 by omega) _).drew
end Go.Proofs.YtdbepogafbagpaaDoor
