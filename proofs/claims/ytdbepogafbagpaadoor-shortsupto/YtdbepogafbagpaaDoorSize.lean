import Derived.Test.YtdbepogafbagpaaDoorRest
namespace Go.Proofs.YtdbepogafbagpaaDoor
open Go.RowKit
set_option linter.unusedVariables false

/-- the error that 'grow' lays: of one wrap, in a block of its own -/
def SzErr (w : World) (ev : Value) (f : Addr) : Prop := ∃ g s, ev = .iface 76 (.pointer (some ⟨g, 0, none⟩)) ∧ Blk w g #[.string s, .iface 149 (.pointer (some f))] 78
theorem SzErr.errIs {w : World} {ev : Value} {f : Addr} (h : SzErr w ev f) : ErrIs w ev (some f) := by
  obtain ⟨g, s, rfl, hb⟩ := h
  exact ⟨1, g, _, rfl, hb.cell 1 rfl, rfl⟩
theorem SzErr.here {w w' : World} {ev : Value} {f : Addr} (h : SzErr w ev f) (hb : Below w.heap.size w w') : SzErr w' ev f := by
  obtain ⟨g, s, rfl, hg⟩ := h
  exact ⟨g, s, rfl, hg.here hb⟩
theorem SzErr.set {w : World} {ev : Value} {f : Addr} (h : SzErr w ev f) {b : Nat} {cs : Array Value} {t : TypeId} (hb : Blk w b cs t) (ht : 78 ≠ t) (i : Nat) (u : Value) : SzErr (w.setCell ⟨b, i, none⟩ u) ev f := by
  obtain ⟨g, s, rfl, hg⟩ := h
  exact ⟨g, s, rfl, hg.setOther _ _ (hg.ne hb ht)⟩

set_option maxRecDepth 100000 in
set_option maxHeartbeats 1000000 in
theorem grow_ok (sb eb : Nat) (s n most : Int) (w : World) (hs : Blk w sb #[.int .i64 s] 3) (h0 : 0 ≤ s) (h1 : s ≤ most) (h2 : most ≤ 9223372036854775807) (hn0 : 0 ≤ n) (hn : n ≤ most - s) :
    Calls Tryd.prog 51 #[.pointer (some ⟨sb, 0, none⟩), .int .i64 n, .int .i64 most, .pointer (some ⟨eb, 0, none⟩)] w fun e w' => e = .returned (.tuple #[]) ∧ w' = w.setCell ⟨sb, 0, none⟩ (.int .i64 (s + n)) := by
  have c0 : w.cell? ⟨sb, 0, none⟩ = some (.int .i64 s) := hs.cell 0 rfl
  have f0 := hs.free 0
  clear hs
  go_enter Tryd.func51, Tryd.ntmps51
  go_wp2
  go_end0
  exact ⟨rfl, rfl⟩

set_option maxRecDepth 100000 in
set_option maxHeartbeats 1000000 in
theorem grow_err {N : Nat} {f c : Addr} (sb eb : Nat) (ev : Value) (s n most : Int) (w : World) (E : Env N f c w) (hN : N ≤ eb) (hs : Blk w sb #[.int .i64 s] 3) (he : Blk w eb #[ev] 55) (h0 : 0 ≤ s) (h1 : s ≤ most) (h2 : most ≤ 9223372036854775807) (hn : most - s < n) :
    Calls Tryd.prog 51 #[.pointer (some ⟨sb, 0, none⟩), .int .i64 n, .int .i64 most, .pointer (some ⟨eb, 0, none⟩)] w fun e w' => e = .returned (.tuple #[]) ∧ ∃ ev', Blk w' eb #[ev'] 55 ∧ SzErr w' ev' f ∧ Only eb w w' := by
  have c0 : w.cell? ⟨sb, 0, none⟩ = some (.int .i64 s) := hs.cell 0 rfl
  have gf := E.gf
  have hN6 := E.six
  have hle := E.le
  have hlt := he.lt
  have HE : Hid (Env N f c w) := E
  have HB : Hid (Blk w eb #[ev] 55) := he
  have e0 : eb ≠ 0 := by omega
  have e0' : 0 ≠ eb := by omega
  clear E hs he
  go_enter Tryd.func51, Tryd.ntmps51
  go_wp2
  go_region_held3 (fun w' => w'.cell? ⟨0, 0, none⟩ = some (.iface 149 (.pointer (some f))))
    (first
      | go_keep
      | assumption
      | exact (hbw.cell (p := ⟨0, 0, none⟩) (show 0 < w.heap.size by omega)).trans gf)
    ((go_at_call 38; refine (itoa_any (N := N) (f := f) (c := c) most w.drew (by exact HE.out.here (Below.refl _ _).drew) (by omega) (by omega)).mono ?_; rintro e w1 ⟨s1, rfl, hs1, hb1⟩; have hbw : Below w.heap.size w w1 := (Below.refl _ _).drew.trans hb1; obtain ⟨s2, hs2, hadd⟩ := addStr ⟨#[109, 111, 114, 101, 32, 116, 104, 97, 110, 32]⟩ s1 10 21 (by decide) hs1 (by omega); obtain ⟨s3, hs3, hadd3⟩ := addStr s2 ⟨#[32, 98, 121, 116, 101, 115]⟩ 31 6 hs2 (by decide) (by omega); have g1 : w1.cell? ⟨0, 0, none⟩ = some (.iface 149 (.pointer (some f))) := (hbw.cell (p := ⟨0, 0, none⟩) (show 0 < w.heap.size by omega)).trans gf; have HB1 : Hid (Blk w1 eb #[ev] 55) := HB.out.here hbw; have ce : ∀ o, (w1.alloc o).cell? ⟨eb, 0, none⟩ = some ev := fun o => (HB1.out.alloc o).cell 0 rfl; have fe : ∀ o, (w1.alloc o).frozen? ⟨eb, 0, none⟩ = false := fun o => (HB1.out.alloc o).free 0))
  go_wp2
  refine bodyPost_ret (v := .tuple #[]) (by simp [results, Tryd.results51, go_sem]) rfl ⟨rfl, _, (HB1.out.alloc _).set 0 _, ⟨w1.heap.size, s3, rfl, (Blk.new w1 _ 78).setOther _ _ (by show w1.heap.size ≠ eb; have := HB1.out.lt; omega)⟩, ?_⟩
  exact (Only.of_below (hbw.alloc hbw.size _)).setRow 0 _
end Go.Proofs.YtdbepogafbagpaaDoor
