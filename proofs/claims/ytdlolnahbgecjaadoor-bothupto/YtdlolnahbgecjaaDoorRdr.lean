import Derived.Test.YtdlolnahbgecjaaDoorBlk
import Derived.Deep.QuietTactic
import Derived.BigQuiet
namespace Go.Proofs.YtdlolnahbgecjaaDoor
open Go.RowKit
set_option linter.unusedVariables false

/-- The reader at block rb. -/
def Rd (w : World) (rb : Nat) (sv : Value) (nx us : Int) : Prop := w.heap[rb]? = some (.cells #[sv, .int .i64 nx, .int .i64 us] 110 (0, 0))
theorem Rd.c0 {w : World} {rb : Nat} {sv : Value} {nx us : Int} (h : Rd w rb sv nx us) : w.cell? ⟨rb, 0, none⟩ = some sv := by rw [cell_of_row w rb 0 _ 110 (0, 0) h]; rfl
theorem Rd.c1 {w : World} {rb : Nat} {sv : Value} {nx us : Int} (h : Rd w rb sv nx us) : w.cell? ⟨rb, 1, none⟩ = some (.int .i64 nx) := by rw [cell_of_row w rb 1 _ 110 (0, 0) h]; rfl
theorem Rd.c2 {w : World} {rb : Nat} {sv : Value} {nx us : Int} (h : Rd w rb sv nx us) : w.cell? ⟨rb, 2, none⟩ = some (.int .i64 us) := by rw [cell_of_row w rb 2 _ 110 (0, 0) h]; rfl
theorem Rd.lt {w : World} {rb : Nat} {sv : Value} {nx us : Int} (h : Rd w rb sv nx us) : rb < w.heap.size := (Array.getElem?_eq_some_iff.1 h).1
theorem Rd.below {w w' : World} {rb : Nat} {sv : Value} {nx us : Int} (h : Rd w rb sv nx us) {B : Nat} (hb : Below B w w') (hB : rb < B) : Rd w' rb sv nx us := (hb.block rb hB).trans h

theorem Tryd.field0 (k n : Int) (t : ByteArray) (w : World) : (Instr.field 61 (.agg #[.int .i64 k, .int .i64 n, .string t]) 0).run Tryd.prog w = .ok (.int .i64 k) w := by kernel_rfl

set_option maxRecDepth 100000 in
set_option maxHeartbeats 1000000 in
theorem at_in (ps : List Pt) (b off cap k : Nat) (w : World) (A : At w b off ps) (hb : b < w.heap.size) (hk : k < ps.length) :
    Calls Tryd.prog 68 #[.slice (some ⟨b, off, none⟩) ps.length cap, .int .i64 k] w fun e w' => e = .returned (.agg #[.int .i64 (nth ps k).k, .int .i64 (nth ps k).n, .string (nth ps k).t]) ∧ Below w.heap.size w w' := by
  obtain ⟨c0, c1, c2⟩ := A k hk
  clear A
  have hne : b ≠ w.heap.size := by omega
  go_enter Tryd.func68, Tryd.ntmps68
  go_wp2
  exact bodyPost_ret (v := .agg #[.int .i64 (nth ps k).k, .int .i64 (nth ps k).n, .string (nth ps k).t]) (by simp [results, Tryd.results68, go_sem]) rfl ⟨rfl, (Below.refl _ _).alloc (Nat.le_refl _) _⟩

set_option maxRecDepth 100000 in
set_option maxHeartbeats 1000000 in
theorem at_out (n : Nat) (ao : Option Addr) (cap k : Nat) (w : World) (hk : n ≤ k) :
    Calls Tryd.prog 68 #[.slice ao n cap, .int .i64 k] w fun e w' => e = .returned (.agg #[.int .i64 0, .int .i64 0, .string ⟨#[]⟩]) ∧ Below w.heap.size w w' := by
  go_enter Tryd.func68, Tryd.ntmps68
  go_wp2
  exact bodyPost_ret (v := .agg #[.int .i64 0, .int .i64 0, .string ⟨#[]⟩]) (by simp [results, Tryd.results68, go_sem]) rfl ⟨rfl, (Below.refl _ _).alloc (Nat.le_refl _) _⟩

set_option maxRecDepth 100000 in
set_option maxHeartbeats 1000000 in
theorem kind_in (ps : List Pt) (b off cap rb k : Nat) (us : Int) (w : World) (A : At w b off ps) (hb : b < w.heap.size) (hk : k < ps.length) (R : Rd w rb (.slice (some ⟨b, off, none⟩) ps.length cap) k us) :
    Calls Tryd.prog 60 #[.pointer (some ⟨rb, 0, none⟩)] w fun e w' => e = .returned (.int .i64 (nth ps k).k) ∧ Below w.heap.size w w' := by
  have c0 := R.c0
  have c1 := R.c1
  have hr := R.lt
  have HA : Hid (At w b off ps) := A
  have hfld := Tryd.field0
  clear R A
  go_enter Tryd.func60, Tryd.ntmps60
  go_wp2
  go_region_held3 (fun w' => w'.cell? ⟨rb, 0, none⟩ = some (.slice (some ⟨b, off, none⟩) ps.length cap) ∧ w'.cell? ⟨rb, 1, none⟩ = some (.int .i64 k))
    (first
      | go_keep
      | (go_split_ands
         refine ⟨?_, ?_⟩
         · (rw [hb1.cell (p := ⟨rb, 0, none⟩) (by simp; omega)]; simp; assumption)
         · (rw [hb1.cell (p := ⟨rb, 1, none⟩) (by simp; omega)]; simp; assumption)))
    ((go_at_call 68; refine (at_in ps b off cap k _ (by exact HA.out) (by exact hb) hk).mono ?_; rintro e w1 ⟨rfl, hb1⟩))
  go_wp2
  go_ret
  exact ⟨rfl, (Below.refl _ _).drew.trans hb1⟩

set_option maxRecDepth 100000 in
set_option maxHeartbeats 1000000 in
theorem kind_out (n : Nat) (ao : Option Addr) (cap rb k : Nat) (us : Int) (w : World) (hk : n ≤ k) (R : Rd w rb (.slice ao n cap) k us) :
    Calls Tryd.prog 60 #[.pointer (some ⟨rb, 0, none⟩)] w fun e w' => e = .returned (.int .i64 0) ∧ Below w.heap.size w w' := by
  have c0 := R.c0
  have c1 := R.c1
  have hr := R.lt
  have hfld := Tryd.field0
  clear R
  go_enter Tryd.func60, Tryd.ntmps60
  go_wp2
  go_region_held3 (fun w' => w'.cell? ⟨rb, 0, none⟩ = some (.slice ao n cap) ∧ w'.cell? ⟨rb, 1, none⟩ = some (.int .i64 k))
    (first
      | go_keep
      | (go_split_ands
         refine ⟨?_, ?_⟩
         · (rw [hb1.cell (p := ⟨rb, 0, none⟩) (by simp; omega)]; simp; assumption)
         · (rw [hb1.cell (p := ⟨rb, 1, none⟩) (by simp; omega)]; simp; assumption)))
    ((go_at_call 68; refine (at_out n ao cap k _ hk).mono ?_; rintro e w1 ⟨rfl, hb1⟩))
  go_wp2
  go_ret
  exact ⟨rfl, (Below.refl _ _).drew.trans hb1⟩

/-- how many bytes a part has -/
def psz (p : Pt) : Int := p.n + p.t.size

set_option maxRecDepth 100000 in
set_option maxHeartbeats 2000000 in
theorem left_in (ps : List Pt) (b off cap rb k : Nat) (us : Int) (w : World) (A : At w b off ps) (hb : b < w.heap.size) (hk : k < ps.length) (R : Rd w rb (.slice (some ⟨b, off, none⟩) ps.length cap) k us)
    (h0 : 0 ≤ us) (h1 : us ≤ psz (nth ps k)) (h2 : psz (nth ps k) ≤ 9223372036854775807) (h3 : 0 ≤ (nth ps k).n) :
    Calls Tryd.prog 70 #[.pointer (some ⟨rb, 0, none⟩)] w fun e w' => e = .returned (.int .i64 (psz (nth ps k) - us)) ∧ Below w.heap.size w w' := by
  have c0 := R.c0
  have c1 := R.c1
  have c2 := R.c2
  have hr := R.lt
  have HA : Hid (At w b off ps) := A
  have n0 := World.new_ne w _ c0
  have n1 := World.new_ne w _ c1
  clear R A
  go_enter Tryd.func70, Tryd.ntmps70
  go_upto_region 1 with fail
  go_cut [3] (fun v wx => ∃ pb, v = .pointer (some ⟨pb, 0, none⟩) ∧ Blk wx pb #[.int .i64 (nth ps k).k, .int .i64 (nth ps k).n, .string (nth ps k).t] 61 ∧ Below w.heap.size w wx)
  case first =>
    go_region_held3 (fun w' => w'.cell? ⟨rb, 0, none⟩ = some (.slice (some ⟨b, off, none⟩) ps.length cap) ∧ w'.cell? ⟨rb, 1, none⟩ = some (.int .i64 k))
      (go_keep)
      (first
        | ((go_at_call 68; refine (at_in ps b off cap k w.drew HA.out hb hk).mono ?_; rintro e w1 ⟨rfl, hb1⟩; have hbw : Below w.heap.size w w1 := (Below.refl _ _).drew.trans hb1; have d0 : w1.cell? ⟨rb, 0, none⟩ = some (.slice (some ⟨b, off, none⟩) ps.length cap) := (hbw.cell (p := ⟨rb, 0, none⟩) hr).trans c0; have d1 : w1.cell? ⟨rb, 1, none⟩ = some (.int .i64 k) := (hbw.cell (p := ⟨rb, 1, none⟩) hr).trans c1; have m0 := World.new_ne w1 _ d0; have m1 := World.new_ne w1 _ d1))
        | ((go_at_call 68; refine (at_in ps b off cap k (w.alloc (.cells #[.int .i64 0, .int .i64 0, .string ⟨#[]⟩] 61)).drew (HA.out.below (((Below.refl w.heap.size _).alloc (Nat.le_refl _) _).drew) (fun _ => hb)) (by simp; omega) hk).mono ?_; rintro e w1 ⟨rfl, hb1⟩; have hbw : Below w.heap.size w w1 := ((Below.refl _ _).alloc (Nat.le_refl _) _).drew.trans (hb1.mono (by simp)); have d0 : w1.cell? ⟨rb, 0, none⟩ = some (.slice (some ⟨b, off, none⟩) ps.length cap) := (hbw.cell (p := ⟨rb, 0, none⟩) hr).trans c0; have d1 : w1.cell? ⟨rb, 1, none⟩ = some (.int .i64 k) := (hbw.cell (p := ⟨rb, 1, none⟩) hr).trans c1; have hp : Hid (Blk w1 w.heap.size #[.int .i64 0, .int .i64 0, .string ⟨#[]⟩] 61) := ((Blk.new w _ 61).drew).here hb1; have e0 := hp.out.cell 0 rfl; have e1 := hp.out.cell 1 rfl; have e2 := hp.out.cell 2 rfl; have f0 := hp.out.free 0; have f1 := hp.out.free 1; have f2 := hp.out.free 2)))
    all_goals go_wp2_with fail
    · go_meet
      case rel => exact ⟨w1.heap.size, rfl, Blk.new w1 _ 61, hbw.alloc hbw.size _⟩
    · go_meet
      case rel => exact ⟨w.heap.size, rfl, ((hp.out.set 0 _).set 1 _).set 2 _, ((hbw.setCell (Nat.le_refl _) _).setCell (Nat.le_refl _) _).setCell (Nat.le_refl _) _⟩
  case rest =>
    obtain ⟨pb, rfl, hp, hbw⟩ := hcut
    have e1 : wc.cell? ⟨pb, 1, none⟩ = some (.int .i64 (nth ps k).n) := hp.cell 1 rfl
    have e2 : wc.cell? ⟨pb, 2, none⟩ = some (.string (nth ps k).t) := hp.cell 2 rfl
    have d2 := (hbw.cell (p := ⟨rb, 2, none⟩) hr).trans c2
    have hpz : psz (nth ps k) = (nth ps k).n + (nth ps k).t.size := rfl
    have HZ : Hid (psz (nth ps k) = (nth ps k).n + (nth ps k).t.size) := hpz
    have h2' : (nth ps k).n + (nth ps k).t.size ≤ 9223372036854775807 := by omega
    have h1' : us ≤ (nth ps k).n + (nth ps k).t.size := by omega
    clear hp hpz h1 h2 c0 c1 c2 n0 n1
    go_wp2
    go_quiet (fail)
    go_wp2
    go_ret
    exact ⟨ret_int (by rw [HZ.out]), below_drewN hbw _⟩
end Go.Proofs.YtdlolnahbgecjaaDoor
