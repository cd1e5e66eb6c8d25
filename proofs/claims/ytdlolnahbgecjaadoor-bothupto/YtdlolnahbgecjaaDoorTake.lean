import Derived.Test.YtdlolnahbgecjaaDoorRdr
namespace Go.Proofs.YtdlolnahbgecjaaDoor
open Go.RowKit
set_option linter.unusedVariables false

theorem Only.setNew {rb : Nat} {w w1 : World} (h : Only rb w w1) {b : Nat} (hb : w.heap.size ≤ b) (i : Nat) (u : Value) : Only rb w (w1.setCell ⟨b, i, none⟩ u) :=
  ⟨h.os, h.tape, h.output, by have := h.size; simpa [World.setCell] using this, fun k hk hne => (Below.heap_setCell _ _ _ _ (by show k ≠ b; omega)).trans (h.block k hk hne)⟩
theorem Only.setRow {rb : Nat} {w w1 : World} (h : Only rb w w1) (i : Nat) (u : Value) : Only rb w (w1.setCell ⟨rb, i, none⟩ u) := h.trans (Only.set i u)
/-- where a reader stands that has handed out m bytes more, of L that were left of the part -/
def RdAfter (w : World) (rb : Nat) (sv : Value) (k us : Nat) (m L : Int) : Prop := if m = L then Rd w rb sv (k + 1 : Nat) 0 else Rd w rb sv k ((us : Int) + m)
theorem rdAfter_full {w : World} {rb : Nat} {sv : Value} {k us : Nat} {m L : Int} (h : m = L) (hr : Rd w rb sv ((k : Int) + 1) 0) : RdAfter w rb sv k us m L := by unfold RdAfter; rw [if_pos h]; exact hr
theorem rdAfter_part {w : World} {rb : Nat} {sv : Value} {k us : Nat} {m L : Int} (h : m ≠ L) (hr : Rd w rb sv k ((us : Int) + m)) : RdAfter w rb sv k us m L := by unfold RdAfter; rw [if_neg h]; exact hr

set_option maxRecDepth 100000 in
set_option maxHeartbeats 4000000 in
theorem take_num (ps : List Pt) (b off cap rb k us n m : Nat) (w : World) (A : At w b off ps) (hb : b < w.heap.size) (hk : k < ps.length) (hlen : ps.length ≤ 1048576) (R : Rd w rb (.slice (some ⟨b, off, none⟩) ps.length cap) k us)
    (hbr : b ≠ rb) (hk2 : ((nth ps k).k == 2) = false) (h1 : (us : Int) + m ≤ psz (nth ps k)) (h2 : psz (nth ps k) ≤ 9223372036854775807) (h3 : 0 ≤ (nth ps k).n) (hm : min (n : Int) (psz (nth ps k) - us) = m) :
    Calls Tryd.prog 69 #[.pointer (some ⟨rb, 0, none⟩), .int .i64 n] w fun e w' => e = .returned (.agg #[.int .i64 (nth ps k).k, .int .i64 m, .string (nth ps k).t]) ∧ Only rb w w' ∧
      RdAfter w' rb (.slice (some ⟨b, off, none⟩) ps.length cap) k us m (psz (nth ps k) - us) := by
  have c0 := R.c0
  have c1 := R.c1
  have hr := R.lt
  have HA : Hid (At w b off ps) := A
  have HR : Hid (Rd w rb (.slice (some ⟨b, off, none⟩) ps.length cap) k us) := R
  have n0 := World.new_ne w _ c0
  have n1 := World.new_ne w _ c1
  clear R A
  go_enter Tryd.func69, Tryd.ntmps69
  go_upto_region 1 with fail
  go_cut [5] (fun v wx => ∃ pb, v = .pointer (some ⟨pb, 0, none⟩) ∧ w.heap.size + 1 ≤ pb ∧ Blk wx pb #[.int .i64 (nth ps k).k, .int .i64 (nth ps k).n, .string (nth ps k).t] 61 ∧ Blk wx w.heap.size #[.int .i64 0, .int .i64 0, .string ⟨#[]⟩] 61 ∧ Below w.heap.size w wx)
  case first =>
    have g0 : ∃ w0, w.alloc (.cells #[.int .i64 0, .int .i64 0, .string ⟨#[]⟩] 61) = w0 ∧ w0.cell? ⟨rb, 0, none⟩ = some (.slice (some ⟨b, off, none⟩) ps.length cap) ∧ w0.cell? ⟨rb, 1, none⟩ = some (.int .i64 k) ∧ At w0 b off ps ∧ b < w0.heap.size ∧ rb < w0.heap.size ∧ w0.heap.size = w.heap.size + 1 ∧ Blk w0 w.heap.size #[.int .i64 0, .int .i64 0, .string ⟨#[]⟩] 61 ∧ Below w.heap.size w w0 := by
      have hbl := (Below.refl w.heap.size w).alloc (Nat.le_refl _) (.cells #[.int .i64 0, .int .i64 0, .string ⟨#[]⟩] 61)
      exact ⟨_, rfl, (hbl.cell (p := ⟨rb, 0, none⟩) hr).trans c0, (hbl.cell (p := ⟨rb, 1, none⟩) hr).trans c1, HA.out.below hbl (fun _ => hb), by simp; omega, by simp; omega, by simp, Blk.new w _ 61, hbl⟩
    obtain ⟨w0, hw0, a0, a1, hA0, hb0, hr0, hs0, hZ, hbl0⟩ := g0
    rw [hw0]
    clear hw0 c0 c1 n0 n1
    have HA0 : Hid (At w0 b off ps) := hA0
    have HZ : Hid (Blk w0 w.heap.size #[.int .i64 0, .int .i64 0, .string ⟨#[]⟩] 61) := hZ
    have HS : Hid (w0.heap.size = w.heap.size + 1) := hs0
    have n0 := World.new_ne w0 _ a0
    have n1 := World.new_ne w0 _ a1
    clear hA0 hZ hs0
    go_region_held3 (fun w' => w'.cell? ⟨rb, 0, none⟩ = some (.slice (some ⟨b, off, none⟩) ps.length cap) ∧ w'.cell? ⟨rb, 1, none⟩ = some (.int .i64 k))
      (go_keep)
      (first
        | ((go_at_call 68; refine (at_in ps b off cap k w0.drew HA0.out hb0 hk).mono ?_; rintro e w1 ⟨rfl, hb1⟩; have hbw : Below w0.heap.size w0 w1 := (Below.refl _ _).drew.trans hb1; have d0 : w1.cell? ⟨rb, 0, none⟩ = some (.slice (some ⟨b, off, none⟩) ps.length cap) := (hbw.cell (p := ⟨rb, 0, none⟩) hr0).trans a0; have d1 : w1.cell? ⟨rb, 1, none⟩ = some (.int .i64 k) := (hbw.cell (p := ⟨rb, 1, none⟩) hr0).trans a1; have m0 := World.new_ne w1 _ d0; have m1 := World.new_ne w1 _ d1))
        | ((go_at_call 68; refine (at_in ps b off cap k (w0.alloc (.cells #[.int .i64 0, .int .i64 0, .string ⟨#[]⟩] 61)).drew (HA0.out.below (((Below.refl w0.heap.size _).alloc (Nat.le_refl _) _).drew) (fun _ => hb0)) (by simp; omega) hk).mono ?_; rintro e w1 ⟨rfl, hb1⟩; have hbw : Below w0.heap.size w0 w1 := ((Below.refl _ _).alloc (Nat.le_refl _) _).drew.trans (hb1.mono (by simp)); have d0 : w1.cell? ⟨rb, 0, none⟩ = some (.slice (some ⟨b, off, none⟩) ps.length cap) := (hbw.cell (p := ⟨rb, 0, none⟩) hr0).trans a0; have d1 : w1.cell? ⟨rb, 1, none⟩ = some (.int .i64 k) := (hbw.cell (p := ⟨rb, 1, none⟩) hr0).trans a1; have hp : Hid (Blk w1 w0.heap.size #[.int .i64 0, .int .i64 0, .string ⟨#[]⟩] 61) := ((Blk.new w0 _ 61).drew).here hb1; have e0 := hp.out.cell 0 rfl; have e1 := hp.out.cell 1 rfl; have e2 := hp.out.cell 2 rfl; have f0 := hp.out.free 0; have f1 := hp.out.free 1; have f2 := hp.out.free 2)))
    all_goals go_wp2_with fail
    · go_meet
      case rel =>
        have h1 := hbw.size
        have h2 := HS.out
        exact ⟨w1.heap.size, rfl, by omega, Blk.new w1 _ 61, (HZ.out.here hbw).alloc _, (hbl0.trans (hbw.mono (by omega))).alloc (by omega) _⟩
    · go_meet
      case rel =>
        have h1 := hbw.size
        have h2 := HS.out
        have hne : w.heap.size ≠ w0.heap.size := by omega
        exact ⟨w0.heap.size, rfl, by omega, ((hp.out.set 0 _).set 1 _).set 2 _, (((HZ.out.here hbw).setOther _ _ hne).setOther _ _ hne).setOther _ _ hne, (((hbl0.trans (hbw.mono (by omega))).setCell (show w.heap.size ≤ w0.heap.size by omega) _).setCell (show w.heap.size ≤ w0.heap.size by omega) _).setCell (show w.heap.size ≤ w0.heap.size by omega) _⟩
  case rest =>
    obtain ⟨pb, rfl, hpb, hp, hZ, hbw⟩ := hcut
    have HP : Hid (Blk wc pb #[.int .i64 (nth ps k).k, .int .i64 (nth ps k).n, .string (nth ps k).t] 61) := hp
    have HZ : Hid (Blk wc w.heap.size #[.int .i64 0, .int .i64 0, .string ⟨#[]⟩] 61) := hZ
    have HRc : Hid (Rd wc rb (.slice (some ⟨b, off, none⟩) ps.length cap) k us) := HR.out.below hbw hr
    have HAc : Hid (At wc b off ps) := HA.out.below hbw (fun _ => hb)
    have hbc : b < wc.heap.size := Nat.lt_of_lt_of_le hb hbw.size
    have x1 : (pb == rb) = false := by simp; omega
    have x2 : (pb == w.heap.size) = false := by simp; omega
    have x3 : (w.heap.size == rb) = false := by simp; omega
    have y1 : pb ≠ rb := by omega
    have y2 : pb ≠ w.heap.size := by omega
    have y3 : w.heap.size ≠ rb := by omega
    have y1' : rb ≠ pb := by omega
    have y2' : w.heap.size ≠ pb := by omega
    have y3' : rb ≠ w.heap.size := by omega
    clear hp hZ c0 c1 n0 n1
    by_cases hfull : (m : Int) = psz (nth ps k) - us
    · have hfb : ((m : Int) == psz (nth ps k) - us) = true := by simp [hfull]
      have HF : Hid ((m : Int) = psz (nth ps k) - us) := hfull
      clear hfull
      go_wp2_with (go_at_call 70; refine (left_in ps b off cap rb k us wc HAc.out hbc hk HRc.out (by omega) (by omega) h2 h3).mono ?_; rintro e w2 ⟨rfl, hb2⟩; have hP2 : Hid (Blk w2 pb #[.int .i64 (nth ps k).k, .int .i64 (nth ps k).n, .string (nth ps k).t] 61) := HP.out.here hb2; have hZ2 : Hid (Blk w2 w.heap.size #[.int .i64 0, .int .i64 0, .string ⟨#[]⟩] 61) := HZ.out.here hb2; have hR2 : Hid (Blk w2 rb #[.slice (some ⟨b, off, none⟩) ps.length cap, .int .i64 k, .int .i64 us] 110) := Blk.here HRc.out hb2; have p0 : w2.cell? ⟨pb, 0, none⟩ = some (.int .i64 (nth ps k).k) := hP2.out.cell 0 rfl; have p1 : w2.cell? ⟨pb, 1, none⟩ = some (.int .i64 (nth ps k).n) := hP2.out.cell 1 rfl; have p2 : w2.cell? ⟨pb, 2, none⟩ = some (.string (nth ps k).t) := hP2.out.cell 2 rfl; have q1 : w2.cell? ⟨rb, 1, none⟩ = some (.int .i64 k) := hR2.out.cell 1 rfl; have q2 : w2.cell? ⟨rb, 2, none⟩ = some (.int .i64 us) := hR2.out.cell 2 rfl; have z0 : w2.cell? ⟨w.heap.size, 0, none⟩ = some (.int .i64 0) := hZ2.out.cell 0 rfl; have z1 : w2.cell? ⟨w.heap.size, 1, none⟩ = some (.int .i64 0) := hZ2.out.cell 1 rfl; have z2 : w2.cell? ⟨w.heap.size, 2, none⟩ = some (.string ⟨#[]⟩) := hZ2.out.cell 2 rfl; have fp := hP2.out.free; have fr := hR2.out.free; have fz := hZ2.out.free)
      have hO : Hid (Only rb w w2) := Only.trans (Only.of_below hbw) (Only.of_below hb2)
      have HL : Hid (w.heap.size ≤ pb) := by show _ ≤ _; omega
      refine bodyPost_ret (v := .agg #[.int .i64 (nth ps k).k, .int .i64 m, .string (nth ps k).t]) (by simp [results, Tryd.results69, go_sem, z0, z1, z2]) rfl ⟨rfl, ?_, rdAfter_full HF.out ?_⟩
      · exact ((((((hO.out.setNew HL.out 1 _).setRow 2 _).setRow 1 _).setRow 2 _).setNew (Nat.le_refl _) 0 _).setNew (Nat.le_refl _) 1 _).setNew (Nat.le_refl _) 2 _
      · exact ((((((hR2.out.setOther _ _ y1').set 2 _).set 1 _).set 2 _).setOther _ _ y3').setOther _ _ y3').setOther _ _ y3'
    · have hfb : ((m : Int) == psz (nth ps k) - us) = false := by simp [hfull]
      have HF : Hid ((m : Int) ≠ psz (nth ps k) - us) := hfull
      clear hfull
      go_wp2_with (go_at_call 70; refine (left_in ps b off cap rb k us wc HAc.out hbc hk HRc.out (by omega) (by omega) h2 h3).mono ?_; rintro e w2 ⟨rfl, hb2⟩; have hP2 : Hid (Blk w2 pb #[.int .i64 (nth ps k).k, .int .i64 (nth ps k).n, .string (nth ps k).t] 61) := HP.out.here hb2; have hZ2 : Hid (Blk w2 w.heap.size #[.int .i64 0, .int .i64 0, .string ⟨#[]⟩] 61) := HZ.out.here hb2; have hR2 : Hid (Blk w2 rb #[.slice (some ⟨b, off, none⟩) ps.length cap, .int .i64 k, .int .i64 us] 110) := Blk.here HRc.out hb2; have p0 : w2.cell? ⟨pb, 0, none⟩ = some (.int .i64 (nth ps k).k) := hP2.out.cell 0 rfl; have p1 : w2.cell? ⟨pb, 1, none⟩ = some (.int .i64 (nth ps k).n) := hP2.out.cell 1 rfl; have p2 : w2.cell? ⟨pb, 2, none⟩ = some (.string (nth ps k).t) := hP2.out.cell 2 rfl; have q1 : w2.cell? ⟨rb, 1, none⟩ = some (.int .i64 k) := hR2.out.cell 1 rfl; have q2 : w2.cell? ⟨rb, 2, none⟩ = some (.int .i64 us) := hR2.out.cell 2 rfl; have z0 : w2.cell? ⟨w.heap.size, 0, none⟩ = some (.int .i64 0) := hZ2.out.cell 0 rfl; have z1 : w2.cell? ⟨w.heap.size, 1, none⟩ = some (.int .i64 0) := hZ2.out.cell 1 rfl; have z2 : w2.cell? ⟨w.heap.size, 2, none⟩ = some (.string ⟨#[]⟩) := hZ2.out.cell 2 rfl; have fp := hP2.out.free; have fr := hR2.out.free; have fz := hZ2.out.free)
      have hO : Hid (Only rb w w2) := Only.trans (Only.of_below hbw) (Only.of_below hb2)
      have HL : Hid (w.heap.size ≤ pb) := by show _ ≤ _; omega
      refine bodyPost_ret (v := .agg #[.int .i64 (nth ps k).k, .int .i64 m, .string (nth ps k).t]) (by simp [results, Tryd.results69, go_sem, z0, z1, z2]) rfl ⟨rfl, ?_, rdAfter_part HF.out ?_⟩
      · exact ((((hO.out.setNew HL.out 1 _).setRow 2 _).setNew (Nat.le_refl _) 0 _).setNew (Nat.le_refl _) 1 _).setNew (Nat.le_refl _) 2 _
      · exact ((((hR2.out.setOther _ _ y1').set 2 _).setOther _ _ y3').setOther _ _ y3').setOther _ _ y3'
end Go.Proofs.YtdlolnahbgecjaaDoor
