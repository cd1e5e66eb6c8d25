import Derived.Test.YtdlolnahbgecjaaDoorSame
import Derived.Test.YtdlolnahbgecjaaDoorFitsWalk
namespace Go.Proofs.YtdlolnahbgecjaaDoor
open Go.RowKit
set_option linter.unusedVariables false

theorem Own.form {w : World} {base : Nat} {v : Value} {ps : List Pt} (h : Own w base v ps) : ∃ ao g cap, v = .slice ao ps.length cap ∧ (0 < ps.length → ao = some ⟨g, 0, none⟩ ∧ g < w.heap.size) ∧ At w g 0 ps := by
  rcases Nat.eq_zero_or_pos ps.length with hz | hz
  · obtain ⟨ao, cap, hv⟩ := own_slice60 h
    exact ⟨ao, 0, cap, hv, fun h => by omega, fun i hi => by omega⟩
  · obtain ⟨g, cap, hv, hb, hg, hc, _⟩ := own_cells60 h hz
    exact ⟨_, g, cap, hv, fun _ => ⟨rfl, hg⟩, fun i hi => by simpa using hc i hi⟩
theorem shortOut_len {w : World} {ps : List Pt} {ao : Option Addr} {b off : Nat} (A : Arg w ps ao b off) : (shortOut ps).length ≤ 100000000 := by
  have hl := A.len
  unfold shortOut
  split
  · rename_i h
    unfold shortCode at h
    split at h
    · simp at h
    · rename_i hg
      have hg : Good ps = true := by simpa using hg
      split at h
      · simp at h
      · rename_i hf
        cases e : fromTo ps ps.length with
        | none => simp [From, e] at hf
        | some s =>
          have := (shTo_ok hg ps.length (Nat.le_refl _) s e).len
          rw [shTo_all] at this; omega
  · simp
theorem shortCode_bd (ps : List Pt) : 0 ≤ shortCode ps ∧ shortCode ps ≤ 100 := by unfold shortCode; split <;> (try split) <;> omega
theorem spoil_below {w w' : World} {base B n : Nat} {v : Value} {xs : List Value} (h : w.ownsRow base 61 3 v n xs) (hw : Wr (fun k => some k = v.ownBlock) w w') (hB : B ≤ base) (hs : B ≤ w.heap.size) : Below B w w' :=
  hw.below (fun k hk e => by have := ownsRow_block h k e.symm; omega) hs

set_option maxRecDepth 100000 in
set_option maxHeartbeats 2000000 in
theorem shorts_walk {N : Nat} {f c : Addr} (ps : List Pt) (ao : Option Addr) (b off cap : Nat) (w : World) (E : Env N f c w) (A : Arg w ps ao b off) :
    Calls Tryd.prog 4 #[.slice ao ps.length cap] w fun e w' => e = .returned (.bool true) ∧ Below w.heap.size w w' := by
  have HE : Hid (Env N f c w) := E
  have HA : Hid (Arg w ps ao b off) := A
  have hc := shortCode_bd ps
  have HLen : Hid ((shortOut ps).length ≤ 100000000) := shortOut_len A
  have HF : Hid (∀ wx ao' g cap', Env N f c wx → Arg wx ps ao' g 0 → Calls Tryd.prog 14 #[.slice ao' ps.length cap'] wx fun e w' => ∃ r, e = .returned (.tuple #[r, .int .i64 (shortCode ps)]) ∧ w'.ownsRow wx.heap.size 61 3 r (shortOut ps).length (cellsOf (shortOut ps)) ∧ Below wx.heap.size wx w') := fun wx ao' g cap' Ex Ax => shortF_any ps ao' g 0 cap' wx Ex Ax
  have HR : Hid (∀ wx, Arg wx ps ao b off → Calls Tryd.prog 16 #[.slice ao ps.length cap] wx fun e w' => ∃ v, e = .returned (.tuple #[v, .int .i64 (shortCode ps)]) ∧ Own w' wx.heap.size v (shortOut ps) ∧ Below wx.heap.size wx w') := fun wx Ax => refShort_any ps ao b off cap wx Ax
  have HL : Hid (ps.length ≤ 100000000) := by have := A.len; show ps.length ≤ 100000000; omega
  generalize shortOut ps = so at *
  generalize shortCode ps = r2 at *
  clear E A
  go_enter Tryd.func4, Tryd.ntmps4
  go_wp2_with (go_at_call 11; refine (ours_arg ps ao b off cap w HA.out).mono ?_; rintro e w1 ⟨ao', g, cap', rfl, hA1, hg1, ho1, hb1⟩; have HA1 : Hid (Arg w1 ps ao' g 0) := hA1; clear hA1 hg1 ho1; refine stopHere ?_)
  unfold Hid
  go_wp2_with (go_at_call 14; refine (HF.out w1 ao' g cap' (HE.out.here hb1) HA1.out).mono ?_; rintro e w2 ⟨s, rfl, hs2, hb2⟩; have HS : Hid (w2.ownsRow w1.heap.size 61 3 s so.length (cellsOf so)) := hs2; clear hs2; refine stopHere ?_)
  unfold Hid
  have hbw2 : Below w.heap.size w w2 := hb1.trans (hb2.mono hb1.size)
  have hA2 : Hid (Arg w2 ps ao' g 0) := HA1.out.below hb2 HA1.out.lt
  go_wp2_with (go_at_call 14; refine (HF.out w2 ao' g cap' (HE.out.here hbw2) hA2.out).mono ?_; rintro e w3 ⟨o, rfl, ho3, hb3⟩; have HO : Hid (w3.ownsRow w2.heap.size 61 3 o so.length (cellsOf so)) := ho3; clear ho3; refine stopHere ?_)
  unfold Hid
  have hbw3 : Below w.heap.size w w3 := hbw2.trans (hb3.mono hbw2.size)
  go_wp2_with (go_at_call 15; refine (spoil_any w2.heap.size w3 o so.length (cellsOf so) HLen.out HO.out).mono ?_; rintro e w4 ⟨rfl, hwr⟩; have HWr : Hid (Wr (fun k => some k = o.ownBlock) w3 w4) := hwr; clear hwr; refine stopHere ?_)
  unfold Hid
  have hb4 : Below w2.heap.size w2 w4 := hb3.trans (spoil_below HO.out HWr.out (Nat.le_refl _) hb3.size)
  have hbw4 : Below w.heap.size w w4 := hbw2.trans (hb4.mono hbw2.size)
  go_wp2_with (go_at_call 16; refine (HR.out w4 (HA.out.below hbw4 HA.out.lt)).mono ?_; rintro e w5 ⟨t, rfl, ht5, hb5⟩; have HT : Hid (Own w5 w4.heap.size t so) := ht5; clear ht5; refine stopHere ?_)
  unfold Hid
  have hb25 : Below w2.heap.size w2 w5 := hb4.trans (hb5.mono hb4.size)
  have hbw5 : Below w.heap.size w w5 := hbw2.trans (hb25.mono hbw2.size)
  have HA5 : Hid (Arg w5 ps ao' g 0) := hA2.out.below hb25 hA2.out.lt
  have HB5 : Hid (Arg w5 ps ao b off) := HA.out.below hbw5 HA.out.lt
  go_wp2_with (go_at_call 17; refine (same_any ps ao' ao g 0 b off cap' cap w5 HL.out (fun h => ⟨HA5.out.ao h, HA5.out.lt h⟩) (fun h => ⟨HB5.out.ao h, HB5.out.lt h⟩) HA5.out.cells HB5.out.cells).mono ?_; rintro e w6 ⟨rfl, hb6⟩; refine stopHere ?_)
  unfold Hid
  have hb26 : Below w2.heap.size w2 w6 := hb25.trans (hb6.mono hb25.size)
  obtain ⟨so1, sg, scap, hsv, hsa, hsc, _⟩ := Owns.form (show Owns w6 w1.heap.size s so from own_here HS.out hb26)
  obtain ⟨to1, tg, tcap, htv, hta, htc⟩ := Own.form (show Own w6 w4.heap.size t so from own_here HT.out hb6)
  subst hsv htv
  go_wp2_with (go_at_call 17; refine (same_any so so1 to1 sg 0 tg 0 scap tcap w6 HLen.out (fun h => ⟨(hsa h).1, (hsa h).2.2⟩) hta hsc htc).mono ?_; rintro e w7 ⟨rfl, hb7⟩; refine stopHere ?_)
  unfold Hid
  go_wp2_with (go_at_call 13; refine (num_any r2 w7 hc.1 hc.2).mono ?_; rintro e w8 ⟨rfl, hww⟩; obtain rfl := hww.symm)
  go_ret
  have hbw6 : Below w.heap.size w w6 := hbw5.trans (hb6.mono hbw5.size)
  exact ⟨rfl, hbw6.trans (hb7.mono hbw6.size)⟩
end Go.Proofs.YtdlolnahbgecjaaDoor
