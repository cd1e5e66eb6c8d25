import Derived.Test.YtdlolnahbgecjaaDoorRefTurn2
import Derived.Test.YtdlolnahbgecjaaDoorTurnG
import Derived.Test.YtdlolnahbgecjaaDoorShortsWalk
namespace Go.Proofs.YtdlolnahbgecjaaDoor
open Go.RowKit
set_option linter.unusedVariables false

set_option maxRecDepth 100000 in
set_option maxHeartbeats 2000000 in
theorem turns_walk {N : Nat} {f c : Addr} (ps qs : List Pt) (ao bo : Option Addr) (b1 o1 c1 b2 o2 c2 : Nat) (w : World) (E : Env N f c w) (A : Arg w ps ao b1 o1) (B : Arg w qs bo b2 o2) :
    Calls Tryd.prog 7 #[.slice ao ps.length c1, .slice bo qs.length c2] w fun e w' => e = .returned (.bool true) ∧ Below w.heap.size w w' := by
  have HE : Hid (Env N f c w) := E
  have HA : Hid (Arg w ps ao b1 o1) := A
  have HB : Hid (Arg w qs bo b2 o2) := B
  have hc := tCode_bd ps qs
  have HLen : Hid ((tOut1 ps qs).length ≤ 100000000 ∧ (tOut2 ps qs).length ≤ 100000000) := tOut_len A B
  have HF : Hid (∀ wx ao' g cap' bo' h dap', Env N f c wx → Arg wx ps ao' g 0 → Arg wx qs bo' h 0 → Calls Tryd.prog 22 #[.slice ao' ps.length cap', .slice bo' qs.length dap'] wx fun e w' => ∃ u v, e = .returned (.tuple #[u, v, .int .i64 (tCode ps qs)]) ∧ w'.ownsRow wx.heap.size 61 3 u (tOut1 ps qs).length (cellsOf (tOut1 ps qs)) ∧ w'.ownsRow wx.heap.size 61 3 v (tOut2 ps qs).length (cellsOf (tOut2 ps qs)) ∧ (∀ k, u.ownBlock = some k → v.ownBlock ≠ some k) ∧ Below wx.heap.size wx w') := fun wx ao' g cap' bo' h dap' Ex Ax Bx => turnF_any ps qs ao' bo' g 0 cap' h 0 dap' wx Ex Ax Bx
  have HR : Hid (∀ wx, Arg wx ps ao b1 o1 → Arg wx qs bo b2 o2 → Calls Tryd.prog 23 #[.slice ao ps.length c1, .slice bo qs.length c2] wx fun e w' => ∃ u v, e = .returned (.tuple #[u, v, .int .i64 (tCode ps qs)]) ∧ Own w' wx.heap.size u (tOut1 ps qs) ∧ Own w' wx.heap.size v (tOut2 ps qs) ∧ Below wx.heap.size wx w') := fun wx Ax Bx => refTurn_any ps qs ao bo b1 o1 c1 b2 o2 c2 wx Ax Bx
  have HL : Hid (ps.length ≤ 100000000 ∧ qs.length ≤ 100000000) := by have := A.len; have := B.len; exact ⟨by omega, by omega⟩
  generalize tOut1 ps qs = so at *
  generalize tOut2 ps qs = tt at *
  generalize tCode ps qs = r2 at *
  clear E A B
  go_enter Tryd.func7, Tryd.ntmps7
  go_wp2_with fail
  refine (ours_arg ps ao b1 o1 c1 w HA.out).mono ?_
  rintro e w1 ⟨ao', g, cap', rfl, hA1, hg1, ho1, hb1⟩
  have HA1 : Hid (Arg w1 ps ao' g 0) := hA1
  have HB1 : Hid (Arg w1 qs bo b2 o2) := HB.out.below hb1 HB.out.lt
  clear hA1 hg1 ho1
  go_wp2_with fail
  refine (ours_arg qs bo b2 o2 c2 w1 HB1.out).mono ?_
  rintro e w2 ⟨bo', h, dap', rfl, hB2, hg2, ho2, hb2⟩
  have HA2 : Hid (Arg w2 ps ao' g 0) := HA1.out.below hb2 HA1.out.lt
  have HB2 : Hid (Arg w2 qs bo' h 0) := hB2
  have hbw2 : Below w.heap.size w w2 := hb1.trans (hb2.mono hb1.size)
  clear hB2 hg2 ho2
  go_wp2_with fail
  refine (HF.out w2 ao' g cap' bo' h dap' (HE.out.here hbw2) HA2.out HB2.out).mono ?_
  rintro e w3 ⟨s, t, rfl, hs3, ht3, _, hb3⟩
  have HS : Hid (w3.ownsRow w2.heap.size 61 3 s so.length (cellsOf so)) := hs3
  have HT : Hid (w3.ownsRow w2.heap.size 61 3 t tt.length (cellsOf tt)) := ht3
  have hbw3 : Below w.heap.size w w3 := hbw2.trans (hb3.mono hbw2.size)
  have HA3 : Hid (Arg w3 ps ao' g 0) := HA2.out.below hb3 HA2.out.lt
  have HB3 : Hid (Arg w3 qs bo' h 0) := HB2.out.below hb3 HB2.out.lt
  clear hs3 ht3
  go_wp2_with fail
  refine (HF.out w3 ao' g cap' bo' h dap' (HE.out.here hbw3) HA3.out HB3.out).mono ?_
  rintro e w4 ⟨i, o, rfl, hi4, ho4, hap, hb4⟩
  have HI : Hid (w4.ownsRow w3.heap.size 61 3 i so.length (cellsOf so)) := hi4
  have HO : Hid (w4.ownsRow w3.heap.size 61 3 o tt.length (cellsOf tt)) := ho4
  have HAP : Hid (∀ k, i.ownBlock = some k → o.ownBlock ≠ some k) := hap
  have hbw4 : Below w.heap.size w w4 := hbw3.trans (hb4.mono hbw3.size)
  clear hi4 ho4 hap
  go_wp2_with fail
  refine (spoil_any w3.heap.size w4 i so.length (cellsOf so) HLen.out.1 HI.out).mono ?_
  rintro e w5 ⟨rfl, hwr⟩
  have HO5 : Hid (w5.ownsRow w3.heap.size 61 3 o tt.length (cellsOf tt)) := ownsRow_wr HO.out hwr (fun k hk e => HAP.out k e.symm hk)
  have hb5 : Below w3.heap.size w3 w5 := hb4.trans (spoil_below HI.out hwr (Nat.le_refl _) hb4.size)
  clear hwr
  go_wp2_with fail
  refine (spoil_any w3.heap.size w5 o tt.length (cellsOf tt) HLen.out.2 HO5.out).mono ?_
  rintro e w6 ⟨rfl, hwr⟩
  have hb6 : Below w3.heap.size w3 w6 := hb5.trans (spoil_below HO5.out hwr (Nat.le_refl _) hb5.size)
  have hbw6 : Below w.heap.size w w6 := hbw3.trans (hb6.mono hbw3.size)
  clear hwr
  go_wp2_with fail
  refine (HR.out w6 (HA.out.below hbw6 HA.out.lt) (HB.out.below hbw6 HB.out.lt)).mono ?_
  rintro e w7 ⟨u, v, rfl, hu7, hv7, hb7⟩
  have HU : Hid (Own w7 w6.heap.size u so) := hu7
  have HV : Hid (Own w7 w6.heap.size v tt) := hv7
  have hb37 : Below w3.heap.size w3 w7 := hb6.trans (hb7.mono hb6.size)
  have hbw7 : Below w.heap.size w w7 := hbw3.trans (hb37.mono hbw3.size)
  have HA7 : Hid (Arg w7 ps ao' g 0) := HA3.out.below hb37 HA3.out.lt
  have HB7 : Hid (Arg w7 qs bo' h 0) := HB3.out.below hb37 HB3.out.lt
  have HC7 : Hid (Arg w7 ps ao b1 o1) := HA.out.below hbw7 HA.out.lt
  have HD7 : Hid (Arg w7 qs bo b2 o2) := HB.out.below hbw7 HB.out.lt
  clear hu7 hv7
  go_wp2_with fail
  refine (same_any ps ao' ao g 0 b1 o1 cap' c1 w7 HL.out.1 (fun h => ⟨HA7.out.ao h, HA7.out.lt h⟩) (fun h => ⟨HC7.out.ao h, HC7.out.lt h⟩) HA7.out.cells HC7.out.cells).mono ?_
  rintro e w8 ⟨rfl, hb8⟩
  have HB8 : Hid (Arg w8 qs bo' h 0) := HB7.out.below hb8 HB7.out.lt
  have HD8 : Hid (Arg w8 qs bo b2 o2) := HD7.out.below hb8 HD7.out.lt
  go_wp2_with fail
  refine (same_any qs bo' bo h 0 b2 o2 dap' c2 w8 HL.out.2 (fun h => ⟨HB8.out.ao h, HB8.out.lt h⟩) (fun h => ⟨HD8.out.ao h, HD8.out.lt h⟩) HB8.out.cells HD8.out.cells).mono ?_
  rintro e w9 ⟨rfl, hb9⟩
  have hb79 : Below w7.heap.size w7 w9 := hb8.trans (hb9.mono hb8.size)
  have hb39 : Below w3.heap.size w3 w9 := hb37.trans (hb79.mono hb37.size)
  obtain ⟨so1, sg, scap, hsv, hsa, hsc, _⟩ := Owns.form (show Owns w9 w2.heap.size s so from own_here HS.out hb39)
  obtain ⟨uo1, ug, ucap, huv, hua, huc⟩ := Own.form (show Own w9 w6.heap.size u so from own_here HU.out hb79)
  subst hsv huv
  go_wp2_with fail
  refine (same_any so so1 uo1 sg 0 ug 0 scap ucap w9 HLen.out.1 (fun h => ⟨(hsa h).1, (hsa h).2.2⟩) hua hsc huc).mono ?_
  rintro e w10 ⟨rfl, hb10⟩
  clear hsa hsc hua huc
  have hb710 : Below w7.heap.size w7 w10 := hb79.trans (hb10.mono hb79.size)
  have hb310 : Below w3.heap.size w3 w10 := hb37.trans (hb710.mono hb37.size)
  obtain ⟨to1, tg, tcap, htv, hta, htc, _⟩ := Owns.form (show Owns w10 w2.heap.size t tt from own_here HT.out hb310)
  obtain ⟨vo1, vg, vcap, hvv, hva, hvc⟩ := Own.form (show Own w10 w6.heap.size v tt from own_here HV.out hb710)
  subst htv hvv
  go_wp2_with fail
  refine (same_any tt to1 vo1 tg 0 vg 0 tcap vcap w10 HLen.out.2 (fun h => ⟨(hta h).1, (hta h).2.2⟩) hva htc hvc).mono ?_
  rintro e w11 ⟨rfl, hb11⟩
  clear hta htc hva hvc
  go_wp2_with (go_at_call 13; refine (num_any r2 w11 hc.1 hc.2).mono ?_; rintro e w12 ⟨rfl, hww⟩; obtain rfl := hww.symm)
  go_ret
  have hbw10 : Below w.heap.size w w10 := hbw7.trans (hb710.mono hbw7.size)
  exact ⟨rfl, hbw10.trans (hb11.mono hbw10.size)⟩
end Go.Proofs.YtdlolnahbgecjaaDoor
