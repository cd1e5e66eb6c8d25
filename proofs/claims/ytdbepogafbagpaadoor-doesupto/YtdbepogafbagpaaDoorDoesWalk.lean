import Derived.Test.YtdbepogafbagpaaDoorDoRef
import Derived.Test.YtdbepogafbagpaaDoorFitsWalk
namespace Go.Proofs.YtdbepogafbagpaaDoor
open Go.RowKit
set_option linter.unusedVariables false

set_option maxRecDepth 100000 in
set_option maxHeartbeats 2000000 in
theorem does_walk {N : Nat} {f c : Addr} (text : ByteArray) (ps : List Pt) (ao : Option Addr) (b off cap : Nat) (w : World) (E : Env N f c w) (A : Arg w ps ao b off) (ht : text.size ≤ 1048576) :
    Calls Tryd.prog 5 #[.string text, .slice ao ps.length cap] w fun e w' => e = .returned (.bool true) ∧ Below w.heap.size w w' := by
  have HE : Hid (Env N f c w) := E
  have HA : Hid (Arg w ps ao b off) := A
  have hc := refFit_code ps text.size
  have HF : Hid (∀ wx ao' g cap', Env N f c wx → Arg wx ps ao' g 0 → Calls Tryd.prog 18 #[.string text, .slice ao' ps.length cap'] wx fun e w' => e = .returned (.tuple #[.string (doOut text ps), .int .i64 (refFit ps text.size).2]) ∧ Below wx.heap.size wx w') := fun wx ao' g cap' Ex Ax => by
    have := doF_any text ps ao' g 0 cap' wx Ex Ax ht
    rwa [doStr_out] at this
  have HR : Hid (∀ wx, Arg wx ps ao b off → Calls Tryd.prog 19 #[.string text, .slice ao ps.length cap] wx fun e w' => e = .returned (.tuple #[.string (doOut text ps), .int .i64 (refFit ps text.size).2]) ∧ Below wx.heap.size wx w') := fun wx Ax => refDo_any text ps ao b off cap wx Ax ht
  generalize doOut text ps = r1 at *
  generalize (refFit ps text.size).2 = r2 at *
  clear E A
  go_enter Tryd.func5, Tryd.ntmps5
  go_wp2_with (first | (go_at_call 11; refine (ours_arg ps ao b off cap w HA.out).mono ?_; rintro e w1 ⟨ao', g, cap', rfl, hA1, hg1, ho1, hb1⟩; have HA1 : Hid (Arg w1 ps ao' g 0) := hA1; clear hA1 hg1 ho1) | (go_at_call 18; refine (HF.out w1 ao' g cap' (HE.out.here hb1) HA1.out).mono ?_; rintro e w2 ⟨rfl, hb2⟩; have hbw : Below w.heap.size w w2 := hb1.trans (hb2.mono hb1.size)) | (go_at_call 19; refine (HR.out w2 (HA.out.below hbw HA.out.lt)).mono ?_; rintro e w3 ⟨rfl, hb3⟩) | (go_at_call 13; refine (num_any r2 w3 hc.1 hc.2).mono ?_; rintro e w4 ⟨rfl, rfl⟩))
  go_ret
  exact ⟨rfl, hbw.trans (hb3.mono hbw.size)⟩
end Go.Proofs.YtdbepogafbagpaaDoor
