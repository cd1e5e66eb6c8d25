/-
  NARROWER THAN 'FOR EVERY INPUT', by the rows' own cells (each row's printed sentence says how): Fits: laid · Shorts: laid · Does: laid · Joins: laid · Turns: laid · Meet: laid · Both: laid.
  DERIVED. THE GIVEN ROWS OF THIS SEAT. 7 by the template 'for every input the law returns true; each argument reads behind the call as it read before'; 0 by the template 'total and deterministic' (their statements: YtdlolnahbgecjaaDoorTotals.lean).
  GIVEN WITH THE SEED: the statements are not yours to turn. If you find one false, say at which input.
  Laid BY PROGRAM, IN A SANDBOX (cutbox-rows.mjs): the forced cells as the released guide's own fill.sh prints them over the translation c39a64a529a9b083… (all of the seat's roots in one cut). By AI agents, Wed Nov 11 2026. No macro, syntax, notation, axiom, sorry.
-/
import Derived.Test.YtdlolnahbgecjaaDoorChecked
import GoSem.Claim
import GoSem.ClaimJoined
import GoSem.ClaimMapViews
import Derived.JoinedTies
import Derived.KernelRfl
namespace Go.Proofs.YtdlolnahbgecjaaDoor
/- THE CELL 'sum', in the pinned program and in every row, IS THE sha256 OF THE DUMP (.gsa) THAT YtdlolnahbgecjaaDoorProg.lean LOADS. Nothing in Lean hashes anything: it is a label: what it is worth is what the hold of that sum in a sandbox is worth. -/
noncomputable def Tryd.pinned : Pinned := { name := "ytdlolnahbgecjaadoor", sum := "c39a64a529a9b0834c047268684d3bcfaa0b2b84f8229307e01de14fd8da620d", checked := Tryd.checked }
namespace Rows
def none {H : Type} : Left H := { results := [], args := [] }

/- WHAT THE LISTED PACKAGE-LEVEL VARIABLES READ AS WHEN THE CALL BEGINS. Each datum BY PROGRAM (the guide's laid-datum.mjs) off the statement by which the dump's own 'gosem.cut.vars' lays the variable. In a bare row this is a premise. The card (YtdlolnahbgecjaaDoorCards.lean) ties it to the program's text. -/
def laid_math_bits_deBruijn32tab {H : Type} : DataW H := .agg [.lit (.int .u8 0), .lit (.int .u8 1), .lit (.int .u8 28), .lit (.int .u8 2), .lit (.int .u8 29), .lit (.int .u8 14), .lit (.int .u8 24), .lit (.int .u8 3), .lit (.int .u8 30), .lit (.int .u8 22), .lit (.int .u8 20), .lit (.int .u8 15), .lit (.int .u8 25), .lit (.int .u8 17), .lit (.int .u8 4), .lit (.int .u8 8), .lit (.int .u8 31), .lit (.int .u8 27), .lit (.int .u8 13), .lit (.int .u8 23), .lit (.int .u8 21), .lit (.int .u8 19), .lit (.int .u8 16), .lit (.int .u8 7), .lit (.int .u8 26), .lit (.int .u8 12), .lit (.int .u8 18), .lit (.int .u8 6), .lit (.int .u8 11), .lit (.int .u8 5), .lit (.int .u8 10), .lit (.int .u8 9)]
def laid_math_bits_deBruijn64tab {H : Type} : DataW H := .agg [.lit (.int .u8 0), .lit (.int .u8 1), .lit (.int .u8 56), .lit (.int .u8 2), .lit (.int .u8 57), .lit (.int .u8 49), .lit (.int .u8 28), .lit (.int .u8 3), .lit (.int .u8 61), .lit (.int .u8 58), .lit (.int .u8 42), .lit (.int .u8 50), .lit (.int .u8 38), .lit (.int .u8 29), .lit (.int .u8 17), .lit (.int .u8 4), .lit (.int .u8 62), .lit (.int .u8 47), .lit (.int .u8 59), .lit (.int .u8 36), .lit (.int .u8 45), .lit (.int .u8 43), .lit (.int .u8 51), .lit (.int .u8 22), .lit (.int .u8 53), .lit (.int .u8 39), .lit (.int .u8 33), .lit (.int .u8 30), .lit (.int .u8 24), .lit (.int .u8 18), .lit (.int .u8 12), .lit (.int .u8 5), .lit (.int .u8 63), .lit (.int .u8 55), .lit (.int .u8 48), .lit (.int .u8 27), .lit (.int .u8 60), .lit (.int .u8 41), .lit (.int .u8 37), .lit (.int .u8 16), .lit (.int .u8 46), .lit (.int .u8 35), .lit (.int .u8 44), .lit (.int .u8 21), .lit (.int .u8 52), .lit (.int .u8 32), .lit (.int .u8 23), .lit (.int .u8 11), .lit (.int .u8 54), .lit (.int .u8 26), .lit (.int .u8 40), .lit (.int .u8 15), .lit (.int .u8 34), .lit (.int .u8 20), .lit (.int .u8 31), .lit (.int .u8 10), .lit (.int .u8 25), .lit (.int .u8 14), .lit (.int .u8 19), .lit (.int .u8 9), .lit (.int .u8 13), .lit (.int .u8 8), .lit (.int .u8 7), .lit (.int .u8 6)]
def laid_internal_strconv_uint64pow10 {H : Type} : DataW H := .agg [.lit (.int .u64 1), .lit (.int .u64 10), .lit (.int .u64 100), .lit (.int .u64 1000), .lit (.int .u64 10000), .lit (.int .u64 100000), .lit (.int .u64 1000000), .lit (.int .u64 10000000), .lit (.int .u64 100000000), .lit (.int .u64 1000000000), .lit (.int .u64 10000000000), .lit (.int .u64 100000000000), .lit (.int .u64 1000000000000), .lit (.int .u64 10000000000000), .lit (.int .u64 100000000000000), .lit (.int .u64 1000000000000000), .lit (.int .u64 10000000000000000), .lit (.int .u64 100000000000000000), .lit (.int .u64 1000000000000000000), .lit (.int .u64 10000000000000000000)]
def laid_scribe_scribe_errNoChange {H : Type} : DataW H := .iface "*errors.errorString" (.ptr (.agg [.lit (.string [116, 104, 105, 115, 32, 105, 115, 32, 110, 111, 32, 99, 104, 97, 110, 103, 101])]))
def laid_scribe_scribe_errNoFit {H : Type} : DataW H := .iface "*errors.errorString" (.ptr (.agg [.lit (.string [116, 104, 105, 115, 32, 99, 104, 97, 110, 103, 101, 32, 100, 111, 101, 115, 32, 110, 111, 116, 32, 102, 105, 116])]))
def laid_scribe_scribe_errNoName {H : Type} : DataW H := .iface "*errors.errorString" (.ptr (.agg [.lit (.string [116, 104, 105, 115, 32, 105, 115, 32, 110, 111, 32, 110, 97, 109, 101])]))
def laid_scribe_scribe_errNoRevision {H : Type} : DataW H := .iface "*errors.errorString" (.ptr (.agg [.lit (.string [116, 104, 105, 115, 32, 105, 115, 32, 110, 111, 32, 114, 101, 118, 105, 115, 105, 111, 110])]))
def laid_scribe_scribe_errOver {H : Type} : DataW H := .iface "*errors.errorString" (.ptr (.agg [.lit (.string [116, 104, 105, 115, 32, 105, 115, 32, 111, 118, 101, 114])]))
def laid_scribe_scribe_errTwice {H : Type} : DataW H := .iface "*errors.errorString" (.ptr (.agg [.lit (.string [116, 104, 101, 114, 101, 32, 105, 115, 32, 111, 110, 101, 32, 97, 108, 114, 101, 97, 100, 121])]))
def laid_scribe_scribe_errNone {H : Type} : DataW H := .iface "*errors.errorString" (.ptr (.agg [.lit (.string [116, 104, 101, 114, 101, 32, 105, 115, 32, 110, 111, 110, 101])]))
def laid_scribe_scribe_errGap {H : Type} : DataW H := .iface "*errors.errorString" (.ptr (.agg [.lit (.string [116, 104, 105, 115, 32, 105, 115, 32, 110, 111, 116, 32, 116, 104, 101, 32, 110, 101, 120, 116])]))
def laid_scribe_scribe_errMany {H : Type} : DataW H := .iface "*errors.errorString" (.ptr (.agg [.lit (.string [116, 104, 101, 114, 101, 32, 97, 114, 101, 32, 116, 111, 111, 32, 109, 97, 110, 121])]))
def laid_scribe_scribe_errFull {H : Type} : DataW H := .iface "*errors.errorString" (.ptr (.agg [.lit (.string [116, 104, 101, 32, 102, 105, 108, 101, 115, 32, 97, 114, 101, 32, 102, 117, 108, 108])]))

/-- 'scribelaw.Fits': WHATEVER THE INPUT: true; the input reads as it did. -/
def fitsSpec : ChangeSpec := { name := "fits", fn := fun _ => fun
  | [d1, d2] => { results := [.lit (.bool true)], args := [d1, d2] }
  | _ => none }
def fitsRow : OpenClaim := { program := "ytdlolnahbgecjaadoor", sum := "c39a64a529a9b0834c047268684d3bcfaa0b2b84f8229307e01de14fd8da620d", func := "scribe/scribelaw.Fits", spec := "fits", inPlace := ["internal/reflectlite.TypeOf"], unfollowed := true, recurses := true, named := ["scribe/scribe.errNoFit", "scribe/scribe.errNoChange", "internal/strconv.uint64pow10", "math/bits.deBruijn32tab", "math/bits.deBruijn64tab", "scribe/scribe.errNoName", "scribe/scribe.errNoRevision", "scribe/scribe.errOver", "scribe/scribe.errTwice", "scribe/scribe.errNone", "scribe/scribe.errGap", "scribe/scribe.errMany", "scribe/scribe.errFull"], apart := false, laid := [("math/bits.deBruijn32tab", laid_math_bits_deBruijn32tab), ("math/bits.deBruijn64tab", laid_math_bits_deBruijn64tab), ("internal/strconv.uint64pow10", laid_internal_strconv_uint64pow10), ("scribe/scribe.errNoChange", laid_scribe_scribe_errNoChange), ("scribe/scribe.errNoFit", laid_scribe_scribe_errNoFit), ("scribe/scribe.errNoName", laid_scribe_scribe_errNoName), ("scribe/scribe.errNoRevision", laid_scribe_scribe_errNoRevision), ("scribe/scribe.errOver", laid_scribe_scribe_errOver), ("scribe/scribe.errTwice", laid_scribe_scribe_errTwice), ("scribe/scribe.errNone", laid_scribe_scribe_errNone), ("scribe/scribe.errGap", laid_scribe_scribe_errGap), ("scribe/scribe.errMany", laid_scribe_scribe_errMany), ("scribe/scribe.errFull", laid_scribe_scribe_errFull)] }
def FitsSaid : Prop := fitsRow.holds Tryd.pinned (OpenSpec.ofChange fitsSpec)

/-- ITS FALSE NEIGHBOUR: 'it returns false'. Refute it at one input. -/
def fitsWrong : ChangeSpec := { name := "fits", fn := fun _ => fun
  | [d1, d2] => { results := [.lit (.bool false)], args := [d1, d2] }
  | _ => none }
def FitsWrongFalsely : Prop := fitsRow.holds Tryd.pinned (OpenSpec.ofChange fitsWrong)

/-- 'scribelaw.Shorts': WHATEVER THE INPUT: true; the input reads as it did. -/
def shortsSpec : ChangeSpec := { name := "shorts", fn := fun _ => fun
  | [d] => { results := [.lit (.bool true)], args := [d] }
  | _ => none }
def shortsRow : OpenClaim := { program := "ytdlolnahbgecjaadoor", sum := "c39a64a529a9b0834c047268684d3bcfaa0b2b84f8229307e01de14fd8da620d", func := "scribe/scribelaw.Shorts", spec := "shorts", inPlace := ["internal/abi.NoEscape", "internal/reflectlite.TypeOf"], unfollowed := true, recurses := true, named := ["scribe/scribe.errNoChange", "internal/strconv.uint64pow10", "math/bits.deBruijn32tab", "math/bits.deBruijn64tab", "scribe/scribe.errNoFit", "scribe/scribe.errNoName", "scribe/scribe.errNoRevision", "scribe/scribe.errOver", "scribe/scribe.errTwice", "scribe/scribe.errNone", "scribe/scribe.errGap", "scribe/scribe.errMany", "scribe/scribe.errFull"], apart := false, laid := [("math/bits.deBruijn32tab", laid_math_bits_deBruijn32tab), ("math/bits.deBruijn64tab", laid_math_bits_deBruijn64tab), ("internal/strconv.uint64pow10", laid_internal_strconv_uint64pow10), ("scribe/scribe.errNoChange", laid_scribe_scribe_errNoChange), ("scribe/scribe.errNoFit", laid_scribe_scribe_errNoFit), ("scribe/scribe.errNoName", laid_scribe_scribe_errNoName), ("scribe/scribe.errNoRevision", laid_scribe_scribe_errNoRevision), ("scribe/scribe.errOver", laid_scribe_scribe_errOver), ("scribe/scribe.errTwice", laid_scribe_scribe_errTwice), ("scribe/scribe.errNone", laid_scribe_scribe_errNone), ("scribe/scribe.errGap", laid_scribe_scribe_errGap), ("scribe/scribe.errMany", laid_scribe_scribe_errMany), ("scribe/scribe.errFull", laid_scribe_scribe_errFull)] }
def ShortsSaid : Prop := shortsRow.holds Tryd.pinned (OpenSpec.ofChange shortsSpec)

/-- ITS FALSE NEIGHBOUR: 'it returns false'. Refute it at one input. -/
def shortsWrong : ChangeSpec := { name := "shorts", fn := fun _ => fun
  | [d] => { results := [.lit (.bool false)], args := [d] }
  | _ => none }
def ShortsWrongFalsely : Prop := shortsRow.holds Tryd.pinned (OpenSpec.ofChange shortsWrong)

/-- 'scribelaw.Does': WHATEVER THE INPUT: true; the input reads as it did. -/
def doesSpec : ChangeSpec := { name := "does", fn := fun _ => fun
  | [d1, d2] => { results := [.lit (.bool true)], args := [d1, d2] }
  | _ => none }
def doesRow : OpenClaim := { program := "ytdlolnahbgecjaadoor", sum := "c39a64a529a9b0834c047268684d3bcfaa0b2b84f8229307e01de14fd8da620d", func := "scribe/scribelaw.Does", spec := "does", inPlace := ["internal/abi.NoEscape", "internal/bytealg.MakeNoZero", "internal/reflectlite.TypeOf"], unfollowed := true, recurses := true, named := ["scribe/scribe.errNoFit", "scribe/scribe.errNoChange", "internal/strconv.uint64pow10", "math/bits.deBruijn32tab", "math/bits.deBruijn64tab", "scribe/scribe.errNoName", "scribe/scribe.errNoRevision", "scribe/scribe.errOver", "scribe/scribe.errTwice", "scribe/scribe.errNone", "scribe/scribe.errGap", "scribe/scribe.errMany", "scribe/scribe.errFull"], apart := false, laid := [("math/bits.deBruijn32tab", laid_math_bits_deBruijn32tab), ("math/bits.deBruijn64tab", laid_math_bits_deBruijn64tab), ("internal/strconv.uint64pow10", laid_internal_strconv_uint64pow10), ("scribe/scribe.errNoChange", laid_scribe_scribe_errNoChange), ("scribe/scribe.errNoFit", laid_scribe_scribe_errNoFit), ("scribe/scribe.errNoName", laid_scribe_scribe_errNoName), ("scribe/scribe.errNoRevision", laid_scribe_scribe_errNoRevision), ("scribe/scribe.errOver", laid_scribe_scribe_errOver), ("scribe/scribe.errTwice", laid_scribe_scribe_errTwice), ("scribe/scribe.errNone", laid_scribe_scribe_errNone), ("scribe/scribe.errGap", laid_scribe_scribe_errGap), ("scribe/scribe.errMany", laid_scribe_scribe_errMany), ("scribe/scribe.errFull", laid_scribe_scribe_errFull)] }
def DoesSaid : Prop := doesRow.holds Tryd.pinned (OpenSpec.ofChange doesSpec)

/-- ITS FALSE NEIGHBOUR: 'it returns false'. Refute it at one input. -/
def doesWrong : ChangeSpec := { name := "does", fn := fun _ => fun
  | [d1, d2] => { results := [.lit (.bool false)], args := [d1, d2] }
  | _ => none }
def DoesWrongFalsely : Prop := doesRow.holds Tryd.pinned (OpenSpec.ofChange doesWrong)

/-- 'scribelaw.Joins': WHATEVER THE INPUT: true; the input reads as it did. -/
def joinsSpec : ChangeSpec := { name := "joins", fn := fun _ => fun
  | [d1, d2] => { results := [.lit (.bool true)], args := [d1, d2] }
  | _ => none }
def joinsRow : OpenClaim := { program := "ytdlolnahbgecjaadoor", sum := "c39a64a529a9b0834c047268684d3bcfaa0b2b84f8229307e01de14fd8da620d", func := "scribe/scribelaw.Joins", spec := "joins", inPlace := ["internal/abi.NoEscape", "internal/reflectlite.TypeOf"], unfollowed := true, recurses := true, named := ["scribe/scribe.errNoChange", "internal/strconv.uint64pow10", "math/bits.deBruijn32tab", "math/bits.deBruijn64tab", "scribe/scribe.errNoFit", "scribe/scribe.errNoName", "scribe/scribe.errNoRevision", "scribe/scribe.errOver", "scribe/scribe.errTwice", "scribe/scribe.errNone", "scribe/scribe.errGap", "scribe/scribe.errMany", "scribe/scribe.errFull"], apart := false, laid := [("math/bits.deBruijn32tab", laid_math_bits_deBruijn32tab), ("math/bits.deBruijn64tab", laid_math_bits_deBruijn64tab), ("internal/strconv.uint64pow10", laid_internal_strconv_uint64pow10), ("scribe/scribe.errNoChange", laid_scribe_scribe_errNoChange), ("scribe/scribe.errNoFit", laid_scribe_scribe_errNoFit), ("scribe/scribe.errNoName", laid_scribe_scribe_errNoName), ("scribe/scribe.errNoRevision", laid_scribe_scribe_errNoRevision), ("scribe/scribe.errOver", laid_scribe_scribe_errOver), ("scribe/scribe.errTwice", laid_scribe_scribe_errTwice), ("scribe/scribe.errNone", laid_scribe_scribe_errNone), ("scribe/scribe.errGap", laid_scribe_scribe_errGap), ("scribe/scribe.errMany", laid_scribe_scribe_errMany), ("scribe/scribe.errFull", laid_scribe_scribe_errFull)] }
def JoinsSaid : Prop := joinsRow.holds Tryd.pinned (OpenSpec.ofChange joinsSpec)

/-- ITS FALSE NEIGHBOUR: 'it returns false'. Refute it at one input. -/
def joinsWrong : ChangeSpec := { name := "joins", fn := fun _ => fun
  | [d1, d2] => { results := [.lit (.bool false)], args := [d1, d2] }
  | _ => none }
def JoinsWrongFalsely : Prop := joinsRow.holds Tryd.pinned (OpenSpec.ofChange joinsWrong)

/-- 'scribelaw.Turns': WHATEVER THE INPUT: true; the input reads as it did. -/
def turnsSpec : ChangeSpec := { name := "turns", fn := fun _ => fun
  | [d1, d2] => { results := [.lit (.bool true)], args := [d1, d2] }
  | _ => none }
def turnsRow : OpenClaim := { program := "ytdlolnahbgecjaadoor", sum := "c39a64a529a9b0834c047268684d3bcfaa0b2b84f8229307e01de14fd8da620d", func := "scribe/scribelaw.Turns", spec := "turns", inPlace := ["internal/abi.NoEscape", "internal/reflectlite.TypeOf"], unfollowed := true, recurses := true, named := ["scribe/scribe.errNoChange", "internal/strconv.uint64pow10", "math/bits.deBruijn32tab", "math/bits.deBruijn64tab", "scribe/scribe.errNoFit", "scribe/scribe.errNoName", "scribe/scribe.errNoRevision", "scribe/scribe.errOver", "scribe/scribe.errTwice", "scribe/scribe.errNone", "scribe/scribe.errGap", "scribe/scribe.errMany", "scribe/scribe.errFull"], apart := false, laid := [("math/bits.deBruijn32tab", laid_math_bits_deBruijn32tab), ("math/bits.deBruijn64tab", laid_math_bits_deBruijn64tab), ("internal/strconv.uint64pow10", laid_internal_strconv_uint64pow10), ("scribe/scribe.errNoChange", laid_scribe_scribe_errNoChange), ("scribe/scribe.errNoFit", laid_scribe_scribe_errNoFit), ("scribe/scribe.errNoName", laid_scribe_scribe_errNoName), ("scribe/scribe.errNoRevision", laid_scribe_scribe_errNoRevision), ("scribe/scribe.errOver", laid_scribe_scribe_errOver), ("scribe/scribe.errTwice", laid_scribe_scribe_errTwice), ("scribe/scribe.errNone", laid_scribe_scribe_errNone), ("scribe/scribe.errGap", laid_scribe_scribe_errGap), ("scribe/scribe.errMany", laid_scribe_scribe_errMany), ("scribe/scribe.errFull", laid_scribe_scribe_errFull)] }
def TurnsSaid : Prop := turnsRow.holds Tryd.pinned (OpenSpec.ofChange turnsSpec)

/-- ITS FALSE NEIGHBOUR: 'it returns false'. Refute it at one input. -/
def turnsWrong : ChangeSpec := { name := "turns", fn := fun _ => fun
  | [d1, d2] => { results := [.lit (.bool false)], args := [d1, d2] }
  | _ => none }
def TurnsWrongFalsely : Prop := turnsRow.holds Tryd.pinned (OpenSpec.ofChange turnsWrong)

/-- 'scribelaw.Meet': WHATEVER THE INPUT: true; the input reads as it did. -/
def meetSpec : ChangeSpec := { name := "meet", fn := fun _ => fun
  | [d1, d2, d3] => { results := [.lit (.bool true)], args := [d1, d2, d3] }
  | _ => none }
def meetRow : OpenClaim := { program := "ytdlolnahbgecjaadoor", sum := "c39a64a529a9b0834c047268684d3bcfaa0b2b84f8229307e01de14fd8da620d", func := "scribe/scribelaw.Meet", spec := "meet", inPlace := ["internal/abi.NoEscape", "internal/bytealg.MakeNoZero", "internal/reflectlite.TypeOf"], unfollowed := true, recurses := true, named := ["scribe/scribe.errNoFit", "scribe/scribe.errNoChange", "internal/strconv.uint64pow10", "math/bits.deBruijn32tab", "math/bits.deBruijn64tab", "scribe/scribe.errNoName", "scribe/scribe.errNoRevision", "scribe/scribe.errOver", "scribe/scribe.errTwice", "scribe/scribe.errNone", "scribe/scribe.errGap", "scribe/scribe.errMany", "scribe/scribe.errFull"], apart := false, laid := [("math/bits.deBruijn32tab", laid_math_bits_deBruijn32tab), ("math/bits.deBruijn64tab", laid_math_bits_deBruijn64tab), ("internal/strconv.uint64pow10", laid_internal_strconv_uint64pow10), ("scribe/scribe.errNoChange", laid_scribe_scribe_errNoChange), ("scribe/scribe.errNoFit", laid_scribe_scribe_errNoFit), ("scribe/scribe.errNoName", laid_scribe_scribe_errNoName), ("scribe/scribe.errNoRevision", laid_scribe_scribe_errNoRevision), ("scribe/scribe.errOver", laid_scribe_scribe_errOver), ("scribe/scribe.errTwice", laid_scribe_scribe_errTwice), ("scribe/scribe.errNone", laid_scribe_scribe_errNone), ("scribe/scribe.errGap", laid_scribe_scribe_errGap), ("scribe/scribe.errMany", laid_scribe_scribe_errMany), ("scribe/scribe.errFull", laid_scribe_scribe_errFull)] }
def MeetSaid : Prop := meetRow.holds Tryd.pinned (OpenSpec.ofChange meetSpec)

/-- ITS FALSE NEIGHBOUR: 'it returns false'. Refute it at one input. -/
def meetWrong : ChangeSpec := { name := "meet", fn := fun _ => fun
  | [d1, d2, d3] => { results := [.lit (.bool false)], args := [d1, d2, d3] }
  | _ => none }
def MeetWrongFalsely : Prop := meetRow.holds Tryd.pinned (OpenSpec.ofChange meetWrong)

/-- 'scribelaw.Both': WHATEVER THE INPUT: true; the input reads as it did. -/
def bothSpec : ChangeSpec := { name := "both", fn := fun _ => fun
  | [d1, d2, d3, d4] => { results := [.lit (.bool true)], args := [d1, d2, d3, d4] }
  | _ => none }
def bothRow : OpenClaim := { program := "ytdlolnahbgecjaadoor", sum := "c39a64a529a9b0834c047268684d3bcfaa0b2b84f8229307e01de14fd8da620d", func := "scribe/scribelaw.Both", spec := "both", inPlace := ["internal/abi.NoEscape", "internal/bytealg.MakeNoZero", "internal/reflectlite.TypeOf"], unfollowed := true, recurses := true, named := ["scribe/scribe.errNoFit", "scribe/scribe.errNoChange", "internal/strconv.uint64pow10", "math/bits.deBruijn32tab", "math/bits.deBruijn64tab", "scribe/scribe.errNoName", "scribe/scribe.errNoRevision", "scribe/scribe.errOver", "scribe/scribe.errTwice", "scribe/scribe.errNone", "scribe/scribe.errGap", "scribe/scribe.errMany", "scribe/scribe.errFull"], apart := false, laid := [("math/bits.deBruijn32tab", laid_math_bits_deBruijn32tab), ("math/bits.deBruijn64tab", laid_math_bits_deBruijn64tab), ("internal/strconv.uint64pow10", laid_internal_strconv_uint64pow10), ("scribe/scribe.errNoChange", laid_scribe_scribe_errNoChange), ("scribe/scribe.errNoFit", laid_scribe_scribe_errNoFit), ("scribe/scribe.errNoName", laid_scribe_scribe_errNoName), ("scribe/scribe.errNoRevision", laid_scribe_scribe_errNoRevision), ("scribe/scribe.errOver", laid_scribe_scribe_errOver), ("scribe/scribe.errTwice", laid_scribe_scribe_errTwice), ("scribe/scribe.errNone", laid_scribe_scribe_errNone), ("scribe/scribe.errGap", laid_scribe_scribe_errGap), ("scribe/scribe.errMany", laid_scribe_scribe_errMany), ("scribe/scribe.errFull", laid_scribe_scribe_errFull)] }
def BothSaid : Prop := bothRow.holds Tryd.pinned (OpenSpec.ofChange bothSpec)

/-- ITS FALSE NEIGHBOUR: 'it returns false'. Refute it at one input. -/
def bothWrong : ChangeSpec := { name := "both", fn := fun _ => fun
  | [d1, d2, d3, d4] => { results := [.lit (.bool false)], args := [d1, d2, d3, d4] }
  | _ => none }
def BothWrongFalsely : Prop := bothRow.holds Tryd.pinned (OpenSpec.ofChange bothWrong)

/- THE SECOND FORM. 'bulk': how many values and letters a reading holds, each counted each time it is reached (what is shared counts as often as it is met; a slice's spare places count too). A statement '..UptoSaid' is the law's where the arguments, and the package variables that the reading takes, are together of bulk at most 1048576: NARROWER than '..Said'. Prove '..Said' where nothing that the law and all that it calls make is longer than what came in: it says more and counts as full. Else prove '..UptoSaid'. A law counts once. -/
mutual
def uptoBulk {H : Type} : DataW H → Nat
  | .lit (.string bytes) => bytes.length + 1
  | .lit _ => 1
  | .nil => 1
  | .ptr d => uptoBulk d + 1
  | .slice elems spare => uptoBulkAll elems + uptoBulkAll spare + 1
  | .agg parts => uptoBulkAll parts + 1
  | .iface _ d => uptoBulk d + 1
  | .map entries => uptoBulkEntries entries + 1
  | .held _ => 1
def uptoBulkAll {H : Type} : List (DataW H) → Nat
  | [] => 0
  | d :: r => uptoBulk d + uptoBulkAll r
def uptoBulkEntries {H : Type} : List (Lit × DataW H) → Nat
  | [] => 0
  | x :: r => uptoBulkEntry x + uptoBulkEntries r
def uptoBulkEntry {H : Type} : Lit × DataW H → Nat
  | (.string bytes, d) => bytes.length + uptoBulk d + 1
  | (_, d) => uptoBulk d + 1
 end
def uptoSmall : (H : Type) → List (DataW H) → Bool := fun _ ds => decide (uptoBulkAll ds ≤ 1048576)
def OpenSpec.upto (s : _root_.Go.ChangeSpec) : _root_.Go.OpenSpec := { _root_.Go.OpenSpec.ofChange s with cond := some uptoSmall }

/-- 'scribelaw.Fits', WHERE WHAT IT READS IS OF BULK AT MOST 1048576: true; the input reads as it did. -/
def fitsUptoRow : OpenClaim := { program := "ytdlolnahbgecjaadoor", sum := "c39a64a529a9b0834c047268684d3bcfaa0b2b84f8229307e01de14fd8da620d", func := "scribe/scribelaw.Fits", spec := "fits", inPlace := ["internal/reflectlite.TypeOf"], unfollowed := true, recurses := true, named := ["scribe/scribe.errNoFit", "scribe/scribe.errNoChange", "internal/strconv.uint64pow10", "math/bits.deBruijn32tab", "math/bits.deBruijn64tab", "scribe/scribe.errNoName", "scribe/scribe.errNoRevision", "scribe/scribe.errOver", "scribe/scribe.errTwice", "scribe/scribe.errNone", "scribe/scribe.errGap", "scribe/scribe.errMany", "scribe/scribe.errFull"], apart := false, laid := [("math/bits.deBruijn32tab", laid_math_bits_deBruijn32tab), ("math/bits.deBruijn64tab", laid_math_bits_deBruijn64tab), ("internal/strconv.uint64pow10", laid_internal_strconv_uint64pow10), ("scribe/scribe.errNoChange", laid_scribe_scribe_errNoChange), ("scribe/scribe.errNoFit", laid_scribe_scribe_errNoFit), ("scribe/scribe.errNoName", laid_scribe_scribe_errNoName), ("scribe/scribe.errNoRevision", laid_scribe_scribe_errNoRevision), ("scribe/scribe.errOver", laid_scribe_scribe_errOver), ("scribe/scribe.errTwice", laid_scribe_scribe_errTwice), ("scribe/scribe.errNone", laid_scribe_scribe_errNone), ("scribe/scribe.errGap", laid_scribe_scribe_errGap), ("scribe/scribe.errMany", laid_scribe_scribe_errMany), ("scribe/scribe.errFull", laid_scribe_scribe_errFull)], narrowed := true }
def FitsUptoSaid : Prop := fitsUptoRow.holds Tryd.pinned (OpenSpec.upto fitsSpec)

/-- 'scribelaw.Shorts', WHERE WHAT IT READS IS OF BULK AT MOST 1048576: true; the input reads as it did. -/
def shortsUptoRow : OpenClaim := { program := "ytdlolnahbgecjaadoor", sum := "c39a64a529a9b0834c047268684d3bcfaa0b2b84f8229307e01de14fd8da620d", func := "scribe/scribelaw.Shorts", spec := "shorts", inPlace := ["internal/abi.NoEscape", "internal/reflectlite.TypeOf"], unfollowed := true, recurses := true, named := ["scribe/scribe.errNoChange", "internal/strconv.uint64pow10", "math/bits.deBruijn32tab", "math/bits.deBruijn64tab", "scribe/scribe.errNoFit", "scribe/scribe.errNoName", "scribe/scribe.errNoRevision", "scribe/scribe.errOver", "scribe/scribe.errTwice", "scribe/scribe.errNone", "scribe/scribe.errGap", "scribe/scribe.errMany", "scribe/scribe.errFull"], apart := false, laid := [("math/bits.deBruijn32tab", laid_math_bits_deBruijn32tab), ("math/bits.deBruijn64tab", laid_math_bits_deBruijn64tab), ("internal/strconv.uint64pow10", laid_internal_strconv_uint64pow10), ("scribe/scribe.errNoChange", laid_scribe_scribe_errNoChange), ("scribe/scribe.errNoFit", laid_scribe_scribe_errNoFit), ("scribe/scribe.errNoName", laid_scribe_scribe_errNoName), ("scribe/scribe.errNoRevision", laid_scribe_scribe_errNoRevision), ("scribe/scribe.errOver", laid_scribe_scribe_errOver), ("scribe/scribe.errTwice", laid_scribe_scribe_errTwice), ("scribe/scribe.errNone", laid_scribe_scribe_errNone), ("scribe/scribe.errGap", laid_scribe_scribe_errGap), ("scribe/scribe.errMany", laid_scribe_scribe_errMany), ("scribe/scribe.errFull", laid_scribe_scribe_errFull)], narrowed := true }
def ShortsUptoSaid : Prop := shortsUptoRow.holds Tryd.pinned (OpenSpec.upto shortsSpec)

/-- 'scribelaw.Does', WHERE WHAT IT READS IS OF BULK AT MOST 1048576: true; the input reads as it did. -/
def doesUptoRow : OpenClaim := { program := "ytdlolnahbgecjaadoor", sum := "c39a64a529a9b0834c047268684d3bcfaa0b2b84f8229307e01de14fd8da620d", func := "scribe/scribelaw.Does", spec := "does", inPlace := ["internal/abi.NoEscape", "internal/bytealg.MakeNoZero", "internal/reflectlite.TypeOf"], unfollowed := true, recurses := true, named := ["scribe/scribe.errNoFit", "scribe/scribe.errNoChange", "internal/strconv.uint64pow10", "math/bits.deBruijn32tab", "math/bits.deBruijn64tab", "scribe/scribe.errNoName", "scribe/scribe.errNoRevision", "scribe/scribe.errOver", "scribe/scribe.errTwice", "scribe/scribe.errNone", "scribe/scribe.errGap", "scribe/scribe.errMany", "scribe/scribe.errFull"], apart := false, laid := [("math/bits.deBruijn32tab", laid_math_bits_deBruijn32tab), ("math/bits.deBruijn64tab", laid_math_bits_deBruijn64tab), ("internal/strconv.uint64pow10", laid_internal_strconv_uint64pow10), ("scribe/scribe.errNoChange", laid_scribe_scribe_errNoChange), ("scribe/scribe.errNoFit", laid_scribe_scribe_errNoFit), ("scribe/scribe.errNoName", laid_scribe_scribe_errNoName), ("scribe/scribe.errNoRevision", laid_scribe_scribe_errNoRevision), ("scribe/scribe.errOver", laid_scribe_scribe_errOver), ("scribe/scribe.errTwice", laid_scribe_scribe_errTwice), ("scribe/scribe.errNone", laid_scribe_scribe_errNone), ("scribe/scribe.errGap", laid_scribe_scribe_errGap), ("scribe/scribe.errMany", laid_scribe_scribe_errMany), ("scribe/scribe.errFull", laid_scribe_scribe_errFull)], narrowed := true }
def DoesUptoSaid : Prop := doesUptoRow.holds Tryd.pinned (OpenSpec.upto doesSpec)

/-- 'scribelaw.Joins', WHERE WHAT IT READS IS OF BULK AT MOST 1048576: true; the input reads as it did. -/
def joinsUptoRow : OpenClaim := { program := "ytdlolnahbgecjaadoor", sum := "c39a64a529a9b0834c047268684d3bcfaa0b2b84f8229307e01de14fd8da620d", func := "scribe/scribelaw.Joins", spec := "joins", inPlace := ["internal/abi.NoEscape", "internal/reflectlite.TypeOf"], unfollowed := true, recurses := true, named := ["scribe/scribe.errNoChange", "internal/strconv.uint64pow10", "math/bits.deBruijn32tab", "math/bits.deBruijn64tab", "scribe/scribe.errNoFit", "scribe/scribe.errNoName", "scribe/scribe.errNoRevision", "scribe/scribe.errOver", "scribe/scribe.errTwice", "scribe/scribe.errNone", "scribe/scribe.errGap", "scribe/scribe.errMany", "scribe/scribe.errFull"], apart := false, laid := [("math/bits.deBruijn32tab", laid_math_bits_deBruijn32tab), ("math/bits.deBruijn64tab", laid_math_bits_deBruijn64tab), ("internal/strconv.uint64pow10", laid_internal_strconv_uint64pow10), ("scribe/scribe.errNoChange", laid_scribe_scribe_errNoChange), ("scribe/scribe.errNoFit", laid_scribe_scribe_errNoFit), ("scribe/scribe.errNoName", laid_scribe_scribe_errNoName), ("scribe/scribe.errNoRevision", laid_scribe_scribe_errNoRevision), ("scribe/scribe.errOver", laid_scribe_scribe_errOver), ("scribe/scribe.errTwice", laid_scribe_scribe_errTwice), ("scribe/scribe.errNone", laid_scribe_scribe_errNone), ("scribe/scribe.errGap", laid_scribe_scribe_errGap), ("scribe/scribe.errMany", laid_scribe_scribe_errMany), ("scribe/scribe.errFull", laid_scribe_scribe_errFull)], narrowed := true }
def JoinsUptoSaid : Prop := joinsUptoRow.holds Tryd.pinned (OpenSpec.upto joinsSpec)

/-- 'scribelaw.Turns', WHERE WHAT IT READS IS OF BULK AT MOST 1048576: true; the input reads as it did. -/
def turnsUptoRow : OpenClaim := { program := "ytdlolnahbgecjaadoor", sum := "c39a64a529a9b0834c047268684d3bcfaa0b2b84f8229307e01de14fd8da620d", func := "scribe/scribelaw.Turns", spec := "turns", inPlace := ["internal/abi.NoEscape", "internal/reflectlite.TypeOf"], unfollowed := true, recurses := true, named := ["scribe/scribe.errNoChange", "internal/strconv.uint64pow10", "math/bits.deBruijn32tab", "math/bits.deBruijn64tab", "scribe/scribe.errNoFit", "scribe/scribe.errNoName", "scribe/scribe.errNoRevision", "scribe/scribe.errOver", "scribe/scribe.errTwice", "scribe/scribe.errNone", "scribe/scribe.errGap", "scribe/scribe.errMany", "scribe/scribe.errFull"], apart := false, laid := [("math/bits.deBruijn32tab", laid_math_bits_deBruijn32tab), ("math/bits.deBruijn64tab", laid_math_bits_deBruijn64tab), ("internal/strconv.uint64pow10", laid_internal_strconv_uint64pow10), ("scribe/scribe.errNoChange", laid_scribe_scribe_errNoChange), ("scribe/scribe.errNoFit", laid_scribe_scribe_errNoFit), ("scribe/scribe.errNoName", laid_scribe_scribe_errNoName), ("scribe/scribe.errNoRevision", laid_scribe_scribe_errNoRevision), ("scribe/scribe.errOver", laid_scribe_scribe_errOver), ("scribe/scribe.errTwice", laid_scribe_scribe_errTwice), ("scribe/scribe.errNone", laid_scribe_scribe_errNone), ("scribe/scribe.errGap", laid_scribe_scribe_errGap), ("scribe/scribe.errMany", laid_scribe_scribe_errMany), ("scribe/scribe.errFull", laid_scribe_scribe_errFull)], narrowed := true }
def TurnsUptoSaid : Prop := turnsUptoRow.holds Tryd.pinned (OpenSpec.upto turnsSpec)

/-- 'scribelaw.Meet', WHERE WHAT IT READS IS OF BULK AT MOST 1048576: true; the input reads as it did. -/
def meetUptoRow : OpenClaim := { program := "ytdlolnahbgecjaadoor", sum := "c39a64a529a9b0834c047268684d3bcfaa0b2b84f8229307e01de14fd8da620d", func := "scribe/scribelaw.Meet", spec := "meet", inPlace := ["internal/abi.NoEscape", "internal/bytealg.MakeNoZero", "internal/reflectlite.TypeOf"], unfollowed := true, recurses := true, named := ["scribe/scribe.errNoFit", "scribe/scribe.errNoChange", "internal/strconv.uint64pow10", "math/bits.deBruijn32tab", "math/bits.deBruijn64tab", "scribe/scribe.errNoName", "scribe/scribe.errNoRevision", "scribe/scribe.errOver", "scribe/scribe.errTwice", "scribe/scribe.errNone", "scribe/scribe.errGap", "scribe/scribe.errMany", "scribe/scribe.errFull"], apart := false, laid := [("math/bits.deBruijn32tab", laid_math_bits_deBruijn32tab), ("math/bits.deBruijn64tab", laid_math_bits_deBruijn64tab), ("internal/strconv.uint64pow10", laid_internal_strconv_uint64pow10), ("scribe/scribe.errNoChange", laid_scribe_scribe_errNoChange), ("scribe/scribe.errNoFit", laid_scribe_scribe_errNoFit), ("scribe/scribe.errNoName", laid_scribe_scribe_errNoName), ("scribe/scribe.errNoRevision", laid_scribe_scribe_errNoRevision), ("scribe/scribe.errOver", laid_scribe_scribe_errOver), ("scribe/scribe.errTwice", laid_scribe_scribe_errTwice), ("scribe/scribe.errNone", laid_scribe_scribe_errNone), ("scribe/scribe.errGap", laid_scribe_scribe_errGap), ("scribe/scribe.errMany", laid_scribe_scribe_errMany), ("scribe/scribe.errFull", laid_scribe_scribe_errFull)], narrowed := true }
def MeetUptoSaid : Prop := meetUptoRow.holds Tryd.pinned (OpenSpec.upto meetSpec)

/-- 'scribelaw.Both', WHERE WHAT IT READS IS OF BULK AT MOST 1048576: true; the input reads as it did. -/
def bothUptoRow : OpenClaim := { program := "ytdlolnahbgecjaadoor", sum := "c39a64a529a9b0834c047268684d3bcfaa0b2b84f8229307e01de14fd8da620d", func := "scribe/scribelaw.Both", spec := "both", inPlace := ["internal/abi.NoEscape", "internal/bytealg.MakeNoZero", "internal/reflectlite.TypeOf"], unfollowed := true, recurses := true, named := ["scribe/scribe.errNoFit", "scribe/scribe.errNoChange", "internal/strconv.uint64pow10", "math/bits.deBruijn32tab", "math/bits.deBruijn64tab", "scribe/scribe.errNoName", "scribe/scribe.errNoRevision", "scribe/scribe.errOver", "scribe/scribe.errTwice", "scribe/scribe.errNone", "scribe/scribe.errGap", "scribe/scribe.errMany", "scribe/scribe.errFull"], apart := false, laid := [("math/bits.deBruijn32tab", laid_math_bits_deBruijn32tab), ("math/bits.deBruijn64tab", laid_math_bits_deBruijn64tab), ("internal/strconv.uint64pow10", laid_internal_strconv_uint64pow10), ("scribe/scribe.errNoChange", laid_scribe_scribe_errNoChange), ("scribe/scribe.errNoFit", laid_scribe_scribe_errNoFit), ("scribe/scribe.errNoName", laid_scribe_scribe_errNoName), ("scribe/scribe.errNoRevision", laid_scribe_scribe_errNoRevision), ("scribe/scribe.errOver", laid_scribe_scribe_errOver), ("scribe/scribe.errTwice", laid_scribe_scribe_errTwice), ("scribe/scribe.errNone", laid_scribe_scribe_errNone), ("scribe/scribe.errGap", laid_scribe_scribe_errGap), ("scribe/scribe.errMany", laid_scribe_scribe_errMany), ("scribe/scribe.errFull", laid_scribe_scribe_errFull)], narrowed := true }
def BothUptoSaid : Prop := bothUptoRow.holds Tryd.pinned (OpenSpec.upto bothSpec)

end Rows
end Go.Proofs.YtdlolnahbgecjaaDoor
