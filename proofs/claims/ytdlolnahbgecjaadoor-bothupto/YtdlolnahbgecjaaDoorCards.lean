/-
  DERIVED. GIVEN WITH THE SEED: THE CARDS: each row of YtdlolnahbgecjaaDoorRows.lean that lists a variable, with what it lists TIED to the program's text (the seventh form; the later family's looks); each row that meets fmt, with fmt's text TOLD by the authors' own Lean function (tested against real Go, not proved from fmt's source: count such statements apart). THE CARD IS WHAT COUNTS. Prove the row's statement (the work); the ties are given (YtdlolnahbgecjaaDoorTie.lean); close each card by the builder's one call (the guide's Derived/Test/ToyasCard.lean, 'card_holds'). Laid BY PROGRAM, IN A SANDBOX (cutbox-door.mjs). By AI agents, Wed Nov 11 2026. No macro, syntax, notation, axiom, sorry.
-/
import Derived.Test.YtdlolnahbgecjaaDoorRows
import GoSem.ClaimSeven
namespace Go.Proofs.YtdlolnahbgecjaaDoor
namespace Rows

/-- THE TIED CARD OF 'scribelaw.Fits'. -/
def fitsCard : Claim7 := { stood := { row := fitsRow, standIns := [], harness := (true, "ccde7812679a4347b14ede604948c3eb5f45c903d10a45ec69952f5086eda5c3"), looks := true }, kinds := [], alts := [], laidByText := true, laidKinds := [.data, .data, .data, .sentinel, .sentinel, .sentinel, .sentinel, .sentinel, .sentinel, .sentinel, .sentinel, .sentinel, .sentinel], laidTests := true, laidLooks := .later }
def FitsCardSaid : Prop := Claim7.holds Tryd.pinned (.plain (OpenSpec.ofChange fitsSpec)) fitsCard

/-- THE TIED CARD OF 'scribelaw.Shorts'. -/
def shortsCard : Claim7 := { stood := { row := shortsRow, standIns := [], harness := (true, "ccde7812679a4347b14ede604948c3eb5f45c903d10a45ec69952f5086eda5c3"), looks := true }, kinds := [], alts := [], laidByText := true, laidKinds := [.data, .data, .data, .sentinel, .sentinel, .sentinel, .sentinel, .sentinel, .sentinel, .sentinel, .sentinel, .sentinel, .sentinel], laidTests := true, laidLooks := .later }
def ShortsCardSaid : Prop := Claim7.holds Tryd.pinned (.plain (OpenSpec.ofChange shortsSpec)) shortsCard

/-- THE TIED CARD OF 'scribelaw.Does'. -/
def doesCard : Claim7 := { stood := { row := doesRow, standIns := [], harness := (true, "ccde7812679a4347b14ede604948c3eb5f45c903d10a45ec69952f5086eda5c3"), looks := true }, kinds := [], alts := [], laidByText := true, laidKinds := [.data, .data, .data, .sentinel, .sentinel, .sentinel, .sentinel, .sentinel, .sentinel, .sentinel, .sentinel, .sentinel, .sentinel], laidTests := true, laidLooks := .later }
def DoesCardSaid : Prop := Claim7.holds Tryd.pinned (.plain (OpenSpec.ofChange doesSpec)) doesCard

/-- THE TIED CARD OF 'scribelaw.Joins'. -/
def joinsCard : Claim7 := { stood := { row := joinsRow, standIns := [], harness := (true, "ccde7812679a4347b14ede604948c3eb5f45c903d10a45ec69952f5086eda5c3"), looks := true }, kinds := [], alts := [], laidByText := true, laidKinds := [.data, .data, .data, .sentinel, .sentinel, .sentinel, .sentinel, .sentinel, .sentinel, .sentinel, .sentinel, .sentinel, .sentinel], laidTests := true, laidLooks := .later }
def JoinsCardSaid : Prop := Claim7.holds Tryd.pinned (.plain (OpenSpec.ofChange joinsSpec)) joinsCard

/-- THE TIED CARD OF 'scribelaw.Turns'. -/
def turnsCard : Claim7 := { stood := { row := turnsRow, standIns := [], harness := (true, "ccde7812679a4347b14ede604948c3eb5f45c903d10a45ec69952f5086eda5c3"), looks := true }, kinds := [], alts := [], laidByText := true, laidKinds := [.data, .data, .data, .sentinel, .sentinel, .sentinel, .sentinel, .sentinel, .sentinel, .sentinel, .sentinel, .sentinel, .sentinel], laidTests := true, laidLooks := .later }
def TurnsCardSaid : Prop := Claim7.holds Tryd.pinned (.plain (OpenSpec.ofChange turnsSpec)) turnsCard

/-- THE TIED CARD OF 'scribelaw.Meet'. -/
def meetCard : Claim7 := { stood := { row := meetRow, standIns := [], harness := (true, "ccde7812679a4347b14ede604948c3eb5f45c903d10a45ec69952f5086eda5c3"), looks := true }, kinds := [], alts := [], laidByText := true, laidKinds := [.data, .data, .data, .sentinel, .sentinel, .sentinel, .sentinel, .sentinel, .sentinel, .sentinel, .sentinel, .sentinel, .sentinel], laidTests := true, laidLooks := .later }
def MeetCardSaid : Prop := Claim7.holds Tryd.pinned (.plain (OpenSpec.ofChange meetSpec)) meetCard

/-- THE TIED CARD OF 'scribelaw.Both'. -/
def bothCard : Claim7 := { stood := { row := bothRow, standIns := [], harness := (true, "ccde7812679a4347b14ede604948c3eb5f45c903d10a45ec69952f5086eda5c3"), looks := true }, kinds := [], alts := [], laidByText := true, laidKinds := [.data, .data, .data, .sentinel, .sentinel, .sentinel, .sentinel, .sentinel, .sentinel, .sentinel, .sentinel, .sentinel, .sentinel], laidTests := true, laidLooks := .later }
def BothCardSaid : Prop := Claim7.holds Tryd.pinned (.plain (OpenSpec.ofChange bothSpec)) bothCard

/-- THE SECOND FORM's CARD OF 'scribelaw.Fits'. -/
def fitsUptoCard : Claim7 := { stood := { row := fitsUptoRow, standIns := [], harness := (true, "ccde7812679a4347b14ede604948c3eb5f45c903d10a45ec69952f5086eda5c3"), looks := true }, kinds := [], alts := [], laidByText := true, laidKinds := [.data, .data, .data, .sentinel, .sentinel, .sentinel, .sentinel, .sentinel, .sentinel, .sentinel, .sentinel, .sentinel, .sentinel], laidTests := true, laidLooks := .later }
def FitsUptoCardSaid : Prop := Claim7.holds Tryd.pinned (.plain (OpenSpec.upto fitsSpec)) fitsUptoCard

/-- THE SECOND FORM's CARD OF 'scribelaw.Shorts'. -/
def shortsUptoCard : Claim7 := { stood := { row := shortsUptoRow, standIns := [], harness := (true, "ccde7812679a4347b14ede604948c3eb5f45c903d10a45ec69952f5086eda5c3"), looks := true }, kinds := [], alts := [], laidByText := true, laidKinds := [.data, .data, .data, .sentinel, .sentinel, .sentinel, .sentinel, .sentinel, .sentinel, .sentinel, .sentinel, .sentinel, .sentinel], laidTests := true, laidLooks := .later }
def ShortsUptoCardSaid : Prop := Claim7.holds Tryd.pinned (.plain (OpenSpec.upto shortsSpec)) shortsUptoCard

/-- THE SECOND FORM's CARD OF 'scribelaw.Does'. -/
def doesUptoCard : Claim7 := { stood := { row := doesUptoRow, standIns := [], harness := (true, "ccde7812679a4347b14ede604948c3eb5f45c903d10a45ec69952f5086eda5c3"), looks := true }, kinds := [], alts := [], laidByText := true, laidKinds := [.data, .data, .data, .sentinel, .sentinel, .sentinel, .sentinel, .sentinel, .sentinel, .sentinel, .sentinel, .sentinel, .sentinel], laidTests := true, laidLooks := .later }
def DoesUptoCardSaid : Prop := Claim7.holds Tryd.pinned (.plain (OpenSpec.upto doesSpec)) doesUptoCard

/-- THE SECOND FORM's CARD OF 'scribelaw.Joins'. -/
def joinsUptoCard : Claim7 := { stood := { row := joinsUptoRow, standIns := [], harness := (true, "ccde7812679a4347b14ede604948c3eb5f45c903d10a45ec69952f5086eda5c3"), looks := true }, kinds := [], alts := [], laidByText := true, laidKinds := [.data, .data, .data, .sentinel, .sentinel, .sentinel, .sentinel, .sentinel, .sentinel, .sentinel, .sentinel, .sentinel, .sentinel], laidTests := true, laidLooks := .later }
def JoinsUptoCardSaid : Prop := Claim7.holds Tryd.pinned (.plain (OpenSpec.upto joinsSpec)) joinsUptoCard

/-- THE SECOND FORM's CARD OF 'scribelaw.Turns'. -/
def turnsUptoCard : Claim7 := { stood := { row := turnsUptoRow, standIns := [], harness := (true, "ccde7812679a4347b14ede604948c3eb5f45c903d10a45ec69952f5086eda5c3"), looks := true }, kinds := [], alts := [], laidByText := true, laidKinds := [.data, .data, .data, .sentinel, .sentinel, .sentinel, .sentinel, .sentinel, .sentinel, .sentinel, .sentinel, .sentinel, .sentinel], laidTests := true, laidLooks := .later }
def TurnsUptoCardSaid : Prop := Claim7.holds Tryd.pinned (.plain (OpenSpec.upto turnsSpec)) turnsUptoCard

/-- THE SECOND FORM's CARD OF 'scribelaw.Meet'. -/
def meetUptoCard : Claim7 := { stood := { row := meetUptoRow, standIns := [], harness := (true, "ccde7812679a4347b14ede604948c3eb5f45c903d10a45ec69952f5086eda5c3"), looks := true }, kinds := [], alts := [], laidByText := true, laidKinds := [.data, .data, .data, .sentinel, .sentinel, .sentinel, .sentinel, .sentinel, .sentinel, .sentinel, .sentinel, .sentinel, .sentinel], laidTests := true, laidLooks := .later }
def MeetUptoCardSaid : Prop := Claim7.holds Tryd.pinned (.plain (OpenSpec.upto meetSpec)) meetUptoCard

/-- THE SECOND FORM's CARD OF 'scribelaw.Both'. -/
def bothUptoCard : Claim7 := { stood := { row := bothUptoRow, standIns := [], harness := (true, "ccde7812679a4347b14ede604948c3eb5f45c903d10a45ec69952f5086eda5c3"), looks := true }, kinds := [], alts := [], laidByText := true, laidKinds := [.data, .data, .data, .sentinel, .sentinel, .sentinel, .sentinel, .sentinel, .sentinel, .sentinel, .sentinel, .sentinel, .sentinel], laidTests := true, laidLooks := .later }
def BothUptoCardSaid : Prop := Claim7.holds Tryd.pinned (.plain (OpenSpec.upto bothSpec)) bothUptoCard
end Rows
end Go.Proofs.YtdlolnahbgecjaaDoor
