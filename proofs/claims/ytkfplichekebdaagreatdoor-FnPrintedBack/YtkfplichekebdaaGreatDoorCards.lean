/-
  DERIVED. GIVEN WITH THE SEED: THE CARDS: each row of YtkfplichekebdaaGreatDoorRows.lean that lists a variable, with what it lists TIED to the program's text (the seventh form; the later family's looks); each row that meets fmt, with fmt's text TOLD by the authors' own Lean function (tested against real Go, not proved from fmt's source: count such statements apart). THE CARD IS WHAT COUNTS. Prove the row's statement (the work); the ties are given (YtkfplichekebdaaGreatDoorTie.lean); close each card by the builder's one call (the guide's Derived/Test/ToyasCard.lean, 'card_holds'). Laid BY PROGRAM, IN A SANDBOX (cutbox-door.mjs). By AI agents, Wed Nov 11 2026. No macro, syntax, notation, axiom, sorry.
-/
import Derived.Test.YtkfplichekebdaaGreatDoorRows
import GoSem.ClaimSeven
namespace Go.Proofs.YtkfplichekebdaaGreatDoor
namespace Rows

/-- THE TIED CARD OF 'laws.FnReadBack'. -/
def fnReadBackCard : Claim7 := { stood := { row := fnReadBackRow, standIns := [], harness := (true, "23efb808433ae2e20c291c05d37ec2f5d37f70bb37328661916f4eb924dcd987"), looks := true }, kinds := [], alts := [], laidByText := true, laidKinds := [.data, .data, .data, .sentinel, .sentinel, .data, .data], laidTests := true, laidLooks := .later }
def FnReadBackCardSaid : Prop := Claim7.holds Tryz.pinned (.plain (OpenSpec.ofChange fnReadBackSpec)) fnReadBackCard

/-- THE TIED CARD OF 'laws.FnPrintedBack'. -/
def fnPrintedBackCard : Claim7 := { stood := { row := fnPrintedBackRow, standIns := [], harness := (true, "23efb808433ae2e20c291c05d37ec2f5d37f70bb37328661916f4eb924dcd987"), looks := true }, kinds := [], alts := [], laidByText := true, laidKinds := [.data, .data, .data, .sentinel, .sentinel, .data, .data], laidTests := true, laidLooks := .later }
def FnPrintedBackCardSaid : Prop := Claim7.holds Tryz.pinned (.plain (OpenSpec.ofChange fnPrintedBackSpec)) fnPrintedBackCard

/-- THE SECOND FORM's CARD OF 'laws.FnReadBack'. -/
def fnReadBackUptoCard : Claim7 := { stood := { row := fnReadBackUptoRow, standIns := [], harness := (true, "23efb808433ae2e20c291c05d37ec2f5d37f70bb37328661916f4eb924dcd987"), looks := true }, kinds := [], alts := [], laidByText := true, laidKinds := [.data, .data, .data, .sentinel, .sentinel, .data, .data], laidTests := true, laidLooks := .later }
def FnReadBackUptoCardSaid : Prop := Claim7.holds Tryz.pinned (.plain (OpenSpec.upto fnReadBackSpec)) fnReadBackUptoCard

/-- THE SECOND FORM's CARD OF 'laws.FnPrintedBack'. -/
def fnPrintedBackUptoCard : Claim7 := { stood := { row := fnPrintedBackUptoRow, standIns := [], harness := (true, "23efb808433ae2e20c291c05d37ec2f5d37f70bb37328661916f4eb924dcd987"), looks := true }, kinds := [], alts := [], laidByText := true, laidKinds := [.data, .data, .data, .sentinel, .sentinel, .data, .data], laidTests := true, laidLooks := .later }
def FnPrintedBackUptoCardSaid : Prop := Claim7.holds Tryz.pinned (.plain (OpenSpec.upto fnPrintedBackSpec)) fnPrintedBackUptoCard
end Rows
end Go.Proofs.YtkfplichekebdaaGreatDoor
