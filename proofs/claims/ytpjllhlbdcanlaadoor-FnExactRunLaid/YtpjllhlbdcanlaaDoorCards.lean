/-
  DERIVED. GIVEN WITH THE SEED: THE CARDS: each row of YtpjllhlbdcanlaaDoorRows.lean that lists a variable, with what it lists TIED to the program's text (the seventh form; the later family's looks); each row that meets fmt, with fmt's text TOLD by the authors' own Lean function (tested against real Go, not proved from fmt's source: count such statements apart). THE CARD IS WHAT COUNTS. Prove the row's statement (the work); the ties are given (YtpjllhlbdcanlaaDoorTie.lean); close each card by the builder's one call (the guide's Derived/Test/ToyasCard.lean, 'card_holds'). Laid BY PROGRAM, IN A SANDBOX (cutbox-door.mjs). By AI agents, Wed Nov 11 2026. No macro, syntax, notation, axiom, sorry.
-/
import Derived.Test.YtpjllhlbdcanlaaDoorRows
import GoSem.ClaimSeven
namespace Go.Proofs.YtpjllhlbdcanlaaDoor
namespace Rows

/-- THE TIED CARD OF 'laws.FnBitsBack'. -/
def fnBitsBackCard : Claim7 := { stood := { row := fnBitsBackRow, standIns := [], harness := (true, "8adb555f6374fb04fc1e48e1285aa6ce144359f2a9e64e5473dfeaf40ac4ac12"), looks := false }, kinds := [], alts := [], laidByText := true, laidKinds := [.data], laidTests := true, laidLooks := .later }
def FnBitsBackCardSaid : Prop := Claim7.holds Tryd.pinned (.plain (OpenSpec.ofChange fnBitsBackSpec)) fnBitsBackCard

/-- THE TIED CARD OF 'laws.FnExactGatesFor'. -/
def fnExactGatesForCard : Claim7 := { stood := { row := fnExactGatesForRow, standIns := [], harness := (true, "8adb555f6374fb04fc1e48e1285aa6ce144359f2a9e64e5473dfeaf40ac4ac12"), looks := false }, kinds := [], alts := [], laidByText := true, laidKinds := [.data], laidTests := true, laidLooks := .later }
def FnExactGatesForCardSaid : Prop := Claim7.holds Tryd.pinned (.plain (OpenSpec.ofChange fnExactGatesForSpec)) fnExactGatesForCard

/-- THE TIED CARD OF 'laws.FnExactBitsOf'. -/
def fnExactBitsOfCard : Claim7 := { stood := { row := fnExactBitsOfRow, standIns := [], harness := (true, "8adb555f6374fb04fc1e48e1285aa6ce144359f2a9e64e5473dfeaf40ac4ac12"), looks := false }, kinds := [], alts := [], laidByText := true, laidKinds := [.data], laidTests := true, laidLooks := .later }
def FnExactBitsOfCardSaid : Prop := Claim7.holds Tryd.pinned (.plain (OpenSpec.ofChange fnExactBitsOfSpec)) fnExactBitsOfCard

/-- THE TIED CARD OF 'laws.FnExactRunLaid'. -/
def fnExactRunLaidCard : Claim7 := { stood := { row := fnExactRunLaidRow, standIns := [], harness := (true, "8adb555f6374fb04fc1e48e1285aa6ce144359f2a9e64e5473dfeaf40ac4ac12"), looks := false }, kinds := [], alts := [], laidByText := true, laidKinds := [.data], laidTests := true, laidLooks := .later }
def FnExactRunLaidCardSaid : Prop := Claim7.holds Tryd.pinned (.plain (OpenSpec.ofChange fnExactRunLaidSpec)) fnExactRunLaidCard

/-- THE TIED CARD OF 'laws.FnExactGateCount'. -/
def fnExactGateCountCard : Claim7 := { stood := { row := fnExactGateCountRow, standIns := [], harness := (true, "8adb555f6374fb04fc1e48e1285aa6ce144359f2a9e64e5473dfeaf40ac4ac12"), looks := false }, kinds := [], alts := [], laidByText := true, laidKinds := [.data], laidTests := true, laidLooks := .later }
def FnExactGateCountCardSaid : Prop := Claim7.holds Tryd.pinned (.plain (OpenSpec.ofChange fnExactGateCountSpec)) fnExactGateCountCard

/-- THE SECOND FORM's CARD OF 'laws.FnBitsBack'. -/
def fnBitsBackUptoCard : Claim7 := { stood := { row := fnBitsBackUptoRow, standIns := [], harness := (true, "8adb555f6374fb04fc1e48e1285aa6ce144359f2a9e64e5473dfeaf40ac4ac12"), looks := false }, kinds := [], alts := [], laidByText := true, laidKinds := [.data], laidTests := true, laidLooks := .later }
def FnBitsBackUptoCardSaid : Prop := Claim7.holds Tryd.pinned (.plain (OpenSpec.upto fnBitsBackSpec)) fnBitsBackUptoCard

/-- THE SECOND FORM's CARD OF 'laws.FnExactGatesFor'. -/
def fnExactGatesForUptoCard : Claim7 := { stood := { row := fnExactGatesForUptoRow, standIns := [], harness := (true, "8adb555f6374fb04fc1e48e1285aa6ce144359f2a9e64e5473dfeaf40ac4ac12"), looks := false }, kinds := [], alts := [], laidByText := true, laidKinds := [.data], laidTests := true, laidLooks := .later }
def FnExactGatesForUptoCardSaid : Prop := Claim7.holds Tryd.pinned (.plain (OpenSpec.upto fnExactGatesForSpec)) fnExactGatesForUptoCard

/-- THE SECOND FORM's CARD OF 'laws.FnExactBitsOf'. -/
def fnExactBitsOfUptoCard : Claim7 := { stood := { row := fnExactBitsOfUptoRow, standIns := [], harness := (true, "8adb555f6374fb04fc1e48e1285aa6ce144359f2a9e64e5473dfeaf40ac4ac12"), looks := false }, kinds := [], alts := [], laidByText := true, laidKinds := [.data], laidTests := true, laidLooks := .later }
def FnExactBitsOfUptoCardSaid : Prop := Claim7.holds Tryd.pinned (.plain (OpenSpec.upto fnExactBitsOfSpec)) fnExactBitsOfUptoCard

/-- THE SECOND FORM's CARD OF 'laws.FnExactRunLaid'. -/
def fnExactRunLaidUptoCard : Claim7 := { stood := { row := fnExactRunLaidUptoRow, standIns := [], harness := (true, "8adb555f6374fb04fc1e48e1285aa6ce144359f2a9e64e5473dfeaf40ac4ac12"), looks := false }, kinds := [], alts := [], laidByText := true, laidKinds := [.data], laidTests := true, laidLooks := .later }
def FnExactRunLaidUptoCardSaid : Prop := Claim7.holds Tryd.pinned (.plain (OpenSpec.upto fnExactRunLaidSpec)) fnExactRunLaidUptoCard

/-- THE SECOND FORM's CARD OF 'laws.FnExactGateCount'. -/
def fnExactGateCountUptoCard : Claim7 := { stood := { row := fnExactGateCountUptoRow, standIns := [], harness := (true, "8adb555f6374fb04fc1e48e1285aa6ce144359f2a9e64e5473dfeaf40ac4ac12"), looks := false }, kinds := [], alts := [], laidByText := true, laidKinds := [.data], laidTests := true, laidLooks := .later }
def FnExactGateCountUptoCardSaid : Prop := Claim7.holds Tryd.pinned (.plain (OpenSpec.upto fnExactGateCountSpec)) fnExactGateCountUptoCard
end Rows
end Go.Proofs.YtpjllhlbdcanlaaDoor
