/-
  DERIVED. GIVEN WITH THE SEED: THE CARDS: each row of YtajmlkhilemgiaaDoorRows.lean that lists a variable, with what it lists TIED to the program's text (the seventh form; the later family's looks); each row that meets fmt, with fmt's text TOLD by the authors' own Lean function (tested against real Go, not proved from fmt's source: count such statements apart). THE CARD IS WHAT COUNTS. Prove the row's statement (the work); the ties are given (YtajmlkhilemgiaaDoorTie.lean); close each card by the builder's one call (the guide's Derived/Test/ToyasCard.lean, 'card_holds'). Laid BY PROGRAM, IN A SANDBOX (cutbox-door.mjs). By AI agents, Wed Nov 11 2026. No macro, syntax, notation, axiom, sorry.
-/
import Derived.Test.YtajmlkhilemgiaaDoorRows
import GoSem.ClaimSeven
namespace Go.Proofs.YtajmlkhilemgiaaDoor
namespace Rows

/-- THE TIED CARD OF 'laws.FnBitsBack'. -/
def fnBitsBackCard : Claim7 := { stood := { row := fnBitsBackRow, standIns := [], harness := (true, "88eb720cddb22d2ba5d5d8584fc616552d0908e5fa4cf1f778dad09c5e1d20aa"), looks := false }, kinds := [], alts := [], laidByText := true, laidKinds := [.data], laidTests := true, laidLooks := .later }
def FnBitsBackCardSaid : Prop := Claim7.holds Tryd.pinned (.plain (OpenSpec.ofChange fnBitsBackSpec)) fnBitsBackCard

/-- THE TIED CARD OF 'laws.FnExactIsPlain'. -/
def fnExactIsPlainCard : Claim7 := { stood := { row := fnExactIsPlainRow, standIns := [], harness := (true, "88eb720cddb22d2ba5d5d8584fc616552d0908e5fa4cf1f778dad09c5e1d20aa"), looks := false }, kinds := [], alts := [], laidByText := true, laidKinds := [.data], laidTests := true, laidLooks := .later }
def FnExactIsPlainCardSaid : Prop := Claim7.holds Tryd.pinned (.plain (OpenSpec.ofChange fnExactIsPlainSpec)) fnExactIsPlainCard

/-- THE TIED CARD OF 'laws.FnExactGatesFor'. -/
def fnExactGatesForCard : Claim7 := { stood := { row := fnExactGatesForRow, standIns := [], harness := (true, "88eb720cddb22d2ba5d5d8584fc616552d0908e5fa4cf1f778dad09c5e1d20aa"), looks := false }, kinds := [], alts := [], laidByText := true, laidKinds := [.data], laidTests := true, laidLooks := .later }
def FnExactGatesForCardSaid : Prop := Claim7.holds Tryd.pinned (.plain (OpenSpec.ofChange fnExactGatesForSpec)) fnExactGatesForCard

/-- THE TIED CARD OF 'laws.FnExactBitsOf'. -/
def fnExactBitsOfCard : Claim7 := { stood := { row := fnExactBitsOfRow, standIns := [], harness := (true, "88eb720cddb22d2ba5d5d8584fc616552d0908e5fa4cf1f778dad09c5e1d20aa"), looks := false }, kinds := [], alts := [], laidByText := true, laidKinds := [.data], laidTests := true, laidLooks := .later }
def FnExactBitsOfCardSaid : Prop := Claim7.holds Tryd.pinned (.plain (OpenSpec.ofChange fnExactBitsOfSpec)) fnExactBitsOfCard

/-- THE TIED CARD OF 'laws.FnExactRunLaid'. -/
def fnExactRunLaidCard : Claim7 := { stood := { row := fnExactRunLaidRow, standIns := [], harness := (true, "88eb720cddb22d2ba5d5d8584fc616552d0908e5fa4cf1f778dad09c5e1d20aa"), looks := false }, kinds := [], alts := [], laidByText := true, laidKinds := [.data], laidTests := true, laidLooks := .later }
def FnExactRunLaidCardSaid : Prop := Claim7.holds Tryd.pinned (.plain (OpenSpec.ofChange fnExactRunLaidSpec)) fnExactRunLaidCard

/-- THE TIED CARD OF 'laws.FnExactGateCount'. -/
def fnExactGateCountCard : Claim7 := { stood := { row := fnExactGateCountRow, standIns := [], harness := (true, "88eb720cddb22d2ba5d5d8584fc616552d0908e5fa4cf1f778dad09c5e1d20aa"), looks := false }, kinds := [], alts := [], laidByText := true, laidKinds := [.data], laidTests := true, laidLooks := .later }
def FnExactGateCountCardSaid : Prop := Claim7.holds Tryd.pinned (.plain (OpenSpec.ofChange fnExactGateCountSpec)) fnExactGateCountCard

/-- THE SECOND FORM's CARD OF 'laws.FnBitsBack'. -/
def fnBitsBackUptoCard : Claim7 := { stood := { row := fnBitsBackUptoRow, standIns := [], harness := (true, "88eb720cddb22d2ba5d5d8584fc616552d0908e5fa4cf1f778dad09c5e1d20aa"), looks := false }, kinds := [], alts := [], laidByText := true, laidKinds := [.data], laidTests := true, laidLooks := .later }
def FnBitsBackUptoCardSaid : Prop := Claim7.holds Tryd.pinned (.plain (OpenSpec.upto fnBitsBackSpec)) fnBitsBackUptoCard

/-- THE SECOND FORM's CARD OF 'laws.FnExactIsPlain'. -/
def fnExactIsPlainUptoCard : Claim7 := { stood := { row := fnExactIsPlainUptoRow, standIns := [], harness := (true, "88eb720cddb22d2ba5d5d8584fc616552d0908e5fa4cf1f778dad09c5e1d20aa"), looks := false }, kinds := [], alts := [], laidByText := true, laidKinds := [.data], laidTests := true, laidLooks := .later }
def FnExactIsPlainUptoCardSaid : Prop := Claim7.holds Tryd.pinned (.plain (OpenSpec.upto fnExactIsPlainSpec)) fnExactIsPlainUptoCard

/-- THE SECOND FORM's CARD OF 'laws.FnExactGatesFor'. -/
def fnExactGatesForUptoCard : Claim7 := { stood := { row := fnExactGatesForUptoRow, standIns := [], harness := (true, "88eb720cddb22d2ba5d5d8584fc616552d0908e5fa4cf1f778dad09c5e1d20aa"), looks := false }, kinds := [], alts := [], laidByText := true, laidKinds := [.data], laidTests := true, laidLooks := .later }
def FnExactGatesForUptoCardSaid : Prop := Claim7.holds Tryd.pinned (.plain (OpenSpec.upto fnExactGatesForSpec)) fnExactGatesForUptoCard

/-- THE SECOND FORM's CARD OF 'laws.FnExactBitsOf'. -/
def fnExactBitsOfUptoCard : Claim7 := { stood := { row := fnExactBitsOfUptoRow, standIns := [], harness := (true, "88eb720cddb22d2ba5d5d8584fc616552d0908e5fa4cf1f778dad09c5e1d20aa"), looks := false }, kinds := [], alts := [], laidByText := true, laidKinds := [.data], laidTests := true, laidLooks := .later }
def FnExactBitsOfUptoCardSaid : Prop := Claim7.holds Tryd.pinned (.plain (OpenSpec.upto fnExactBitsOfSpec)) fnExactBitsOfUptoCard

/-- THE SECOND FORM's CARD OF 'laws.FnExactRunLaid'. -/
def fnExactRunLaidUptoCard : Claim7 := { stood := { row := fnExactRunLaidUptoRow, standIns := [], harness := (true, "88eb720cddb22d2ba5d5d8584fc616552d0908e5fa4cf1f778dad09c5e1d20aa"), looks := false }, kinds := [], alts := [], laidByText := true, laidKinds := [.data], laidTests := true, laidLooks := .later }
def FnExactRunLaidUptoCardSaid : Prop := Claim7.holds Tryd.pinned (.plain (OpenSpec.upto fnExactRunLaidSpec)) fnExactRunLaidUptoCard

/-- THE SECOND FORM's CARD OF 'laws.FnExactGateCount'. -/
def fnExactGateCountUptoCard : Claim7 := { stood := { row := fnExactGateCountUptoRow, standIns := [], harness := (true, "88eb720cddb22d2ba5d5d8584fc616552d0908e5fa4cf1f778dad09c5e1d20aa"), looks := false }, kinds := [], alts := [], laidByText := true, laidKinds := [.data], laidTests := true, laidLooks := .later }
def FnExactGateCountUptoCardSaid : Prop := Claim7.holds Tryd.pinned (.plain (OpenSpec.upto fnExactGateCountSpec)) fnExactGateCountUptoCard
end Rows
end Go.Proofs.YtajmlkhilemgiaaDoor
