/-
  DERIVED. GIVEN WITH THE SEED: THE CARDS: each row of YtjbolpfilgkbfaaDoorRows.lean that lists a variable, with what it lists TIED to the program's text (the seventh form; the later family's looks); each row that meets fmt, with fmt's text TOLD by the authors' own Lean function (tested against real Go, not proved from fmt's source: count such statements apart). THE CARD IS WHAT COUNTS. Prove the row's statement (the work); the ties are given (YtjbolpfilgkbfaaDoorTie.lean); close each card by the builder's one call (the guide's Derived/Test/ToyasCard.lean, 'card_holds'). Laid BY PROGRAM, IN A SANDBOX (cutbox-door.mjs). By AI agents, Wed Nov 11 2026. No macro, syntax, notation, axiom, sorry.
-/
import Derived.Test.YtjbolpfilgkbfaaDoorRows
import GoSem.ClaimSeven
namespace Go.Proofs.YtjbolpfilgkbfaaDoor
namespace Rows

/-- THE TIED CARD OF 'laws.FnPlayed'. -/
def fnPlayedCard : Claim7 := { stood := { row := fnPlayedRow, standIns := [], harness := (true, "f3b25d5326f74e3d22170b288f44661763f0d1b15d57a22bc94c2e221435a67a"), looks := false }, kinds := [], alts := [], laidByText := true, laidKinds := [.data], laidTests := true, laidLooks := .later }
def FnPlayedCardSaid : Prop := Claim7.holds Tryd.pinned (.plain (OpenSpec.ofChange fnPlayedSpec)) fnPlayedCard

/-- THE TIED CARD OF 'laws.FnCommute'. -/
def fnCommuteCard : Claim7 := { stood := { row := fnCommuteRow, standIns := [], harness := (true, "f3b25d5326f74e3d22170b288f44661763f0d1b15d57a22bc94c2e221435a67a"), looks := false }, kinds := [], alts := [], laidByText := true, laidKinds := [.data], laidTests := true, laidLooks := .later }
def FnCommuteCardSaid : Prop := Claim7.holds Tryd.pinned (.plain (OpenSpec.ofChange fnCommuteSpec)) fnCommuteCard

/-- THE TIED CARD OF 'laws.FnNumbered'. -/
def fnNumberedCard : Claim7 := { stood := { row := fnNumberedRow, standIns := [], harness := (true, "f3b25d5326f74e3d22170b288f44661763f0d1b15d57a22bc94c2e221435a67a"), looks := false }, kinds := [], alts := [], laidByText := true, laidKinds := [.data], laidTests := true, laidLooks := .later }
def FnNumberedCardSaid : Prop := Claim7.holds Tryd.pinned (.plain (OpenSpec.ofChange fnNumberedSpec)) fnNumberedCard

/-- THE TIED CARD OF 'laws.FnExactIsStart'. -/
def fnExactIsStartCard : Claim7 := { stood := { row := fnExactIsStartRow, standIns := [], harness := (true, "f3b25d5326f74e3d22170b288f44661763f0d1b15d57a22bc94c2e221435a67a"), looks := false }, kinds := [], alts := [], laidByText := true, laidKinds := [.data], laidTests := true, laidLooks := .later }
def FnExactIsStartCardSaid : Prop := Claim7.holds Tryd.pinned (.plain (OpenSpec.ofChange fnExactIsStartSpec)) fnExactIsStartCard

/-- THE TIED CARD OF 'laws.FnExactEnabled'. -/
def fnExactEnabledCard : Claim7 := { stood := { row := fnExactEnabledRow, standIns := [], harness := (true, "f3b25d5326f74e3d22170b288f44661763f0d1b15d57a22bc94c2e221435a67a"), looks := false }, kinds := [], alts := [], laidByText := true, laidKinds := [.data], laidTests := true, laidLooks := .later }
def FnExactEnabledCardSaid : Prop := Claim7.holds Tryd.pinned (.plain (OpenSpec.ofChange fnExactEnabledSpec)) fnExactEnabledCard

/-- THE TIED CARD OF 'laws.FnExactStepBy'. -/
def fnExactStepByCard : Claim7 := { stood := { row := fnExactStepByRow, standIns := [], harness := (true, "f3b25d5326f74e3d22170b288f44661763f0d1b15d57a22bc94c2e221435a67a"), looks := false }, kinds := [], alts := [], laidByText := true, laidKinds := [.data], laidTests := true, laidLooks := .later }
def FnExactStepByCardSaid : Prop := Claim7.holds Tryd.pinned (.plain (OpenSpec.ofChange fnExactStepBySpec)) fnExactStepByCard

/-- THE TIED CARD OF 'laws.FnExactTouchedBy'. -/
def fnExactTouchedByCard : Claim7 := { stood := { row := fnExactTouchedByRow, standIns := [], harness := (true, "f3b25d5326f74e3d22170b288f44661763f0d1b15d57a22bc94c2e221435a67a"), looks := false }, kinds := [], alts := [], laidByText := true, laidKinds := [.data], laidTests := true, laidLooks := .later }
def FnExactTouchedByCardSaid : Prop := Claim7.holds Tryd.pinned (.plain (OpenSpec.ofChange fnExactTouchedBySpec)) fnExactTouchedByCard

/-- THE TIED CARD OF 'laws.FnExactApart'. -/
def fnExactApartCard : Claim7 := { stood := { row := fnExactApartRow, standIns := [], harness := (true, "f3b25d5326f74e3d22170b288f44661763f0d1b15d57a22bc94c2e221435a67a"), looks := false }, kinds := [], alts := [], laidByText := true, laidKinds := [.data], laidTests := true, laidLooks := .later }
def FnExactApartCardSaid : Prop := Claim7.holds Tryd.pinned (.plain (OpenSpec.ofChange fnExactApartSpec)) fnExactApartCard

/-- THE TIED CARD OF 'laws.FnExactStateNo'. -/
def fnExactStateNoCard : Claim7 := { stood := { row := fnExactStateNoRow, standIns := [], harness := (true, "f3b25d5326f74e3d22170b288f44661763f0d1b15d57a22bc94c2e221435a67a"), looks := false }, kinds := [], alts := [], laidByText := true, laidKinds := [.data], laidTests := true, laidLooks := .later }
def FnExactStateNoCardSaid : Prop := Claim7.holds Tryd.pinned (.plain (OpenSpec.ofChange fnExactStateNoSpec)) fnExactStateNoCard

/-- THE TIED CARD OF 'laws.FnExactStateOf'. -/
def fnExactStateOfCard : Claim7 := { stood := { row := fnExactStateOfRow, standIns := [], harness := (true, "f3b25d5326f74e3d22170b288f44661763f0d1b15d57a22bc94c2e221435a67a"), looks := false }, kinds := [], alts := [], laidByText := true, laidKinds := [.data], laidTests := true, laidLooks := .later }
def FnExactStateOfCardSaid : Prop := Claim7.holds Tryd.pinned (.plain (OpenSpec.ofChange fnExactStateOfSpec)) fnExactStateOfCard

/-- THE SECOND FORM's CARD OF 'laws.FnPlayed'. -/
def fnPlayedUptoCard : Claim7 := { stood := { row := fnPlayedUptoRow, standIns := [], harness := (true, "f3b25d5326f74e3d22170b288f44661763f0d1b15d57a22bc94c2e221435a67a"), looks := false }, kinds := [], alts := [], laidByText := true, laidKinds := [.data], laidTests := true, laidLooks := .later }
def FnPlayedUptoCardSaid : Prop := Claim7.holds Tryd.pinned (.plain (OpenSpec.upto fnPlayedSpec)) fnPlayedUptoCard

/-- THE SECOND FORM's CARD OF 'laws.FnCommute'. -/
def fnCommuteUptoCard : Claim7 := { stood := { row := fnCommuteUptoRow, standIns := [], harness := (true, "f3b25d5326f74e3d22170b288f44661763f0d1b15d57a22bc94c2e221435a67a"), looks := false }, kinds := [], alts := [], laidByText := true, laidKinds := [.data], laidTests := true, laidLooks := .later }
def FnCommuteUptoCardSaid : Prop := Claim7.holds Tryd.pinned (.plain (OpenSpec.upto fnCommuteSpec)) fnCommuteUptoCard

/-- THE SECOND FORM's CARD OF 'laws.FnNumbered'. -/
def fnNumberedUptoCard : Claim7 := { stood := { row := fnNumberedUptoRow, standIns := [], harness := (true, "f3b25d5326f74e3d22170b288f44661763f0d1b15d57a22bc94c2e221435a67a"), looks := false }, kinds := [], alts := [], laidByText := true, laidKinds := [.data], laidTests := true, laidLooks := .later }
def FnNumberedUptoCardSaid : Prop := Claim7.holds Tryd.pinned (.plain (OpenSpec.upto fnNumberedSpec)) fnNumberedUptoCard

/-- THE SECOND FORM's CARD OF 'laws.FnExactIsStart'. -/
def fnExactIsStartUptoCard : Claim7 := { stood := { row := fnExactIsStartUptoRow, standIns := [], harness := (true, "f3b25d5326f74e3d22170b288f44661763f0d1b15d57a22bc94c2e221435a67a"), looks := false }, kinds := [], alts := [], laidByText := true, laidKinds := [.data], laidTests := true, laidLooks := .later }
def FnExactIsStartUptoCardSaid : Prop := Claim7.holds Tryd.pinned (.plain (OpenSpec.upto fnExactIsStartSpec)) fnExactIsStartUptoCard

/-- THE SECOND FORM's CARD OF 'laws.FnExactEnabled'. -/
def fnExactEnabledUptoCard : Claim7 := { stood := { row := fnExactEnabledUptoRow, standIns := [], harness := (true, "f3b25d5326f74e3d22170b288f44661763f0d1b15d57a22bc94c2e221435a67a"), looks := false }, kinds := [], alts := [], laidByText := true, laidKinds := [.data], laidTests := true, laidLooks := .later }
def FnExactEnabledUptoCardSaid : Prop := Claim7.holds Tryd.pinned (.plain (OpenSpec.upto fnExactEnabledSpec)) fnExactEnabledUptoCard

/-- THE SECOND FORM's CARD OF 'laws.FnExactStepBy'. -/
def fnExactStepByUptoCard : Claim7 := { stood := { row := fnExactStepByUptoRow, standIns := [], harness := (true, "f3b25d5326f74e3d22170b288f44661763f0d1b15d57a22bc94c2e221435a67a"), looks := false }, kinds := [], alts := [], laidByText := true, laidKinds := [.data], laidTests := true, laidLooks := .later }
def FnExactStepByUptoCardSaid : Prop := Claim7.holds Tryd.pinned (.plain (OpenSpec.upto fnExactStepBySpec)) fnExactStepByUptoCard

/-- THE SECOND FORM's CARD OF 'laws.FnExactTouchedBy'. -/
def fnExactTouchedByUptoCard : Claim7 := { stood := { row := fnExactTouchedByUptoRow, standIns := [], harness := (true, "f3b25d5326f74e3d22170b288f44661763f0d1b15d57a22bc94c2e221435a67a"), looks := false }, kinds := [], alts := [], laidByText := true, laidKinds := [.data], laidTests := true, laidLooks := .later }
def FnExactTouchedByUptoCardSaid : Prop := Claim7.holds Tryd.pinned (.plain (OpenSpec.upto fnExactTouchedBySpec)) fnExactTouchedByUptoCard

/-- THE SECOND FORM's CARD OF 'laws.FnExactApart'. -/
def fnExactApartUptoCard : Claim7 := { stood := { row := fnExactApartUptoRow, standIns := [], harness := (true, "f3b25d5326f74e3d22170b288f44661763f0d1b15d57a22bc94c2e221435a67a"), looks := false }, kinds := [], alts := [], laidByText := true, laidKinds := [.data], laidTests := true, laidLooks := .later }
def FnExactApartUptoCardSaid : Prop := Claim7.holds Tryd.pinned (.plain (OpenSpec.upto fnExactApartSpec)) fnExactApartUptoCard

/-- THE SECOND FORM's CARD OF 'laws.FnExactStateNo'. -/
def fnExactStateNoUptoCard : Claim7 := { stood := { row := fnExactStateNoUptoRow, standIns := [], harness := (true, "f3b25d5326f74e3d22170b288f44661763f0d1b15d57a22bc94c2e221435a67a"), looks := false }, kinds := [], alts := [], laidByText := true, laidKinds := [.data], laidTests := true, laidLooks := .later }
def FnExactStateNoUptoCardSaid : Prop := Claim7.holds Tryd.pinned (.plain (OpenSpec.upto fnExactStateNoSpec)) fnExactStateNoUptoCard

/-- THE SECOND FORM's CARD OF 'laws.FnExactStateOf'. -/
def fnExactStateOfUptoCard : Claim7 := { stood := { row := fnExactStateOfUptoRow, standIns := [], harness := (true, "f3b25d5326f74e3d22170b288f44661763f0d1b15d57a22bc94c2e221435a67a"), looks := false }, kinds := [], alts := [], laidByText := true, laidKinds := [.data], laidTests := true, laidLooks := .later }
def FnExactStateOfUptoCardSaid : Prop := Claim7.holds Tryd.pinned (.plain (OpenSpec.upto fnExactStateOfSpec)) fnExactStateOfUptoCard
end Rows
end Go.Proofs.YtjbolpfilgkbfaaDoor
