/-
  DERIVED. GIVEN WITH THE SEED: THE CARDS: each row of YtjbfembblgkakaaDoorRows.lean that lists a variable, with what it lists TIED to the program's text (the seventh form; the later family's looks); each row that meets fmt, with fmt's text TOLD by the authors' own Lean function (tested against real Go, not proved from fmt's source: count such statements apart). THE CARD IS WHAT COUNTS. Prove the row's statement (the work); the ties are given (YtjbfembblgkakaaDoorTie.lean); close each card by the builder's one call (the guide's Derived/Test/ToyasCard.lean, 'card_holds'). Laid BY PROGRAM, IN A SANDBOX (cutbox-door.mjs). By AI agents, Wed Nov 11 2026. No macro, syntax, notation, axiom, sorry.
-/
import Derived.Test.YtjbfembblgkakaaDoorRows
import GoSem.ClaimSeven
namespace Go.Proofs.YtjbfembblgkakaaDoor
namespace Rows

/-- THE TIED CARD OF 'laws.FnFolded'. -/
def fnFoldedCard : Claim7 := { stood := { row := fnFoldedRow, standIns := [], harness := (true, "2059ab78ebf8a17476622036e4dc009e5174063480f2101430f930b3d3732266"), looks := false }, kinds := [], alts := [], laidByText := true, laidKinds := [.data], laidTests := true, laidLooks := .later }
def FnFoldedCardSaid : Prop := Claim7.holds Tryd.pinned (.plain (OpenSpec.ofChange fnFoldedSpec)) fnFoldedCard

/-- THE TIED CARD OF 'laws.FnPlayed'. -/
def fnPlayedCard : Claim7 := { stood := { row := fnPlayedRow, standIns := [], harness := (true, "2059ab78ebf8a17476622036e4dc009e5174063480f2101430f930b3d3732266"), looks := false }, kinds := [], alts := [], laidByText := true, laidKinds := [.data], laidTests := true, laidLooks := .later }
def FnPlayedCardSaid : Prop := Claim7.holds Tryd.pinned (.plain (OpenSpec.ofChange fnPlayedSpec)) fnPlayedCard

/-- THE TIED CARD OF 'laws.FnCommute'. -/
def fnCommuteCard : Claim7 := { stood := { row := fnCommuteRow, standIns := [], harness := (true, "2059ab78ebf8a17476622036e4dc009e5174063480f2101430f930b3d3732266"), looks := false }, kinds := [], alts := [], laidByText := true, laidKinds := [.data], laidTests := true, laidLooks := .later }
def FnCommuteCardSaid : Prop := Claim7.holds Tryd.pinned (.plain (OpenSpec.ofChange fnCommuteSpec)) fnCommuteCard

/-- THE TIED CARD OF 'laws.FnNumbered'. -/
def fnNumberedCard : Claim7 := { stood := { row := fnNumberedRow, standIns := [], harness := (true, "2059ab78ebf8a17476622036e4dc009e5174063480f2101430f930b3d3732266"), looks := false }, kinds := [], alts := [], laidByText := true, laidKinds := [.data], laidTests := true, laidLooks := .later }
def FnNumberedCardSaid : Prop := Claim7.holds Tryd.pinned (.plain (OpenSpec.ofChange fnNumberedSpec)) fnNumberedCard

/-- THE TIED CARD OF 'laws.FnExactVarsIn'. -/
def fnExactVarsInCard : Claim7 := { stood := { row := fnExactVarsInRow, standIns := [], harness := (true, "2059ab78ebf8a17476622036e4dc009e5174063480f2101430f930b3d3732266"), looks := false }, kinds := [], alts := [], laidByText := true, laidKinds := [.data], laidTests := true, laidLooks := .later }
def FnExactVarsInCardSaid : Prop := Claim7.holds Tryd.pinned (.plain (OpenSpec.ofChange fnExactVarsInSpec)) fnExactVarsInCard

/-- THE TIED CARD OF 'laws.FnExactFoldTerm'. -/
def fnExactFoldTermCard : Claim7 := { stood := { row := fnExactFoldTermRow, standIns := [], harness := (true, "2059ab78ebf8a17476622036e4dc009e5174063480f2101430f930b3d3732266"), looks := false }, kinds := [], alts := [], laidByText := true, laidKinds := [.data], laidTests := true, laidLooks := .later }
def FnExactFoldTermCardSaid : Prop := Claim7.holds Tryd.pinned (.plain (OpenSpec.ofChange fnExactFoldTermSpec)) fnExactFoldTermCard

/-- THE TIED CARD OF 'laws.FnExactGoodProgram'. -/
def fnExactGoodProgramCard : Claim7 := { stood := { row := fnExactGoodProgramRow, standIns := [], harness := (true, "2059ab78ebf8a17476622036e4dc009e5174063480f2101430f930b3d3732266"), looks := false }, kinds := [], alts := [], laidByText := true, laidKinds := [.data], laidTests := true, laidLooks := .later }
def FnExactGoodProgramCardSaid : Prop := Claim7.holds Tryd.pinned (.plain (OpenSpec.ofChange fnExactGoodProgramSpec)) fnExactGoodProgramCard

/-- THE TIED CARD OF 'laws.FnExactIsSmall'. -/
def fnExactIsSmallCard : Claim7 := { stood := { row := fnExactIsSmallRow, standIns := [], harness := (true, "2059ab78ebf8a17476622036e4dc009e5174063480f2101430f930b3d3732266"), looks := false }, kinds := [], alts := [], laidByText := true, laidKinds := [.data], laidTests := true, laidLooks := .later }
def FnExactIsSmallCardSaid : Prop := Claim7.holds Tryd.pinned (.plain (OpenSpec.ofChange fnExactIsSmallSpec)) fnExactIsSmallCard

/-- THE TIED CARD OF 'laws.FnExactIsStart'. -/
def fnExactIsStartCard : Claim7 := { stood := { row := fnExactIsStartRow, standIns := [], harness := (true, "2059ab78ebf8a17476622036e4dc009e5174063480f2101430f930b3d3732266"), looks := false }, kinds := [], alts := [], laidByText := true, laidKinds := [.data], laidTests := true, laidLooks := .later }
def FnExactIsStartCardSaid : Prop := Claim7.holds Tryd.pinned (.plain (OpenSpec.ofChange fnExactIsStartSpec)) fnExactIsStartCard

/-- THE TIED CARD OF 'laws.FnExactEnabled'. -/
def fnExactEnabledCard : Claim7 := { stood := { row := fnExactEnabledRow, standIns := [], harness := (true, "2059ab78ebf8a17476622036e4dc009e5174063480f2101430f930b3d3732266"), looks := false }, kinds := [], alts := [], laidByText := true, laidKinds := [.data], laidTests := true, laidLooks := .later }
def FnExactEnabledCardSaid : Prop := Claim7.holds Tryd.pinned (.plain (OpenSpec.ofChange fnExactEnabledSpec)) fnExactEnabledCard

/-- THE TIED CARD OF 'laws.FnExactStepBy'. -/
def fnExactStepByCard : Claim7 := { stood := { row := fnExactStepByRow, standIns := [], harness := (true, "2059ab78ebf8a17476622036e4dc009e5174063480f2101430f930b3d3732266"), looks := false }, kinds := [], alts := [], laidByText := true, laidKinds := [.data], laidTests := true, laidLooks := .later }
def FnExactStepByCardSaid : Prop := Claim7.holds Tryd.pinned (.plain (OpenSpec.ofChange fnExactStepBySpec)) fnExactStepByCard

/-- THE TIED CARD OF 'laws.FnExactTouchedBy'. -/
def fnExactTouchedByCard : Claim7 := { stood := { row := fnExactTouchedByRow, standIns := [], harness := (true, "2059ab78ebf8a17476622036e4dc009e5174063480f2101430f930b3d3732266"), looks := false }, kinds := [], alts := [], laidByText := true, laidKinds := [.data], laidTests := true, laidLooks := .later }
def FnExactTouchedByCardSaid : Prop := Claim7.holds Tryd.pinned (.plain (OpenSpec.ofChange fnExactTouchedBySpec)) fnExactTouchedByCard

/-- THE TIED CARD OF 'laws.FnExactApart'. -/
def fnExactApartCard : Claim7 := { stood := { row := fnExactApartRow, standIns := [], harness := (true, "2059ab78ebf8a17476622036e4dc009e5174063480f2101430f930b3d3732266"), looks := false }, kinds := [], alts := [], laidByText := true, laidKinds := [.data], laidTests := true, laidLooks := .later }
def FnExactApartCardSaid : Prop := Claim7.holds Tryd.pinned (.plain (OpenSpec.ofChange fnExactApartSpec)) fnExactApartCard

/-- THE TIED CARD OF 'laws.FnExactStateNo'. -/
def fnExactStateNoCard : Claim7 := { stood := { row := fnExactStateNoRow, standIns := [], harness := (true, "2059ab78ebf8a17476622036e4dc009e5174063480f2101430f930b3d3732266"), looks := false }, kinds := [], alts := [], laidByText := true, laidKinds := [.data], laidTests := true, laidLooks := .later }
def FnExactStateNoCardSaid : Prop := Claim7.holds Tryd.pinned (.plain (OpenSpec.ofChange fnExactStateNoSpec)) fnExactStateNoCard

/-- THE TIED CARD OF 'laws.FnExactStateOf'. -/
def fnExactStateOfCard : Claim7 := { stood := { row := fnExactStateOfRow, standIns := [], harness := (true, "2059ab78ebf8a17476622036e4dc009e5174063480f2101430f930b3d3732266"), looks := false }, kinds := [], alts := [], laidByText := true, laidKinds := [.data], laidTests := true, laidLooks := .later }
def FnExactStateOfCardSaid : Prop := Claim7.holds Tryd.pinned (.plain (OpenSpec.ofChange fnExactStateOfSpec)) fnExactStateOfCard

/-- THE SECOND FORM's CARD OF 'laws.FnFolded'. -/
def fnFoldedUptoCard : Claim7 := { stood := { row := fnFoldedUptoRow, standIns := [], harness := (true, "2059ab78ebf8a17476622036e4dc009e5174063480f2101430f930b3d3732266"), looks := false }, kinds := [], alts := [], laidByText := true, laidKinds := [.data], laidTests := true, laidLooks := .later }
def FnFoldedUptoCardSaid : Prop := Claim7.holds Tryd.pinned (.plain (OpenSpec.upto fnFoldedSpec)) fnFoldedUptoCard

/-- THE SECOND FORM's CARD OF 'laws.FnPlayed'. -/
def fnPlayedUptoCard : Claim7 := { stood := { row := fnPlayedUptoRow, standIns := [], harness := (true, "2059ab78ebf8a17476622036e4dc009e5174063480f2101430f930b3d3732266"), looks := false }, kinds := [], alts := [], laidByText := true, laidKinds := [.data], laidTests := true, laidLooks := .later }
def FnPlayedUptoCardSaid : Prop := Claim7.holds Tryd.pinned (.plain (OpenSpec.upto fnPlayedSpec)) fnPlayedUptoCard

/-- THE SECOND FORM's CARD OF 'laws.FnCommute'. -/
def fnCommuteUptoCard : Claim7 := { stood := { row := fnCommuteUptoRow, standIns := [], harness := (true, "2059ab78ebf8a17476622036e4dc009e5174063480f2101430f930b3d3732266"), looks := false }, kinds := [], alts := [], laidByText := true, laidKinds := [.data], laidTests := true, laidLooks := .later }
def FnCommuteUptoCardSaid : Prop := Claim7.holds Tryd.pinned (.plain (OpenSpec.upto fnCommuteSpec)) fnCommuteUptoCard

/-- THE SECOND FORM's CARD OF 'laws.FnNumbered'. -/
def fnNumberedUptoCard : Claim7 := { stood := { row := fnNumberedUptoRow, standIns := [], harness := (true, "2059ab78ebf8a17476622036e4dc009e5174063480f2101430f930b3d3732266"), looks := false }, kinds := [], alts := [], laidByText := true, laidKinds := [.data], laidTests := true, laidLooks := .later }
def FnNumberedUptoCardSaid : Prop := Claim7.holds Tryd.pinned (.plain (OpenSpec.upto fnNumberedSpec)) fnNumberedUptoCard

/-- THE SECOND FORM's CARD OF 'laws.FnExactVarsIn'. -/
def fnExactVarsInUptoCard : Claim7 := { stood := { row := fnExactVarsInUptoRow, standIns := [], harness := (true, "2059ab78ebf8a17476622036e4dc009e5174063480f2101430f930b3d3732266"), looks := false }, kinds := [], alts := [], laidByText := true, laidKinds := [.data], laidTests := true, laidLooks := .later }
def FnExactVarsInUptoCardSaid : Prop := Claim7.holds Tryd.pinned (.plain (OpenSpec.upto fnExactVarsInSpec)) fnExactVarsInUptoCard

/-- THE SECOND FORM's CARD OF 'laws.FnExactFoldTerm'. -/
def fnExactFoldTermUptoCard : Claim7 := { stood := { row := fnExactFoldTermUptoRow, standIns := [], harness := (true, "2059ab78ebf8a17476622036e4dc009e5174063480f2101430f930b3d3732266"), looks := false }, kinds := [], alts := [], laidByText := true, laidKinds := [.data], laidTests := true, laidLooks := .later }
def FnExactFoldTermUptoCardSaid : Prop := Claim7.holds Tryd.pinned (.plain (OpenSpec.upto fnExactFoldTermSpec)) fnExactFoldTermUptoCard

/-- THE SECOND FORM's CARD OF 'laws.FnExactGoodProgram'. -/
def fnExactGoodProgramUptoCard : Claim7 := { stood := { row := fnExactGoodProgramUptoRow, standIns := [], harness := (true, "2059ab78ebf8a17476622036e4dc009e5174063480f2101430f930b3d3732266"), looks := false }, kinds := [], alts := [], laidByText := true, laidKinds := [.data], laidTests := true, laidLooks := .later }
def FnExactGoodProgramUptoCardSaid : Prop := Claim7.holds Tryd.pinned (.plain (OpenSpec.upto fnExactGoodProgramSpec)) fnExactGoodProgramUptoCard

/-- THE SECOND FORM's CARD OF 'laws.FnExactIsSmall'. -/
def fnExactIsSmallUptoCard : Claim7 := { stood := { row := fnExactIsSmallUptoRow, standIns := [], harness := (true, "2059ab78ebf8a17476622036e4dc009e5174063480f2101430f930b3d3732266"), looks := false }, kinds := [], alts := [], laidByText := true, laidKinds := [.data], laidTests := true, laidLooks := .later }
def FnExactIsSmallUptoCardSaid : Prop := Claim7.holds Tryd.pinned (.plain (OpenSpec.upto fnExactIsSmallSpec)) fnExactIsSmallUptoCard

/-- THE SECOND FORM's CARD OF 'laws.FnExactIsStart'. -/
def fnExactIsStartUptoCard : Claim7 := { stood := { row := fnExactIsStartUptoRow, standIns := [], harness := (true, "2059ab78ebf8a17476622036e4dc009e5174063480f2101430f930b3d3732266"), looks := false }, kinds := [], alts := [], laidByText := true, laidKinds := [.data], laidTests := true, laidLooks := .later }
def FnExactIsStartUptoCardSaid : Prop := Claim7.holds Tryd.pinned (.plain (OpenSpec.upto fnExactIsStartSpec)) fnExactIsStartUptoCard

/-- THE SECOND FORM's CARD OF 'laws.FnExactEnabled'. -/
def fnExactEnabledUptoCard : Claim7 := { stood := { row := fnExactEnabledUptoRow, standIns := [], harness := (true, "2059ab78ebf8a17476622036e4dc009e5174063480f2101430f930b3d3732266"), looks := false }, kinds := [], alts := [], laidByText := true, laidKinds := [.data], laidTests := true, laidLooks := .later }
def FnExactEnabledUptoCardSaid : Prop := Claim7.holds Tryd.pinned (.plain (OpenSpec.upto fnExactEnabledSpec)) fnExactEnabledUptoCard

/-- THE SECOND FORM's CARD OF 'laws.FnExactStepBy'. -/
def fnExactStepByUptoCard : Claim7 := { stood := { row := fnExactStepByUptoRow, standIns := [], harness := (true, "2059ab78ebf8a17476622036e4dc009e5174063480f2101430f930b3d3732266"), looks := false }, kinds := [], alts := [], laidByText := true, laidKinds := [.data], laidTests := true, laidLooks := .later }
def FnExactStepByUptoCardSaid : Prop := Claim7.holds Tryd.pinned (.plain (OpenSpec.upto fnExactStepBySpec)) fnExactStepByUptoCard

/-- THE SECOND FORM's CARD OF 'laws.FnExactTouchedBy'. -/
def fnExactTouchedByUptoCard : Claim7 := { stood := { row := fnExactTouchedByUptoRow, standIns := [], harness := (true, "2059ab78ebf8a17476622036e4dc009e5174063480f2101430f930b3d3732266"), looks := false }, kinds := [], alts := [], laidByText := true, laidKinds := [.data], laidTests := true, laidLooks := .later }
def FnExactTouchedByUptoCardSaid : Prop := Claim7.holds Tryd.pinned (.plain (OpenSpec.upto fnExactTouchedBySpec)) fnExactTouchedByUptoCard

/-- THE SECOND FORM's CARD OF 'laws.FnExactApart'. -/
def fnExactApartUptoCard : Claim7 := { stood := { row := fnExactApartUptoRow, standIns := [], harness := (true, "2059ab78ebf8a17476622036e4dc009e5174063480f2101430f930b3d3732266"), looks := false }, kinds := [], alts := [], laidByText := true, laidKinds := [.data], laidTests := true, laidLooks := .later }
def FnExactApartUptoCardSaid : Prop := Claim7.holds Tryd.pinned (.plain (OpenSpec.upto fnExactApartSpec)) fnExactApartUptoCard

/-- THE SECOND FORM's CARD OF 'laws.FnExactStateNo'. -/
def fnExactStateNoUptoCard : Claim7 := { stood := { row := fnExactStateNoUptoRow, standIns := [], harness := (true, "2059ab78ebf8a17476622036e4dc009e5174063480f2101430f930b3d3732266"), looks := false }, kinds := [], alts := [], laidByText := true, laidKinds := [.data], laidTests := true, laidLooks := .later }
def FnExactStateNoUptoCardSaid : Prop := Claim7.holds Tryd.pinned (.plain (OpenSpec.upto fnExactStateNoSpec)) fnExactStateNoUptoCard

/-- THE SECOND FORM's CARD OF 'laws.FnExactStateOf'. -/
def fnExactStateOfUptoCard : Claim7 := { stood := { row := fnExactStateOfUptoRow, standIns := [], harness := (true, "2059ab78ebf8a17476622036e4dc009e5174063480f2101430f930b3d3732266"), looks := false }, kinds := [], alts := [], laidByText := true, laidKinds := [.data], laidTests := true, laidLooks := .later }
def FnExactStateOfUptoCardSaid : Prop := Claim7.holds Tryd.pinned (.plain (OpenSpec.upto fnExactStateOfSpec)) fnExactStateOfUptoCard
end Rows
end Go.Proofs.YtjbfembblgkakaaDoor
