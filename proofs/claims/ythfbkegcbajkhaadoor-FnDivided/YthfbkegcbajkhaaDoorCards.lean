/-
  DERIVED. GIVEN WITH THE SEED: THE CARDS: each row of YthfbkegcbajkhaaDoorRows.lean that lists a variable, with what it lists TIED to the program's text (the seventh form; the later family's looks); each row that meets fmt, with fmt's text TOLD by the authors' own Lean function (tested against real Go, not proved from fmt's source: count such statements apart). THE CARD IS WHAT COUNTS. Prove the row's statement (the work); the ties are given (YthfbkegcbajkhaaDoorTie.lean); close each card by the builder's one call (the guide's Derived/Test/ToyasCard.lean, 'card_holds'). Laid BY PROGRAM, IN A SANDBOX (cutbox-door.mjs). By AI agents, Wed Nov 11 2026. No macro, syntax, notation, axiom, sorry.
-/
import Derived.Test.YthfbkegcbajkhaaDoorRows
import GoSem.ClaimSeven
namespace Go.Proofs.YthfbkegcbajkhaaDoor
namespace Rows

/-- THE TIED CARD OF 'laws.FnRing'. -/
def fnRingCard : Claim7 := { stood := { row := fnRingRow, standIns := [], harness := (true, "5e07c8836bbf2d37cb7528d1b5bc2a45bf30117cc0753803da3034d0dfec1116"), looks := false }, kinds := [], alts := [], laidByText := true, laidKinds := [.data], laidTests := true, laidLooks := .later }
def FnRingCardSaid : Prop := Claim7.holds Tryd.pinned (.plain (OpenSpec.ofChange fnRingSpec)) fnRingCard

/-- THE TIED CARD OF 'laws.FnDivided'. -/
def fnDividedCard : Claim7 := { stood := { row := fnDividedRow, standIns := [], harness := (true, "5e07c8836bbf2d37cb7528d1b5bc2a45bf30117cc0753803da3034d0dfec1116"), looks := false }, kinds := [], alts := [], laidByText := true, laidKinds := [.data], laidTests := true, laidLooks := .later }
def FnDividedCardSaid : Prop := Claim7.holds Tryd.pinned (.plain (OpenSpec.ofChange fnDividedSpec)) fnDividedCard

/-- THE TIED CARD OF 'laws.FnExactGoodWord'. -/
def fnExactGoodWordCard : Claim7 := { stood := { row := fnExactGoodWordRow, standIns := [], harness := (true, "5e07c8836bbf2d37cb7528d1b5bc2a45bf30117cc0753803da3034d0dfec1116"), looks := false }, kinds := [], alts := [], laidByText := true, laidKinds := [.data], laidTests := true, laidLooks := .later }
def FnExactGoodWordCardSaid : Prop := Claim7.holds Tryd.pinned (.plain (OpenSpec.ofChange fnExactGoodWordSpec)) fnExactGoodWordCard

/-- THE TIED CARD OF 'laws.FnExactCutTo'. -/
def fnExactCutToCard : Claim7 := { stood := { row := fnExactCutToRow, standIns := [], harness := (true, "5e07c8836bbf2d37cb7528d1b5bc2a45bf30117cc0753803da3034d0dfec1116"), looks := false }, kinds := [], alts := [], laidByText := true, laidKinds := [.data], laidTests := true, laidLooks := .later }
def FnExactCutToCardSaid : Prop := Claim7.holds Tryd.pinned (.plain (OpenSpec.ofChange fnExactCutToSpec)) fnExactCutToCard

/-- THE TIED CARD OF 'laws.FnExactAddWord'. -/
def fnExactAddWordCard : Claim7 := { stood := { row := fnExactAddWordRow, standIns := [], harness := (true, "5e07c8836bbf2d37cb7528d1b5bc2a45bf30117cc0753803da3034d0dfec1116"), looks := false }, kinds := [], alts := [], laidByText := true, laidKinds := [.data], laidTests := true, laidLooks := .later }
def FnExactAddWordCardSaid : Prop := Claim7.holds Tryd.pinned (.plain (OpenSpec.ofChange fnExactAddWordSpec)) fnExactAddWordCard

/-- THE TIED CARD OF 'laws.FnExactSubWord'. -/
def fnExactSubWordCard : Claim7 := { stood := { row := fnExactSubWordRow, standIns := [], harness := (true, "5e07c8836bbf2d37cb7528d1b5bc2a45bf30117cc0753803da3034d0dfec1116"), looks := false }, kinds := [], alts := [], laidByText := true, laidKinds := [.data], laidTests := true, laidLooks := .later }
def FnExactSubWordCardSaid : Prop := Claim7.holds Tryd.pinned (.plain (OpenSpec.ofChange fnExactSubWordSpec)) fnExactSubWordCard

/-- THE TIED CARD OF 'laws.FnExactMulWord'. -/
def fnExactMulWordCard : Claim7 := { stood := { row := fnExactMulWordRow, standIns := [], harness := (true, "5e07c8836bbf2d37cb7528d1b5bc2a45bf30117cc0753803da3034d0dfec1116"), looks := false }, kinds := [], alts := [], laidByText := true, laidKinds := [.data], laidTests := true, laidLooks := .later }
def FnExactMulWordCardSaid : Prop := Claim7.holds Tryd.pinned (.plain (OpenSpec.ofChange fnExactMulWordSpec)) fnExactMulWordCard

/-- THE TIED CARD OF 'laws.FnExactDivWord'. -/
def fnExactDivWordCard : Claim7 := { stood := { row := fnExactDivWordRow, standIns := [], harness := (true, "5e07c8836bbf2d37cb7528d1b5bc2a45bf30117cc0753803da3034d0dfec1116"), looks := false }, kinds := [], alts := [], laidByText := true, laidKinds := [.data], laidTests := true, laidLooks := .later }
def FnExactDivWordCardSaid : Prop := Claim7.holds Tryd.pinned (.plain (OpenSpec.ofChange fnExactDivWordSpec)) fnExactDivWordCard

/-- THE TIED CARD OF 'laws.FnExactShiftWord'. -/
def fnExactShiftWordCard : Claim7 := { stood := { row := fnExactShiftWordRow, standIns := [], harness := (true, "5e07c8836bbf2d37cb7528d1b5bc2a45bf30117cc0753803da3034d0dfec1116"), looks := false }, kinds := [], alts := [], laidByText := true, laidKinds := [.data], laidTests := true, laidLooks := .later }
def FnExactShiftWordCardSaid : Prop := Claim7.holds Tryd.pinned (.plain (OpenSpec.ofChange fnExactShiftWordSpec)) fnExactShiftWordCard

/-- THE TIED CARD OF 'laws.FnExactFlipWord'. -/
def fnExactFlipWordCard : Claim7 := { stood := { row := fnExactFlipWordRow, standIns := [], harness := (true, "5e07c8836bbf2d37cb7528d1b5bc2a45bf30117cc0753803da3034d0dfec1116"), looks := false }, kinds := [], alts := [], laidByText := true, laidKinds := [.data], laidTests := true, laidLooks := .later }
def FnExactFlipWordCardSaid : Prop := Claim7.holds Tryd.pinned (.plain (OpenSpec.ofChange fnExactFlipWordSpec)) fnExactFlipWordCard

/-- THE TIED CARD OF 'laws.FnExactSignedOf'. -/
def fnExactSignedOfCard : Claim7 := { stood := { row := fnExactSignedOfRow, standIns := [], harness := (true, "5e07c8836bbf2d37cb7528d1b5bc2a45bf30117cc0753803da3034d0dfec1116"), looks := false }, kinds := [], alts := [], laidByText := true, laidKinds := [.data], laidTests := true, laidLooks := .later }
def FnExactSignedOfCardSaid : Prop := Claim7.holds Tryd.pinned (.plain (OpenSpec.ofChange fnExactSignedOfSpec)) fnExactSignedOfCard

/-- THE TIED CARD OF 'laws.FnExactFromSigned'. -/
def fnExactFromSignedCard : Claim7 := { stood := { row := fnExactFromSignedRow, standIns := [], harness := (true, "5e07c8836bbf2d37cb7528d1b5bc2a45bf30117cc0753803da3034d0dfec1116"), looks := false }, kinds := [], alts := [], laidByText := true, laidKinds := [.data], laidTests := true, laidLooks := .later }
def FnExactFromSignedCardSaid : Prop := Claim7.holds Tryd.pinned (.plain (OpenSpec.ofChange fnExactFromSignedSpec)) fnExactFromSignedCard

/-- THE TIED CARD OF 'laws.FnExactLessSigned'. -/
def fnExactLessSignedCard : Claim7 := { stood := { row := fnExactLessSignedRow, standIns := [], harness := (true, "5e07c8836bbf2d37cb7528d1b5bc2a45bf30117cc0753803da3034d0dfec1116"), looks := false }, kinds := [], alts := [], laidByText := true, laidKinds := [.data], laidTests := true, laidLooks := .later }
def FnExactLessSignedCardSaid : Prop := Claim7.holds Tryd.pinned (.plain (OpenSpec.ofChange fnExactLessSignedSpec)) fnExactLessSignedCard

/-- THE SECOND FORM's CARD OF 'laws.FnRing'. -/
def fnRingUptoCard : Claim7 := { stood := { row := fnRingUptoRow, standIns := [], harness := (true, "5e07c8836bbf2d37cb7528d1b5bc2a45bf30117cc0753803da3034d0dfec1116"), looks := false }, kinds := [], alts := [], laidByText := true, laidKinds := [.data], laidTests := true, laidLooks := .later }
def FnRingUptoCardSaid : Prop := Claim7.holds Tryd.pinned (.plain (OpenSpec.upto fnRingSpec)) fnRingUptoCard

/-- THE SECOND FORM's CARD OF 'laws.FnDivided'. -/
def fnDividedUptoCard : Claim7 := { stood := { row := fnDividedUptoRow, standIns := [], harness := (true, "5e07c8836bbf2d37cb7528d1b5bc2a45bf30117cc0753803da3034d0dfec1116"), looks := false }, kinds := [], alts := [], laidByText := true, laidKinds := [.data], laidTests := true, laidLooks := .later }
def FnDividedUptoCardSaid : Prop := Claim7.holds Tryd.pinned (.plain (OpenSpec.upto fnDividedSpec)) fnDividedUptoCard

/-- THE SECOND FORM's CARD OF 'laws.FnExactGoodWord'. -/
def fnExactGoodWordUptoCard : Claim7 := { stood := { row := fnExactGoodWordUptoRow, standIns := [], harness := (true, "5e07c8836bbf2d37cb7528d1b5bc2a45bf30117cc0753803da3034d0dfec1116"), looks := false }, kinds := [], alts := [], laidByText := true, laidKinds := [.data], laidTests := true, laidLooks := .later }
def FnExactGoodWordUptoCardSaid : Prop := Claim7.holds Tryd.pinned (.plain (OpenSpec.upto fnExactGoodWordSpec)) fnExactGoodWordUptoCard

/-- THE SECOND FORM's CARD OF 'laws.FnExactCutTo'. -/
def fnExactCutToUptoCard : Claim7 := { stood := { row := fnExactCutToUptoRow, standIns := [], harness := (true, "5e07c8836bbf2d37cb7528d1b5bc2a45bf30117cc0753803da3034d0dfec1116"), looks := false }, kinds := [], alts := [], laidByText := true, laidKinds := [.data], laidTests := true, laidLooks := .later }
def FnExactCutToUptoCardSaid : Prop := Claim7.holds Tryd.pinned (.plain (OpenSpec.upto fnExactCutToSpec)) fnExactCutToUptoCard

/-- THE SECOND FORM's CARD OF 'laws.FnExactAddWord'. -/
def fnExactAddWordUptoCard : Claim7 := { stood := { row := fnExactAddWordUptoRow, standIns := [], harness := (true, "5e07c8836bbf2d37cb7528d1b5bc2a45bf30117cc0753803da3034d0dfec1116"), looks := false }, kinds := [], alts := [], laidByText := true, laidKinds := [.data], laidTests := true, laidLooks := .later }
def FnExactAddWordUptoCardSaid : Prop := Claim7.holds Tryd.pinned (.plain (OpenSpec.upto fnExactAddWordSpec)) fnExactAddWordUptoCard

/-- THE SECOND FORM's CARD OF 'laws.FnExactSubWord'. -/
def fnExactSubWordUptoCard : Claim7 := { stood := { row := fnExactSubWordUptoRow, standIns := [], harness := (true, "5e07c8836bbf2d37cb7528d1b5bc2a45bf30117cc0753803da3034d0dfec1116"), looks := false }, kinds := [], alts := [], laidByText := true, laidKinds := [.data], laidTests := true, laidLooks := .later }
def FnExactSubWordUptoCardSaid : Prop := Claim7.holds Tryd.pinned (.plain (OpenSpec.upto fnExactSubWordSpec)) fnExactSubWordUptoCard

/-- THE SECOND FORM's CARD OF 'laws.FnExactMulWord'. -/
def fnExactMulWordUptoCard : Claim7 := { stood := { row := fnExactMulWordUptoRow, standIns := [], harness := (true, "5e07c8836bbf2d37cb7528d1b5bc2a45bf30117cc0753803da3034d0dfec1116"), looks := false }, kinds := [], alts := [], laidByText := true, laidKinds := [.data], laidTests := true, laidLooks := .later }
def FnExactMulWordUptoCardSaid : Prop := Claim7.holds Tryd.pinned (.plain (OpenSpec.upto fnExactMulWordSpec)) fnExactMulWordUptoCard

/-- THE SECOND FORM's CARD OF 'laws.FnExactDivWord'. -/
def fnExactDivWordUptoCard : Claim7 := { stood := { row := fnExactDivWordUptoRow, standIns := [], harness := (true, "5e07c8836bbf2d37cb7528d1b5bc2a45bf30117cc0753803da3034d0dfec1116"), looks := false }, kinds := [], alts := [], laidByText := true, laidKinds := [.data], laidTests := true, laidLooks := .later }
def FnExactDivWordUptoCardSaid : Prop := Claim7.holds Tryd.pinned (.plain (OpenSpec.upto fnExactDivWordSpec)) fnExactDivWordUptoCard

/-- THE SECOND FORM's CARD OF 'laws.FnExactShiftWord'. -/
def fnExactShiftWordUptoCard : Claim7 := { stood := { row := fnExactShiftWordUptoRow, standIns := [], harness := (true, "5e07c8836bbf2d37cb7528d1b5bc2a45bf30117cc0753803da3034d0dfec1116"), looks := false }, kinds := [], alts := [], laidByText := true, laidKinds := [.data], laidTests := true, laidLooks := .later }
def FnExactShiftWordUptoCardSaid : Prop := Claim7.holds Tryd.pinned (.plain (OpenSpec.upto fnExactShiftWordSpec)) fnExactShiftWordUptoCard

/-- THE SECOND FORM's CARD OF 'laws.FnExactFlipWord'. -/
def fnExactFlipWordUptoCard : Claim7 := { stood := { row := fnExactFlipWordUptoRow, standIns := [], harness := (true, "5e07c8836bbf2d37cb7528d1b5bc2a45bf30117cc0753803da3034d0dfec1116"), looks := false }, kinds := [], alts := [], laidByText := true, laidKinds := [.data], laidTests := true, laidLooks := .later }
def FnExactFlipWordUptoCardSaid : Prop := Claim7.holds Tryd.pinned (.plain (OpenSpec.upto fnExactFlipWordSpec)) fnExactFlipWordUptoCard

/-- THE SECOND FORM's CARD OF 'laws.FnExactSignedOf'. -/
def fnExactSignedOfUptoCard : Claim7 := { stood := { row := fnExactSignedOfUptoRow, standIns := [], harness := (true, "5e07c8836bbf2d37cb7528d1b5bc2a45bf30117cc0753803da3034d0dfec1116"), looks := false }, kinds := [], alts := [], laidByText := true, laidKinds := [.data], laidTests := true, laidLooks := .later }
def FnExactSignedOfUptoCardSaid : Prop := Claim7.holds Tryd.pinned (.plain (OpenSpec.upto fnExactSignedOfSpec)) fnExactSignedOfUptoCard

/-- THE SECOND FORM's CARD OF 'laws.FnExactFromSigned'. -/
def fnExactFromSignedUptoCard : Claim7 := { stood := { row := fnExactFromSignedUptoRow, standIns := [], harness := (true, "5e07c8836bbf2d37cb7528d1b5bc2a45bf30117cc0753803da3034d0dfec1116"), looks := false }, kinds := [], alts := [], laidByText := true, laidKinds := [.data], laidTests := true, laidLooks := .later }
def FnExactFromSignedUptoCardSaid : Prop := Claim7.holds Tryd.pinned (.plain (OpenSpec.upto fnExactFromSignedSpec)) fnExactFromSignedUptoCard

/-- THE SECOND FORM's CARD OF 'laws.FnExactLessSigned'. -/
def fnExactLessSignedUptoCard : Claim7 := { stood := { row := fnExactLessSignedUptoRow, standIns := [], harness := (true, "5e07c8836bbf2d37cb7528d1b5bc2a45bf30117cc0753803da3034d0dfec1116"), looks := false }, kinds := [], alts := [], laidByText := true, laidKinds := [.data], laidTests := true, laidLooks := .later }
def FnExactLessSignedUptoCardSaid : Prop := Claim7.holds Tryd.pinned (.plain (OpenSpec.upto fnExactLessSignedSpec)) fnExactLessSignedUptoCard
end Rows
end Go.Proofs.YthfbkegcbajkhaaDoor
