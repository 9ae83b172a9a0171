/-
  DERIVED. GIVEN WITH THE SEED: THE CARDS: each row of YtkmgcgmeibhnmaaDoorRows.lean that lists a variable, with what it lists TIED to the program's text (the seventh form; the later family's looks); each row that meets fmt, with fmt's text TOLD by the authors' own Lean function (tested against real Go, not proved from fmt's source: count such statements apart). THE CARD IS WHAT COUNTS. Prove the row's statement (the work); the ties are given (YtkmgcgmeibhnmaaDoorTie.lean); close each card by the builder's one call (the guide's Derived/Test/ToyasCard.lean, 'card_holds'). Laid BY PROGRAM, IN A SANDBOX (cutbox-door.mjs). By AI agents, Wed Nov 11 2026. No macro, syntax, notation, axiom, sorry.
-/
import Derived.Test.YtkmgcgmeibhnmaaDoorRows
import GoSem.ClaimSeven
namespace Go.Proofs.YtkmgcgmeibhnmaaDoor
namespace Rows

/-- THE TIED CARD OF 'laws.FnPutFor'. -/
def fnPutForCard : Claim7 := { stood := { row := fnPutForRow, standIns := [], harness := (true, "9ed16bd5a7ec31c8c8de17561bbb3414b5f292008d27fd8ebd95b3f26880e02e"), looks := false }, kinds := [], alts := [], laidByText := true, laidKinds := [.data], laidTests := true, laidLooks := .later }
def FnPutForCardSaid : Prop := Claim7.holds Tryd.pinned (.plain (OpenSpec.ofChange fnPutForSpec)) fnPutForCard

/-- THE TIED CARD OF 'laws.FnFolded'. -/
def fnFoldedCard : Claim7 := { stood := { row := fnFoldedRow, standIns := [], harness := (true, "9ed16bd5a7ec31c8c8de17561bbb3414b5f292008d27fd8ebd95b3f26880e02e"), looks := false }, kinds := [], alts := [], laidByText := true, laidKinds := [.data], laidTests := true, laidLooks := .later }
def FnFoldedCardSaid : Prop := Claim7.holds Tryd.pinned (.plain (OpenSpec.ofChange fnFoldedSpec)) fnFoldedCard

/-- THE TIED CARD OF 'laws.FnJoined'. -/
def fnJoinedCard : Claim7 := { stood := { row := fnJoinedRow, standIns := [], harness := (true, "9ed16bd5a7ec31c8c8de17561bbb3414b5f292008d27fd8ebd95b3f26880e02e"), looks := false }, kinds := [], alts := [], laidByText := true, laidKinds := [.data], laidTests := true, laidLooks := .later }
def FnJoinedCardSaid : Prop := Claim7.holds Tryd.pinned (.plain (OpenSpec.ofChange fnJoinedSpec)) fnJoinedCard

/-- THE TIED CARD OF 'laws.FnExactGoodTerm'. -/
def fnExactGoodTermCard : Claim7 := { stood := { row := fnExactGoodTermRow, standIns := [], harness := (true, "9ed16bd5a7ec31c8c8de17561bbb3414b5f292008d27fd8ebd95b3f26880e02e"), looks := false }, kinds := [], alts := [], laidByText := true, laidKinds := [.data], laidTests := true, laidLooks := .later }
def FnExactGoodTermCardSaid : Prop := Claim7.holds Tryd.pinned (.plain (OpenSpec.ofChange fnExactGoodTermSpec)) fnExactGoodTermCard

/-- THE TIED CARD OF 'laws.FnExactKindOf'. -/
def fnExactKindOfCard : Claim7 := { stood := { row := fnExactKindOfRow, standIns := [], harness := (true, "9ed16bd5a7ec31c8c8de17561bbb3414b5f292008d27fd8ebd95b3f26880e02e"), looks := false }, kinds := [], alts := [], laidByText := true, laidKinds := [.data], laidTests := true, laidLooks := .later }
def FnExactKindOfCardSaid : Prop := Claim7.holds Tryd.pinned (.plain (OpenSpec.ofChange fnExactKindOfSpec)) fnExactKindOfCard

/-- THE TIED CARD OF 'laws.FnExactValueOf'. -/
def fnExactValueOfCard : Claim7 := { stood := { row := fnExactValueOfRow, standIns := [], harness := (true, "9ed16bd5a7ec31c8c8de17561bbb3414b5f292008d27fd8ebd95b3f26880e02e"), looks := false }, kinds := [], alts := [], laidByText := true, laidKinds := [.data], laidTests := true, laidLooks := .later }
def FnExactValueOfCardSaid : Prop := Claim7.holds Tryd.pinned (.plain (OpenSpec.ofChange fnExactValueOfSpec)) fnExactValueOfCard

/-- THE TIED CARD OF 'laws.FnExactVarsIn'. -/
def fnExactVarsInCard : Claim7 := { stood := { row := fnExactVarsInRow, standIns := [], harness := (true, "9ed16bd5a7ec31c8c8de17561bbb3414b5f292008d27fd8ebd95b3f26880e02e"), looks := false }, kinds := [], alts := [], laidByText := true, laidKinds := [.data], laidTests := true, laidLooks := .later }
def FnExactVarsInCardSaid : Prop := Claim7.holds Tryd.pinned (.plain (OpenSpec.ofChange fnExactVarsInSpec)) fnExactVarsInCard

/-- THE TIED CARD OF 'laws.FnExactJoinTerms'. -/
def fnExactJoinTermsCard : Claim7 := { stood := { row := fnExactJoinTermsRow, standIns := [], harness := (true, "9ed16bd5a7ec31c8c8de17561bbb3414b5f292008d27fd8ebd95b3f26880e02e"), looks := false }, kinds := [], alts := [], laidByText := true, laidKinds := [.data], laidTests := true, laidLooks := .later }
def FnExactJoinTermsCardSaid : Prop := Claim7.holds Tryd.pinned (.plain (OpenSpec.ofChange fnExactJoinTermsSpec)) fnExactJoinTermsCard

/-- THE TIED CARD OF 'laws.FnExactTurnTerm'. -/
def fnExactTurnTermCard : Claim7 := { stood := { row := fnExactTurnTermRow, standIns := [], harness := (true, "9ed16bd5a7ec31c8c8de17561bbb3414b5f292008d27fd8ebd95b3f26880e02e"), looks := false }, kinds := [], alts := [], laidByText := true, laidKinds := [.data], laidTests := true, laidLooks := .later }
def FnExactTurnTermCardSaid : Prop := Claim7.holds Tryd.pinned (.plain (OpenSpec.ofChange fnExactTurnTermSpec)) fnExactTurnTermCard

/-- THE TIED CARD OF 'laws.FnExactPutAll'. -/
def fnExactPutAllCard : Claim7 := { stood := { row := fnExactPutAllRow, standIns := [], harness := (true, "9ed16bd5a7ec31c8c8de17561bbb3414b5f292008d27fd8ebd95b3f26880e02e"), looks := false }, kinds := [], alts := [], laidByText := true, laidKinds := [.data], laidTests := true, laidLooks := .later }
def FnExactPutAllCardSaid : Prop := Claim7.holds Tryd.pinned (.plain (OpenSpec.ofChange fnExactPutAllSpec)) fnExactPutAllCard

/-- THE TIED CARD OF 'laws.FnExactFoldTerm'. -/
def fnExactFoldTermCard : Claim7 := { stood := { row := fnExactFoldTermRow, standIns := [], harness := (true, "9ed16bd5a7ec31c8c8de17561bbb3414b5f292008d27fd8ebd95b3f26880e02e"), looks := false }, kinds := [], alts := [], laidByText := true, laidKinds := [.data], laidTests := true, laidLooks := .later }
def FnExactFoldTermCardSaid : Prop := Claim7.holds Tryd.pinned (.plain (OpenSpec.ofChange fnExactFoldTermSpec)) fnExactFoldTermCard

/-- THE SECOND FORM's CARD OF 'laws.FnPutFor'. -/
def fnPutForUptoCard : Claim7 := { stood := { row := fnPutForUptoRow, standIns := [], harness := (true, "9ed16bd5a7ec31c8c8de17561bbb3414b5f292008d27fd8ebd95b3f26880e02e"), looks := false }, kinds := [], alts := [], laidByText := true, laidKinds := [.data], laidTests := true, laidLooks := .later }
def FnPutForUptoCardSaid : Prop := Claim7.holds Tryd.pinned (.plain (OpenSpec.upto fnPutForSpec)) fnPutForUptoCard

/-- THE SECOND FORM's CARD OF 'laws.FnFolded'. -/
def fnFoldedUptoCard : Claim7 := { stood := { row := fnFoldedUptoRow, standIns := [], harness := (true, "9ed16bd5a7ec31c8c8de17561bbb3414b5f292008d27fd8ebd95b3f26880e02e"), looks := false }, kinds := [], alts := [], laidByText := true, laidKinds := [.data], laidTests := true, laidLooks := .later }
def FnFoldedUptoCardSaid : Prop := Claim7.holds Tryd.pinned (.plain (OpenSpec.upto fnFoldedSpec)) fnFoldedUptoCard

/-- THE SECOND FORM's CARD OF 'laws.FnJoined'. -/
def fnJoinedUptoCard : Claim7 := { stood := { row := fnJoinedUptoRow, standIns := [], harness := (true, "9ed16bd5a7ec31c8c8de17561bbb3414b5f292008d27fd8ebd95b3f26880e02e"), looks := false }, kinds := [], alts := [], laidByText := true, laidKinds := [.data], laidTests := true, laidLooks := .later }
def FnJoinedUptoCardSaid : Prop := Claim7.holds Tryd.pinned (.plain (OpenSpec.upto fnJoinedSpec)) fnJoinedUptoCard

/-- THE SECOND FORM's CARD OF 'laws.FnExactGoodTerm'. -/
def fnExactGoodTermUptoCard : Claim7 := { stood := { row := fnExactGoodTermUptoRow, standIns := [], harness := (true, "9ed16bd5a7ec31c8c8de17561bbb3414b5f292008d27fd8ebd95b3f26880e02e"), looks := false }, kinds := [], alts := [], laidByText := true, laidKinds := [.data], laidTests := true, laidLooks := .later }
def FnExactGoodTermUptoCardSaid : Prop := Claim7.holds Tryd.pinned (.plain (OpenSpec.upto fnExactGoodTermSpec)) fnExactGoodTermUptoCard

/-- THE SECOND FORM's CARD OF 'laws.FnExactKindOf'. -/
def fnExactKindOfUptoCard : Claim7 := { stood := { row := fnExactKindOfUptoRow, standIns := [], harness := (true, "9ed16bd5a7ec31c8c8de17561bbb3414b5f292008d27fd8ebd95b3f26880e02e"), looks := false }, kinds := [], alts := [], laidByText := true, laidKinds := [.data], laidTests := true, laidLooks := .later }
def FnExactKindOfUptoCardSaid : Prop := Claim7.holds Tryd.pinned (.plain (OpenSpec.upto fnExactKindOfSpec)) fnExactKindOfUptoCard

/-- THE SECOND FORM's CARD OF 'laws.FnExactValueOf'. -/
def fnExactValueOfUptoCard : Claim7 := { stood := { row := fnExactValueOfUptoRow, standIns := [], harness := (true, "9ed16bd5a7ec31c8c8de17561bbb3414b5f292008d27fd8ebd95b3f26880e02e"), looks := false }, kinds := [], alts := [], laidByText := true, laidKinds := [.data], laidTests := true, laidLooks := .later }
def FnExactValueOfUptoCardSaid : Prop := Claim7.holds Tryd.pinned (.plain (OpenSpec.upto fnExactValueOfSpec)) fnExactValueOfUptoCard

/-- THE SECOND FORM's CARD OF 'laws.FnExactVarsIn'. -/
def fnExactVarsInUptoCard : Claim7 := { stood := { row := fnExactVarsInUptoRow, standIns := [], harness := (true, "9ed16bd5a7ec31c8c8de17561bbb3414b5f292008d27fd8ebd95b3f26880e02e"), looks := false }, kinds := [], alts := [], laidByText := true, laidKinds := [.data], laidTests := true, laidLooks := .later }
def FnExactVarsInUptoCardSaid : Prop := Claim7.holds Tryd.pinned (.plain (OpenSpec.upto fnExactVarsInSpec)) fnExactVarsInUptoCard

/-- THE SECOND FORM's CARD OF 'laws.FnExactJoinTerms'. -/
def fnExactJoinTermsUptoCard : Claim7 := { stood := { row := fnExactJoinTermsUptoRow, standIns := [], harness := (true, "9ed16bd5a7ec31c8c8de17561bbb3414b5f292008d27fd8ebd95b3f26880e02e"), looks := false }, kinds := [], alts := [], laidByText := true, laidKinds := [.data], laidTests := true, laidLooks := .later }
def FnExactJoinTermsUptoCardSaid : Prop := Claim7.holds Tryd.pinned (.plain (OpenSpec.upto fnExactJoinTermsSpec)) fnExactJoinTermsUptoCard

/-- THE SECOND FORM's CARD OF 'laws.FnExactTurnTerm'. -/
def fnExactTurnTermUptoCard : Claim7 := { stood := { row := fnExactTurnTermUptoRow, standIns := [], harness := (true, "9ed16bd5a7ec31c8c8de17561bbb3414b5f292008d27fd8ebd95b3f26880e02e"), looks := false }, kinds := [], alts := [], laidByText := true, laidKinds := [.data], laidTests := true, laidLooks := .later }
def FnExactTurnTermUptoCardSaid : Prop := Claim7.holds Tryd.pinned (.plain (OpenSpec.upto fnExactTurnTermSpec)) fnExactTurnTermUptoCard

/-- THE SECOND FORM's CARD OF 'laws.FnExactPutAll'. -/
def fnExactPutAllUptoCard : Claim7 := { stood := { row := fnExactPutAllUptoRow, standIns := [], harness := (true, "9ed16bd5a7ec31c8c8de17561bbb3414b5f292008d27fd8ebd95b3f26880e02e"), looks := false }, kinds := [], alts := [], laidByText := true, laidKinds := [.data], laidTests := true, laidLooks := .later }
def FnExactPutAllUptoCardSaid : Prop := Claim7.holds Tryd.pinned (.plain (OpenSpec.upto fnExactPutAllSpec)) fnExactPutAllUptoCard

/-- THE SECOND FORM's CARD OF 'laws.FnExactFoldTerm'. -/
def fnExactFoldTermUptoCard : Claim7 := { stood := { row := fnExactFoldTermUptoRow, standIns := [], harness := (true, "9ed16bd5a7ec31c8c8de17561bbb3414b5f292008d27fd8ebd95b3f26880e02e"), looks := false }, kinds := [], alts := [], laidByText := true, laidKinds := [.data], laidTests := true, laidLooks := .later }
def FnExactFoldTermUptoCardSaid : Prop := Claim7.holds Tryd.pinned (.plain (OpenSpec.upto fnExactFoldTermSpec)) fnExactFoldTermUptoCard
end Rows
end Go.Proofs.YtkmgcgmeibhnmaaDoor
