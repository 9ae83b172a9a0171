/-
  DERIVED. GIVEN WITH THE SEED: THE CARDS: each row of YtmhpnkfibecnmaaDoorRows.lean that lists a variable, with what it lists TIED to the program's text (the seventh form; the later family's looks); each row that meets fmt, with fmt's text TOLD by the authors' own Lean function (tested against real Go, not proved from fmt's source: count such statements apart). THE CARD IS WHAT COUNTS. Prove the row's statement (the work); the ties are given (YtmhpnkfibecnmaaDoorTie.lean); close each card by the builder's one call (the guide's Derived/Test/ToyasCard.lean, 'card_holds'). Laid BY PROGRAM, IN A SANDBOX (cutbox-door.mjs). By AI agents, Wed Nov 11 2026. No macro, syntax, notation, axiom, sorry.
-/
import Derived.Test.YtmhpnkfibecnmaaDoorRows
import GoSem.ClaimSeven
namespace Go.Proofs.YtmhpnkfibecnmaaDoor
namespace Rows

/-- THE TIED CARD OF 'laws.FnPlayed'. -/
def fnPlayedCard : Claim7 := { stood := { row := fnPlayedRow, standIns := [], harness := (true, "9ca2356776637c8303c17dd9bb36272a917c6c042347e0be952fd7139b3338e9"), looks := false }, kinds := [], alts := [], laidByText := true, laidKinds := [.data], laidTests := true, laidLooks := .later }
def FnPlayedCardSaid : Prop := Claim7.holds Tryd.pinned (.plain (OpenSpec.ofChange fnPlayedSpec)) fnPlayedCard

/-- THE TIED CARD OF 'laws.FnCommute'. -/
def fnCommuteCard : Claim7 := { stood := { row := fnCommuteRow, standIns := [], harness := (true, "9ca2356776637c8303c17dd9bb36272a917c6c042347e0be952fd7139b3338e9"), looks := false }, kinds := [], alts := [], laidByText := true, laidKinds := [.data], laidTests := true, laidLooks := .later }
def FnCommuteCardSaid : Prop := Claim7.holds Tryd.pinned (.plain (OpenSpec.ofChange fnCommuteSpec)) fnCommuteCard

/-- THE TIED CARD OF 'laws.FnNumbered'. -/
def fnNumberedCard : Claim7 := { stood := { row := fnNumberedRow, standIns := [], harness := (true, "9ca2356776637c8303c17dd9bb36272a917c6c042347e0be952fd7139b3338e9"), looks := false }, kinds := [], alts := [], laidByText := true, laidKinds := [.data], laidTests := true, laidLooks := .later }
def FnNumberedCardSaid : Prop := Claim7.holds Tryd.pinned (.plain (OpenSpec.ofChange fnNumberedSpec)) fnNumberedCard

/-- THE TIED CARD OF 'laws.FnExactStarts'. -/
def fnExactStartsCard : Claim7 := { stood := { row := fnExactStartsRow, standIns := [], harness := (true, "9ca2356776637c8303c17dd9bb36272a917c6c042347e0be952fd7139b3338e9"), looks := false }, kinds := [], alts := [], laidByText := true, laidKinds := [.data], laidTests := true, laidLooks := .later }
def FnExactStartsCardSaid : Prop := Claim7.holds Tryd.pinned (.plain (OpenSpec.ofChange fnExactStartsSpec)) fnExactStartsCard

/-- THE SECOND FORM's CARD OF 'laws.FnPlayed'. -/
def fnPlayedUptoCard : Claim7 := { stood := { row := fnPlayedUptoRow, standIns := [], harness := (true, "9ca2356776637c8303c17dd9bb36272a917c6c042347e0be952fd7139b3338e9"), looks := false }, kinds := [], alts := [], laidByText := true, laidKinds := [.data], laidTests := true, laidLooks := .later }
def FnPlayedUptoCardSaid : Prop := Claim7.holds Tryd.pinned (.plain (OpenSpec.upto fnPlayedSpec)) fnPlayedUptoCard

/-- THE SECOND FORM's CARD OF 'laws.FnCommute'. -/
def fnCommuteUptoCard : Claim7 := { stood := { row := fnCommuteUptoRow, standIns := [], harness := (true, "9ca2356776637c8303c17dd9bb36272a917c6c042347e0be952fd7139b3338e9"), looks := false }, kinds := [], alts := [], laidByText := true, laidKinds := [.data], laidTests := true, laidLooks := .later }
def FnCommuteUptoCardSaid : Prop := Claim7.holds Tryd.pinned (.plain (OpenSpec.upto fnCommuteSpec)) fnCommuteUptoCard

/-- THE SECOND FORM's CARD OF 'laws.FnNumbered'. -/
def fnNumberedUptoCard : Claim7 := { stood := { row := fnNumberedUptoRow, standIns := [], harness := (true, "9ca2356776637c8303c17dd9bb36272a917c6c042347e0be952fd7139b3338e9"), looks := false }, kinds := [], alts := [], laidByText := true, laidKinds := [.data], laidTests := true, laidLooks := .later }
def FnNumberedUptoCardSaid : Prop := Claim7.holds Tryd.pinned (.plain (OpenSpec.upto fnNumberedSpec)) fnNumberedUptoCard

/-- THE SECOND FORM's CARD OF 'laws.FnExactStarts'. -/
def fnExactStartsUptoCard : Claim7 := { stood := { row := fnExactStartsUptoRow, standIns := [], harness := (true, "9ca2356776637c8303c17dd9bb36272a917c6c042347e0be952fd7139b3338e9"), looks := false }, kinds := [], alts := [], laidByText := true, laidKinds := [.data], laidTests := true, laidLooks := .later }
def FnExactStartsUptoCardSaid : Prop := Claim7.holds Tryd.pinned (.plain (OpenSpec.upto fnExactStartsSpec)) fnExactStartsUptoCard
end Rows
end Go.Proofs.YtmhpnkfibecnmaaDoor
