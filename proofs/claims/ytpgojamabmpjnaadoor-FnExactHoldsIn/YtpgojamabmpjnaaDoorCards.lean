/-
  DERIVED. GIVEN WITH THE SEED: THE CARDS: each row of YtpgojamabmpjnaaDoorRows.lean that lists a variable, with what it lists TIED to the program's text (the seventh form; the later family's looks); each row that meets fmt, with fmt's text TOLD by the authors' own Lean function (tested against real Go, not proved from fmt's source: count such statements apart). THE CARD IS WHAT COUNTS. Prove the row's statement (the work); the ties are given (YtpgojamabmpjnaaDoorTie.lean); close each card by the builder's one call (the guide's Derived/Test/ToyasCard.lean, 'card_holds'). Laid BY PROGRAM, IN A SANDBOX (cutbox-door.mjs). By AI agents, Wed Nov 11 2026. No macro, syntax, notation, axiom, sorry.
-/
import Derived.Test.YtpgojamabmpjnaaDoorRows
import GoSem.ClaimSeven
namespace Go.Proofs.YtpgojamabmpjnaaDoor
namespace Rows

/-- THE TIED CARD OF 'laws.FnExactStarts'. -/
def fnExactStartsCard : Claim7 := { stood := { row := fnExactStartsRow, standIns := [], harness := (true, "e62326c0e3d06d2b72ad75916b6f1e40a64417603fbdbfb244a9f221993941cd"), looks := false }, kinds := [], alts := [], laidByText := true, laidKinds := [.data], laidTests := true, laidLooks := .later }
def FnExactStartsCardSaid : Prop := Claim7.holds Tryd.pinned (.plain (OpenSpec.ofChange fnExactStartsSpec)) fnExactStartsCard

/-- THE TIED CARD OF 'laws.FnExactHoldsIn'. -/
def fnExactHoldsInCard : Claim7 := { stood := { row := fnExactHoldsInRow, standIns := [], harness := (true, "e62326c0e3d06d2b72ad75916b6f1e40a64417603fbdbfb244a9f221993941cd"), looks := false }, kinds := [], alts := [], laidByText := true, laidKinds := [.data], laidTests := true, laidLooks := .later }
def FnExactHoldsInCardSaid : Prop := Claim7.holds Tryd.pinned (.plain (OpenSpec.ofChange fnExactHoldsInSpec)) fnExactHoldsInCard

/-- THE SECOND FORM's CARD OF 'laws.FnExactStarts'. -/
def fnExactStartsUptoCard : Claim7 := { stood := { row := fnExactStartsUptoRow, standIns := [], harness := (true, "e62326c0e3d06d2b72ad75916b6f1e40a64417603fbdbfb244a9f221993941cd"), looks := false }, kinds := [], alts := [], laidByText := true, laidKinds := [.data], laidTests := true, laidLooks := .later }
def FnExactStartsUptoCardSaid : Prop := Claim7.holds Tryd.pinned (.plain (OpenSpec.upto fnExactStartsSpec)) fnExactStartsUptoCard

/-- THE SECOND FORM's CARD OF 'laws.FnExactHoldsIn'. -/
def fnExactHoldsInUptoCard : Claim7 := { stood := { row := fnExactHoldsInUptoRow, standIns := [], harness := (true, "e62326c0e3d06d2b72ad75916b6f1e40a64417603fbdbfb244a9f221993941cd"), looks := false }, kinds := [], alts := [], laidByText := true, laidKinds := [.data], laidTests := true, laidLooks := .later }
def FnExactHoldsInUptoCardSaid : Prop := Claim7.holds Tryd.pinned (.plain (OpenSpec.upto fnExactHoldsInSpec)) fnExactHoldsInUptoCard
end Rows
end Go.Proofs.YtpgojamabmpjnaaDoor
