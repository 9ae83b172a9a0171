/-
  No cell of these rows narrows 'for every input' (looked for: loops, veiled, ifaces, maps, wideKeys, modest, calm, conditions, laid).
  DERIVED. THE GIVEN ROWS OF THIS SEAT. 13 by the template 'for every input the law returns true; each argument reads behind the call as it read before'; 0 by the template 'total and deterministic' (their statements: YtmjeaceabjinfaaTotals.lean).
  GIVEN WITH THE SEED: the statements are not yours to turn. If you find one false, say at which input.
  Laid BY PROGRAM, IN A SANDBOX (cutbox-rows.mjs): the forced cells as the released guide's own fill.sh prints them over the translation 8557aadbe8945407… (all of the seat's roots in one cut). By AI agents, Wed Nov 11 2026. No macro, syntax, notation, axiom, sorry.
-/
import Derived.Test.YtmjeaceabjinfaaChecked
import GoSem.Claim
import GoSem.ClaimJoined
import GoSem.ClaimMapViews
import Derived.JoinedTies
import Derived.KernelRfl
namespace Go.Proofs.Ytmjeaceabjinfaa
/- THE CELL 'sum', in the pinned program and in every row, IS THE sha256 OF THE DUMP (.gsa) THAT YtmjeaceabjinfaaProg.lean LOADS. Nothing in Lean hashes anything: it is a label: what it is worth is what the hold of that sum in a sandbox is worth. -/
noncomputable def Try.pinned : Pinned := { name := "ytmjeaceabjinfaa", sum := "8557aadbe89454078f19ea3530eed51fe59078ab655bb9bb5c469ce327e23330", checked := Try.checked }
namespace Rows
def none {H : Type} : Left H := { results := [], args := [] }

/-- 'laws.FnCompared': WHATEVER THE INPUT: true; the input reads as it did. -/
def fnComparedSpec : ChangeSpec := { name := "fnCompared", fn := fun _ => fun
  | [d1, d2] => { results := [.lit (.bool true)], args := [d1, d2] }
  | _ => none }
def fnComparedRow : OpenClaim := { program := "ytmjeaceabjinfaa", sum := "8557aadbe89454078f19ea3530eed51fe59078ab655bb9bb5c469ce327e23330", func := "loop.example/g00649/laws.FnCompared", spec := "fnCompared", unfollowed := true, recurses := true, apart := false }
def FnComparedSaid : Prop := fnComparedRow.holds Try.pinned (OpenSpec.ofChange fnComparedSpec)

/-- ITS FALSE NEIGHBOUR: 'it returns false'. Refute it at one input. -/
def fnComparedWrong : ChangeSpec := { name := "fnCompared", fn := fun _ => fun
  | [d1, d2] => { results := [.lit (.bool false)], args := [d1, d2] }
  | _ => none }
def FnComparedWrongFalsely : Prop := fnComparedRow.holds Try.pinned (OpenSpec.ofChange fnComparedWrong)

/-- 'laws.FnPruned': WHATEVER THE INPUT: true; the input reads as it did. -/
def fnPrunedSpec : ChangeSpec := { name := "fnPruned", fn := fun _ => fun
  | [d1, d2] => { results := [.lit (.bool true)], args := [d1, d2] }
  | _ => none }
def fnPrunedRow : OpenClaim := { program := "ytmjeaceabjinfaa", sum := "8557aadbe89454078f19ea3530eed51fe59078ab655bb9bb5c469ce327e23330", func := "loop.example/g00649/laws.FnPruned", spec := "fnPruned", apart := false }
def FnPrunedSaid : Prop := fnPrunedRow.holds Try.pinned (OpenSpec.ofChange fnPrunedSpec)

/-- ITS FALSE NEIGHBOUR: 'it returns false'. Refute it at one input. -/
def fnPrunedWrong : ChangeSpec := { name := "fnPruned", fn := fun _ => fun
  | [d1, d2] => { results := [.lit (.bool false)], args := [d1, d2] }
  | _ => none }
def FnPrunedWrongFalsely : Prop := fnPrunedRow.holds Try.pinned (OpenSpec.ofChange fnPrunedWrong)

/-- 'laws.FnSolved': WHATEVER THE INPUT: true; the input reads as it did. -/
def fnSolvedSpec : ChangeSpec := { name := "fnSolved", fn := fun _ => fun
  | [d1, d2] => { results := [.lit (.bool true)], args := [d1, d2] }
  | _ => none }
def fnSolvedRow : OpenClaim := { program := "ytmjeaceabjinfaa", sum := "8557aadbe89454078f19ea3530eed51fe59078ab655bb9bb5c469ce327e23330", func := "loop.example/g00649/laws.FnSolved", spec := "fnSolved", unfollowed := true, recurses := true, apart := false }
def FnSolvedSaid : Prop := fnSolvedRow.holds Try.pinned (OpenSpec.ofChange fnSolvedSpec)

/-- ITS FALSE NEIGHBOUR: 'it returns false'. Refute it at one input. -/
def fnSolvedWrong : ChangeSpec := { name := "fnSolved", fn := fun _ => fun
  | [d1, d2] => { results := [.lit (.bool false)], args := [d1, d2] }
  | _ => none }
def FnSolvedWrongFalsely : Prop := fnSolvedRow.holds Try.pinned (OpenSpec.ofChange fnSolvedWrong)

/-- 'laws.FnForcedOn': WHATEVER THE INPUT: true; the input reads as it did. -/
def fnForcedOnSpec : ChangeSpec := { name := "fnForcedOn", fn := fun _ => fun
  | [d1, d2] => { results := [.lit (.bool true)], args := [d1, d2] }
  | _ => none }
def fnForcedOnRow : OpenClaim := { program := "ytmjeaceabjinfaa", sum := "8557aadbe89454078f19ea3530eed51fe59078ab655bb9bb5c469ce327e23330", func := "loop.example/g00649/laws.FnForcedOn", spec := "fnForcedOn", unfollowed := true, recurses := true, apart := false }
def FnForcedOnSaid : Prop := fnForcedOnRow.holds Try.pinned (OpenSpec.ofChange fnForcedOnSpec)

/-- ITS FALSE NEIGHBOUR: 'it returns false'. Refute it at one input. -/
def fnForcedOnWrong : ChangeSpec := { name := "fnForcedOn", fn := fun _ => fun
  | [d1, d2] => { results := [.lit (.bool false)], args := [d1, d2] }
  | _ => none }
def FnForcedOnWrongFalsely : Prop := fnForcedOnRow.holds Try.pinned (OpenSpec.ofChange fnForcedOnWrong)

/-- 'laws.FnClausesFor': WHATEVER THE INPUT: true; the input reads as it did. -/
def fnClausesForSpec : ChangeSpec := { name := "fnClausesFor", fn := fun _ => fun
  | [d1, d2] => { results := [.lit (.bool true)], args := [d1, d2] }
  | _ => none }
def fnClausesForRow : OpenClaim := { program := "ytmjeaceabjinfaa", sum := "8557aadbe89454078f19ea3530eed51fe59078ab655bb9bb5c469ce327e23330", func := "loop.example/g00649/laws.FnClausesFor", spec := "fnClausesFor", apart := false }
def FnClausesForSaid : Prop := fnClausesForRow.holds Try.pinned (OpenSpec.ofChange fnClausesForSpec)

/-- ITS FALSE NEIGHBOUR: 'it returns false'. Refute it at one input. -/
def fnClausesForWrong : ChangeSpec := { name := "fnClausesFor", fn := fun _ => fun
  | [d1, d2] => { results := [.lit (.bool false)], args := [d1, d2] }
  | _ => none }
def FnClausesForWrongFalsely : Prop := fnClausesForRow.holds Try.pinned (OpenSpec.ofChange fnClausesForWrong)

/-- 'laws.FnResolved': WHATEVER THE INPUT: true; the input reads as it did. -/
def fnResolvedSpec : ChangeSpec := { name := "fnResolved", fn := fun _ => fun
  | [d1, d2] => { results := [.lit (.bool true)], args := [d1, d2] }
  | _ => none }
def fnResolvedRow : OpenClaim := { program := "ytmjeaceabjinfaa", sum := "8557aadbe89454078f19ea3530eed51fe59078ab655bb9bb5c469ce327e23330", func := "loop.example/g00649/laws.FnResolved", spec := "fnResolved", unfollowed := true, recurses := true, apart := false }
def FnResolvedSaid : Prop := fnResolvedRow.holds Try.pinned (OpenSpec.ofChange fnResolvedSpec)

/-- ITS FALSE NEIGHBOUR: 'it returns false'. Refute it at one input. -/
def fnResolvedWrong : ChangeSpec := { name := "fnResolved", fn := fun _ => fun
  | [d1, d2] => { results := [.lit (.bool false)], args := [d1, d2] }
  | _ => none }
def FnResolvedWrongFalsely : Prop := fnResolvedRow.holds Try.pinned (OpenSpec.ofChange fnResolvedWrong)

/-- 'laws.FnExactGoodCnf': WHATEVER THE INPUT: true; the input reads as it did. -/
def fnExactGoodCnfSpec : ChangeSpec := { name := "fnExactGoodCnf", fn := fun _ => fun
  | [d] => { results := [.lit (.bool true)], args := [d] }
  | _ => none }
def fnExactGoodCnfRow : OpenClaim := { program := "ytmjeaceabjinfaa", sum := "8557aadbe89454078f19ea3530eed51fe59078ab655bb9bb5c469ce327e23330", func := "loop.example/g00649/laws.FnExactGoodCnf", spec := "fnExactGoodCnf", apart := false }
def FnExactGoodCnfSaid : Prop := fnExactGoodCnfRow.holds Try.pinned (OpenSpec.ofChange fnExactGoodCnfSpec)

/-- ITS FALSE NEIGHBOUR: 'it returns false'. Refute it at one input. -/
def fnExactGoodCnfWrong : ChangeSpec := { name := "fnExactGoodCnf", fn := fun _ => fun
  | [d] => { results := [.lit (.bool false)], args := [d] }
  | _ => none }
def FnExactGoodCnfWrongFalsely : Prop := fnExactGoodCnfRow.holds Try.pinned (OpenSpec.ofChange fnExactGoodCnfWrong)

/-- 'laws.FnExactMeets': WHATEVER THE INPUT: true; the input reads as it did. -/
def fnExactMeetsSpec : ChangeSpec := { name := "fnExactMeets", fn := fun _ => fun
  | [d1, d2] => { results := [.lit (.bool true)], args := [d1, d2] }
  | _ => none }
def fnExactMeetsRow : OpenClaim := { program := "ytmjeaceabjinfaa", sum := "8557aadbe89454078f19ea3530eed51fe59078ab655bb9bb5c469ce327e23330", func := "loop.example/g00649/laws.FnExactMeets", spec := "fnExactMeets", apart := false }
def FnExactMeetsSaid : Prop := fnExactMeetsRow.holds Try.pinned (OpenSpec.ofChange fnExactMeetsSpec)

/-- ITS FALSE NEIGHBOUR: 'it returns false'. Refute it at one input. -/
def fnExactMeetsWrong : ChangeSpec := { name := "fnExactMeets", fn := fun _ => fun
  | [d1, d2] => { results := [.lit (.bool false)], args := [d1, d2] }
  | _ => none }
def FnExactMeetsWrongFalsely : Prop := fnExactMeetsRow.holds Try.pinned (OpenSpec.ofChange fnExactMeetsWrong)

/-- 'laws.FnExactForced': WHATEVER THE INPUT: true; the input reads as it did. -/
def fnExactForcedSpec : ChangeSpec := { name := "fnExactForced", fn := fun _ => fun
  | [d1, d2] => { results := [.lit (.bool true)], args := [d1, d2] }
  | _ => none }
def fnExactForcedRow : OpenClaim := { program := "ytmjeaceabjinfaa", sum := "8557aadbe89454078f19ea3530eed51fe59078ab655bb9bb5c469ce327e23330", func := "loop.example/g00649/laws.FnExactForced", spec := "fnExactForced", unfollowed := true, recurses := true, apart := false }
def FnExactForcedSaid : Prop := fnExactForcedRow.holds Try.pinned (OpenSpec.ofChange fnExactForcedSpec)

/-- ITS FALSE NEIGHBOUR: 'it returns false'. Refute it at one input. -/
def fnExactForcedWrong : ChangeSpec := { name := "fnExactForced", fn := fun _ => fun
  | [d1, d2] => { results := [.lit (.bool false)], args := [d1, d2] }
  | _ => none }
def FnExactForcedWrongFalsely : Prop := fnExactForcedRow.holds Try.pinned (OpenSpec.ofChange fnExactForcedWrong)

/-- 'laws.FnExactSolve': WHATEVER THE INPUT: true; the input reads as it did. -/
def fnExactSolveSpec : ChangeSpec := { name := "fnExactSolve", fn := fun _ => fun
  | [d1, d2] => { results := [.lit (.bool true)], args := [d1, d2] }
  | _ => none }
def fnExactSolveRow : OpenClaim := { program := "ytmjeaceabjinfaa", sum := "8557aadbe89454078f19ea3530eed51fe59078ab655bb9bb5c469ce327e23330", func := "loop.example/g00649/laws.FnExactSolve", spec := "fnExactSolve", unfollowed := true, recurses := true, apart := false }
def FnExactSolveSaid : Prop := fnExactSolveRow.holds Try.pinned (OpenSpec.ofChange fnExactSolveSpec)

/-- ITS FALSE NEIGHBOUR: 'it returns false'. Refute it at one input. -/
def fnExactSolveWrong : ChangeSpec := { name := "fnExactSolve", fn := fun _ => fun
  | [d1, d2] => { results := [.lit (.bool false)], args := [d1, d2] }
  | _ => none }
def FnExactSolveWrongFalsely : Prop := fnExactSolveRow.holds Try.pinned (OpenSpec.ofChange fnExactSolveWrong)

/-- 'laws.FnExactCnfFor': WHATEVER THE INPUT: true; the input reads as it did. -/
def fnExactCnfForSpec : ChangeSpec := { name := "fnExactCnfFor", fn := fun _ => fun
  | [d1, d2] => { results := [.lit (.bool true)], args := [d1, d2] }
  | _ => none }
def fnExactCnfForRow : OpenClaim := { program := "ytmjeaceabjinfaa", sum := "8557aadbe89454078f19ea3530eed51fe59078ab655bb9bb5c469ce327e23330", func := "loop.example/g00649/laws.FnExactCnfFor", spec := "fnExactCnfFor", apart := false }
def FnExactCnfForSaid : Prop := fnExactCnfForRow.holds Try.pinned (OpenSpec.ofChange fnExactCnfForSpec)

/-- ITS FALSE NEIGHBOUR: 'it returns false'. Refute it at one input. -/
def fnExactCnfForWrong : ChangeSpec := { name := "fnExactCnfFor", fn := fun _ => fun
  | [d1, d2] => { results := [.lit (.bool false)], args := [d1, d2] }
  | _ => none }
def FnExactCnfForWrongFalsely : Prop := fnExactCnfForRow.holds Try.pinned (OpenSpec.ofChange fnExactCnfForWrong)

/-- 'laws.FnExactCountOf': WHATEVER THE INPUT: true; the input reads as it did. -/
def fnExactCountOfSpec : ChangeSpec := { name := "fnExactCountOf", fn := fun _ => fun
  | [d] => { results := [.lit (.bool true)], args := [d] }
  | _ => none }
def fnExactCountOfRow : OpenClaim := { program := "ytmjeaceabjinfaa", sum := "8557aadbe89454078f19ea3530eed51fe59078ab655bb9bb5c469ce327e23330", func := "loop.example/g00649/laws.FnExactCountOf", spec := "fnExactCountOf", apart := false }
def FnExactCountOfSaid : Prop := fnExactCountOfRow.holds Try.pinned (OpenSpec.ofChange fnExactCountOfSpec)

/-- ITS FALSE NEIGHBOUR: 'it returns false'. Refute it at one input. -/
def fnExactCountOfWrong : ChangeSpec := { name := "fnExactCountOf", fn := fun _ => fun
  | [d] => { results := [.lit (.bool false)], args := [d] }
  | _ => none }
def FnExactCountOfWrongFalsely : Prop := fnExactCountOfRow.holds Try.pinned (OpenSpec.ofChange fnExactCountOfWrong)

/-- 'laws.FnExactResolveOn': WHATEVER THE INPUT: true; the input reads as it did. -/
def fnExactResolveOnSpec : ChangeSpec := { name := "fnExactResolveOn", fn := fun _ => fun
  | [d1, d2, d3] => { results := [.lit (.bool true)], args := [d1, d2, d3] }
  | _ => none }
def fnExactResolveOnRow : OpenClaim := { program := "ytmjeaceabjinfaa", sum := "8557aadbe89454078f19ea3530eed51fe59078ab655bb9bb5c469ce327e23330", func := "loop.example/g00649/laws.FnExactResolveOn", spec := "fnExactResolveOn", unfollowed := true, recurses := true, apart := false }
def FnExactResolveOnSaid : Prop := fnExactResolveOnRow.holds Try.pinned (OpenSpec.ofChange fnExactResolveOnSpec)

/-- ITS FALSE NEIGHBOUR: 'it returns false'. Refute it at one input. -/
def fnExactResolveOnWrong : ChangeSpec := { name := "fnExactResolveOn", fn := fun _ => fun
  | [d1, d2, d3] => { results := [.lit (.bool false)], args := [d1, d2, d3] }
  | _ => none }
def FnExactResolveOnWrongFalsely : Prop := fnExactResolveOnRow.holds Try.pinned (OpenSpec.ofChange fnExactResolveOnWrong)

/- THE SECOND FORM. 'bulk': how many values and letters a reading holds, each counted each time it is reached (what is shared counts as often as it is met; a slice's spare places count too). A statement '..UptoSaid' is the law's where the arguments, and the package variables that the reading takes, are together of bulk at most 1048576: NARROWER than '..Said'. Prove '..Said' where nothing that the law and all that it calls make is longer than what came in: it says more and counts as full. Else prove '..UptoSaid'. A law counts once. -/
mutual
def uptoBulk {H : Type} : DataW H → Nat
  | .lit (.string bytes) => bytes.length + 1
  | .lit _ => 1
  | .nil => 1
  | .ptr d => uptoBulk d + 1
  | .slice elems spare => uptoBulkAll elems + uptoBulkAll spare + 1
  | .agg parts => uptoBulkAll parts + 1
  | .iface _ d => uptoBulk d + 1
  | .map entries => uptoBulkEntries entries + 1
  | .held _ => 1
def uptoBulkAll {H : Type} : List (DataW H) → Nat
  | [] => 0
  | d :: r => uptoBulk d + uptoBulkAll r
def uptoBulkEntries {H : Type} : List (Lit × DataW H) → Nat
  | [] => 0
  | x :: r => uptoBulkEntry x + uptoBulkEntries r
def uptoBulkEntry {H : Type} : Lit × DataW H → Nat
  | (.string bytes, d) => bytes.length + uptoBulk d + 1
  | (_, d) => uptoBulk d + 1
 end
def uptoSmall : (H : Type) → List (DataW H) → Bool := fun _ ds => decide (uptoBulkAll ds ≤ 1048576)
def OpenSpec.upto (s : _root_.Go.ChangeSpec) : _root_.Go.OpenSpec := { _root_.Go.OpenSpec.ofChange s with cond := some uptoSmall }

/-- 'laws.FnCompared', WHERE WHAT IT READS IS OF BULK AT MOST 1048576: true; the input reads as it did. -/
def fnComparedUptoRow : OpenClaim := { program := "ytmjeaceabjinfaa", sum := "8557aadbe89454078f19ea3530eed51fe59078ab655bb9bb5c469ce327e23330", func := "loop.example/g00649/laws.FnCompared", spec := "fnCompared", unfollowed := true, recurses := true, apart := false, narrowed := true }
def FnComparedUptoSaid : Prop := fnComparedUptoRow.holds Try.pinned (OpenSpec.upto fnComparedSpec)

/-- 'laws.FnPruned', WHERE WHAT IT READS IS OF BULK AT MOST 1048576: true; the input reads as it did. -/
def fnPrunedUptoRow : OpenClaim := { program := "ytmjeaceabjinfaa", sum := "8557aadbe89454078f19ea3530eed51fe59078ab655bb9bb5c469ce327e23330", func := "loop.example/g00649/laws.FnPruned", spec := "fnPruned", apart := false, narrowed := true }
def FnPrunedUptoSaid : Prop := fnPrunedUptoRow.holds Try.pinned (OpenSpec.upto fnPrunedSpec)

/-- 'laws.FnSolved', WHERE WHAT IT READS IS OF BULK AT MOST 1048576: true; the input reads as it did. -/
def fnSolvedUptoRow : OpenClaim := { program := "ytmjeaceabjinfaa", sum := "8557aadbe89454078f19ea3530eed51fe59078ab655bb9bb5c469ce327e23330", func := "loop.example/g00649/laws.FnSolved", spec := "fnSolved", unfollowed := true, recurses := true, apart := false, narrowed := true }
def FnSolvedUptoSaid : Prop := fnSolvedUptoRow.holds Try.pinned (OpenSpec.upto fnSolvedSpec)

/-- 'laws.FnForcedOn', WHERE WHAT IT READS IS OF BULK AT MOST 1048576: true; the input reads as it did. -/
def fnForcedOnUptoRow : OpenClaim := { program := "ytmjeaceabjinfaa", sum := "8557aadbe89454078f19ea3530eed51fe59078ab655bb9bb5c469ce327e23330", func := "loop.example/g00649/laws.FnForcedOn", spec := "fnForcedOn", unfollowed := true, recurses := true, apart := false, narrowed := true }
def FnForcedOnUptoSaid : Prop := fnForcedOnUptoRow.holds Try.pinned (OpenSpec.upto fnForcedOnSpec)

/-- 'laws.FnClausesFor', WHERE WHAT IT READS IS OF BULK AT MOST 1048576: true; the input reads as it did. -/
def fnClausesForUptoRow : OpenClaim := { program := "ytmjeaceabjinfaa", sum := "8557aadbe89454078f19ea3530eed51fe59078ab655bb9bb5c469ce327e23330", func := "loop.example/g00649/laws.FnClausesFor", spec := "fnClausesFor", apart := false, narrowed := true }
def FnClausesForUptoSaid : Prop := fnClausesForUptoRow.holds Try.pinned (OpenSpec.upto fnClausesForSpec)

/-- 'laws.FnResolved', WHERE WHAT IT READS IS OF BULK AT MOST 1048576: true; the input reads as it did. -/
def fnResolvedUptoRow : OpenClaim := { program := "ytmjeaceabjinfaa", sum := "8557aadbe89454078f19ea3530eed51fe59078ab655bb9bb5c469ce327e23330", func := "loop.example/g00649/laws.FnResolved", spec := "fnResolved", unfollowed := true, recurses := true, apart := false, narrowed := true }
def FnResolvedUptoSaid : Prop := fnResolvedUptoRow.holds Try.pinned (OpenSpec.upto fnResolvedSpec)

/-- 'laws.FnExactGoodCnf', WHERE WHAT IT READS IS OF BULK AT MOST 1048576: true; the input reads as it did. -/
def fnExactGoodCnfUptoRow : OpenClaim := { program := "ytmjeaceabjinfaa", sum := "8557aadbe89454078f19ea3530eed51fe59078ab655bb9bb5c469ce327e23330", func := "loop.example/g00649/laws.FnExactGoodCnf", spec := "fnExactGoodCnf", apart := false, narrowed := true }
def FnExactGoodCnfUptoSaid : Prop := fnExactGoodCnfUptoRow.holds Try.pinned (OpenSpec.upto fnExactGoodCnfSpec)

/-- 'laws.FnExactMeets', WHERE WHAT IT READS IS OF BULK AT MOST 1048576: true; the input reads as it did. -/
def fnExactMeetsUptoRow : OpenClaim := { program := "ytmjeaceabjinfaa", sum := "8557aadbe89454078f19ea3530eed51fe59078ab655bb9bb5c469ce327e23330", func := "loop.example/g00649/laws.FnExactMeets", spec := "fnExactMeets", apart := false, narrowed := true }
def FnExactMeetsUptoSaid : Prop := fnExactMeetsUptoRow.holds Try.pinned (OpenSpec.upto fnExactMeetsSpec)

/-- 'laws.FnExactForced', WHERE WHAT IT READS IS OF BULK AT MOST 1048576: true; the input reads as it did. -/
def fnExactForcedUptoRow : OpenClaim := { program := "ytmjeaceabjinfaa", sum := "8557aadbe89454078f19ea3530eed51fe59078ab655bb9bb5c469ce327e23330", func := "loop.example/g00649/laws.FnExactForced", spec := "fnExactForced", unfollowed := true, recurses := true, apart := false, narrowed := true }
def FnExactForcedUptoSaid : Prop := fnExactForcedUptoRow.holds Try.pinned (OpenSpec.upto fnExactForcedSpec)

/-- 'laws.FnExactSolve', WHERE WHAT IT READS IS OF BULK AT MOST 1048576: true; the input reads as it did. -/
def fnExactSolveUptoRow : OpenClaim := { program := "ytmjeaceabjinfaa", sum := "8557aadbe89454078f19ea3530eed51fe59078ab655bb9bb5c469ce327e23330", func := "loop.example/g00649/laws.FnExactSolve", spec := "fnExactSolve", unfollowed := true, recurses := true, apart := false, narrowed := true }
def FnExactSolveUptoSaid : Prop := fnExactSolveUptoRow.holds Try.pinned (OpenSpec.upto fnExactSolveSpec)

/-- 'laws.FnExactCnfFor', WHERE WHAT IT READS IS OF BULK AT MOST 1048576: true; the input reads as it did. -/
def fnExactCnfForUptoRow : OpenClaim := { program := "ytmjeaceabjinfaa", sum := "8557aadbe89454078f19ea3530eed51fe59078ab655bb9bb5c469ce327e23330", func := "loop.example/g00649/laws.FnExactCnfFor", spec := "fnExactCnfFor", apart := false, narrowed := true }
def FnExactCnfForUptoSaid : Prop := fnExactCnfForUptoRow.holds Try.pinned (OpenSpec.upto fnExactCnfForSpec)

/-- 'laws.FnExactCountOf', WHERE WHAT IT READS IS OF BULK AT MOST 1048576: true; the input reads as it did. -/
def fnExactCountOfUptoRow : OpenClaim := { program := "ytmjeaceabjinfaa", sum := "8557aadbe89454078f19ea3530eed51fe59078ab655bb9bb5c469ce327e23330", func := "loop.example/g00649/laws.FnExactCountOf", spec := "fnExactCountOf", apart := false, narrowed := true }
def FnExactCountOfUptoSaid : Prop := fnExactCountOfUptoRow.holds Try.pinned (OpenSpec.upto fnExactCountOfSpec)

/-- 'laws.FnExactResolveOn', WHERE WHAT IT READS IS OF BULK AT MOST 1048576: true; the input reads as it did. -/
def fnExactResolveOnUptoRow : OpenClaim := { program := "ytmjeaceabjinfaa", sum := "8557aadbe89454078f19ea3530eed51fe59078ab655bb9bb5c469ce327e23330", func := "loop.example/g00649/laws.FnExactResolveOn", spec := "fnExactResolveOn", unfollowed := true, recurses := true, apart := false, narrowed := true }
def FnExactResolveOnUptoSaid : Prop := fnExactResolveOnUptoRow.holds Try.pinned (OpenSpec.upto fnExactResolveOnSpec)

end Rows
end Go.Proofs.Ytmjeaceabjinfaa
