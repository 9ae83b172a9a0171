/-
  No cell of these rows narrows 'for every input' (looked for: loops, veiled, ifaces, maps, wideKeys, modest, calm, conditions, laid).
  DERIVED. THE GIVEN ROWS OF THIS SEAT. 10 by the template 'for every input the law returns true; each argument reads behind the call as it read before'; 0 by the template 'total and deterministic' (their statements: YthamdefkcjfjpaaTotals.lean).
  GIVEN WITH THE SEED: the statements are not yours to turn. If you find one false, say at which input.
  Laid BY PROGRAM, IN A SANDBOX (cutbox-rows.mjs): the forced cells as the released guide's own fill.sh prints them over the translation 33c204a507a014d6… (all of the seat's roots in one cut). By AI agents, Wed Nov 11 2026. No macro, syntax, notation, axiom, sorry.
-/
import Derived.Test.YthamdefkcjfjpaaChecked
import GoSem.Claim
import GoSem.ClaimJoined
import GoSem.ClaimMapViews
import Derived.JoinedTies
import Derived.KernelRfl
namespace Go.Proofs.Ythamdefkcjfjpaa
/- THE CELL 'sum', in the pinned program and in every row, IS THE sha256 OF THE DUMP (.gsa) THAT YthamdefkcjfjpaaProg.lean LOADS. Nothing in Lean hashes anything: it is a label: what it is worth is what the hold of that sum in a sandbox is worth. -/
noncomputable def Try.pinned : Pinned := { name := "ythamdefkcjfjpaa", sum := "33c204a507a014d62b97a334b567fdf1adef3aace174d41b05abc6c0f58717ba", checked := Try.checked }
namespace Rows
def none {H : Type} : Left H := { results := [], args := [] }

/-- 'laws.FnLeast': WHATEVER THE INPUT: true; the input reads as it did. -/
def fnLeastSpec : ChangeSpec := { name := "fnLeast", fn := fun _ => fun
  | [d1, d2] => { results := [.lit (.bool true)], args := [d1, d2] }
  | _ => none }
def fnLeastRow : OpenClaim := { program := "ythamdefkcjfjpaa", sum := "33c204a507a014d62b97a334b567fdf1adef3aace174d41b05abc6c0f58717ba", func := "loop.example/g00649/laws.FnLeast", spec := "fnLeast", unfollowed := true, recurses := true, apart := false }
def FnLeastSaid : Prop := fnLeastRow.holds Try.pinned (OpenSpec.ofChange fnLeastSpec)

/-- ITS FALSE NEIGHBOUR: 'it returns false'. Refute it at one input. -/
def fnLeastWrong : ChangeSpec := { name := "fnLeast", fn := fun _ => fun
  | [d1, d2] => { results := [.lit (.bool false)], args := [d1, d2] }
  | _ => none }
def FnLeastWrongFalsely : Prop := fnLeastRow.holds Try.pinned (OpenSpec.ofChange fnLeastWrong)

/-- 'laws.FnLetters': WHATEVER THE INPUT: true; the input reads as it did. -/
def fnLettersSpec : ChangeSpec := { name := "fnLetters", fn := fun _ => fun
  | [d1, d2] => { results := [.lit (.bool true)], args := [d1, d2] }
  | _ => none }
def fnLettersRow : OpenClaim := { program := "ythamdefkcjfjpaa", sum := "33c204a507a014d62b97a334b567fdf1adef3aace174d41b05abc6c0f58717ba", func := "loop.example/g00649/laws.FnLetters", spec := "fnLetters", unfollowed := true, recurses := true, apart := false }
def FnLettersSaid : Prop := fnLettersRow.holds Try.pinned (OpenSpec.ofChange fnLettersSpec)

/-- ITS FALSE NEIGHBOUR: 'it returns false'. Refute it at one input. -/
def fnLettersWrong : ChangeSpec := { name := "fnLetters", fn := fun _ => fun
  | [d1, d2] => { results := [.lit (.bool false)], args := [d1, d2] }
  | _ => none }
def FnLettersWrongFalsely : Prop := fnLettersRow.holds Try.pinned (OpenSpec.ofChange fnLettersWrong)

/-- 'laws.FnExactGoodLasso': WHATEVER THE INPUT: true; the input reads as it did. -/
def fnExactGoodLassoSpec : ChangeSpec := { name := "fnExactGoodLasso", fn := fun _ => fun
  | [d] => { results := [.lit (.bool true)], args := [d] }
  | _ => none }
def fnExactGoodLassoRow : OpenClaim := { program := "ythamdefkcjfjpaa", sum := "33c204a507a014d62b97a334b567fdf1adef3aace174d41b05abc6c0f58717ba", func := "loop.example/g00649/laws.FnExactGoodLasso", spec := "fnExactGoodLasso", unfollowed := true, recurses := true, apart := false }
def FnExactGoodLassoSaid : Prop := fnExactGoodLassoRow.holds Try.pinned (OpenSpec.ofChange fnExactGoodLassoSpec)

/-- ITS FALSE NEIGHBOUR: 'it returns false'. Refute it at one input. -/
def fnExactGoodLassoWrong : ChangeSpec := { name := "fnExactGoodLasso", fn := fun _ => fun
  | [d] => { results := [.lit (.bool false)], args := [d] }
  | _ => none }
def FnExactGoodLassoWrongFalsely : Prop := fnExactGoodLassoRow.holds Try.pinned (OpenSpec.ofChange fnExactGoodLassoWrong)

/-- 'laws.FnExactLetterAt': WHATEVER THE INPUT: true; the input reads as it did. -/
def fnExactLetterAtSpec : ChangeSpec := { name := "fnExactLetterAt", fn := fun _ => fun
  | [d1, d2] => { results := [.lit (.bool true)], args := [d1, d2] }
  | _ => none }
def fnExactLetterAtRow : OpenClaim := { program := "ythamdefkcjfjpaa", sum := "33c204a507a014d62b97a334b567fdf1adef3aace174d41b05abc6c0f58717ba", func := "loop.example/g00649/laws.FnExactLetterAt", spec := "fnExactLetterAt", unfollowed := true, recurses := true, apart := false }
def FnExactLetterAtSaid : Prop := fnExactLetterAtRow.holds Try.pinned (OpenSpec.ofChange fnExactLetterAtSpec)

/-- ITS FALSE NEIGHBOUR: 'it returns false'. Refute it at one input. -/
def fnExactLetterAtWrong : ChangeSpec := { name := "fnExactLetterAt", fn := fun _ => fun
  | [d1, d2] => { results := [.lit (.bool false)], args := [d1, d2] }
  | _ => none }
def FnExactLetterAtWrongFalsely : Prop := fnExactLetterAtRow.holds Try.pinned (OpenSpec.ofChange fnExactLetterAtWrong)

/-- 'laws.FnExactUnrollOf': WHATEVER THE INPUT: true; the input reads as it did. -/
def fnExactUnrollOfSpec : ChangeSpec := { name := "fnExactUnrollOf", fn := fun _ => fun
  | [d1, d2] => { results := [.lit (.bool true)], args := [d1, d2] }
  | _ => none }
def fnExactUnrollOfRow : OpenClaim := { program := "ythamdefkcjfjpaa", sum := "33c204a507a014d62b97a334b567fdf1adef3aace174d41b05abc6c0f58717ba", func := "loop.example/g00649/laws.FnExactUnrollOf", spec := "fnExactUnrollOf", unfollowed := true, recurses := true, apart := false }
def FnExactUnrollOfSaid : Prop := fnExactUnrollOfRow.holds Try.pinned (OpenSpec.ofChange fnExactUnrollOfSpec)

/-- ITS FALSE NEIGHBOUR: 'it returns false'. Refute it at one input. -/
def fnExactUnrollOfWrong : ChangeSpec := { name := "fnExactUnrollOf", fn := fun _ => fun
  | [d1, d2] => { results := [.lit (.bool false)], args := [d1, d2] }
  | _ => none }
def FnExactUnrollOfWrongFalsely : Prop := fnExactUnrollOfRow.holds Try.pinned (OpenSpec.ofChange fnExactUnrollOfWrong)

/-- 'laws.FnExactSuffixOf': WHATEVER THE INPUT: true; the input reads as it did. -/
def fnExactSuffixOfSpec : ChangeSpec := { name := "fnExactSuffixOf", fn := fun _ => fun
  | [d1, d2] => { results := [.lit (.bool true)], args := [d1, d2] }
  | _ => none }
def fnExactSuffixOfRow : OpenClaim := { program := "ythamdefkcjfjpaa", sum := "33c204a507a014d62b97a334b567fdf1adef3aace174d41b05abc6c0f58717ba", func := "loop.example/g00649/laws.FnExactSuffixOf", spec := "fnExactSuffixOf", unfollowed := true, recurses := true, apart := false }
def FnExactSuffixOfSaid : Prop := fnExactSuffixOfRow.holds Try.pinned (OpenSpec.ofChange fnExactSuffixOfSpec)

/-- ITS FALSE NEIGHBOUR: 'it returns false'. Refute it at one input. -/
def fnExactSuffixOfWrong : ChangeSpec := { name := "fnExactSuffixOf", fn := fun _ => fun
  | [d1, d2] => { results := [.lit (.bool false)], args := [d1, d2] }
  | _ => none }
def FnExactSuffixOfWrongFalsely : Prop := fnExactSuffixOfRow.holds Try.pinned (OpenSpec.ofChange fnExactSuffixOfWrong)

/-- 'laws.FnExactSameWord': WHATEVER THE INPUT: true; the input reads as it did. -/
def fnExactSameWordSpec : ChangeSpec := { name := "fnExactSameWord", fn := fun _ => fun
  | [d1, d2] => { results := [.lit (.bool true)], args := [d1, d2] }
  | _ => none }
def fnExactSameWordRow : OpenClaim := { program := "ythamdefkcjfjpaa", sum := "33c204a507a014d62b97a334b567fdf1adef3aace174d41b05abc6c0f58717ba", func := "loop.example/g00649/laws.FnExactSameWord", spec := "fnExactSameWord", unfollowed := true, recurses := true, apart := false }
def FnExactSameWordSaid : Prop := fnExactSameWordRow.holds Try.pinned (OpenSpec.ofChange fnExactSameWordSpec)

/-- ITS FALSE NEIGHBOUR: 'it returns false'. Refute it at one input. -/
def fnExactSameWordWrong : ChangeSpec := { name := "fnExactSameWord", fn := fun _ => fun
  | [d1, d2] => { results := [.lit (.bool false)], args := [d1, d2] }
  | _ => none }
def FnExactSameWordWrongFalsely : Prop := fnExactSameWordRow.holds Try.pinned (OpenSpec.ofChange fnExactSameWordWrong)

/-- 'laws.FnExactLeastLasso': WHATEVER THE INPUT: true; the input reads as it did. -/
def fnExactLeastLassoSpec : ChangeSpec := { name := "fnExactLeastLasso", fn := fun _ => fun
  | [d] => { results := [.lit (.bool true)], args := [d] }
  | _ => none }
def fnExactLeastLassoRow : OpenClaim := { program := "ythamdefkcjfjpaa", sum := "33c204a507a014d62b97a334b567fdf1adef3aace174d41b05abc6c0f58717ba", func := "loop.example/g00649/laws.FnExactLeastLasso", spec := "fnExactLeastLasso", unfollowed := true, recurses := true, apart := false }
def FnExactLeastLassoSaid : Prop := fnExactLeastLassoRow.holds Try.pinned (OpenSpec.ofChange fnExactLeastLassoSpec)

/-- ITS FALSE NEIGHBOUR: 'it returns false'. Refute it at one input. -/
def fnExactLeastLassoWrong : ChangeSpec := { name := "fnExactLeastLasso", fn := fun _ => fun
  | [d] => { results := [.lit (.bool false)], args := [d] }
  | _ => none }
def FnExactLeastLassoWrongFalsely : Prop := fnExactLeastLassoRow.holds Try.pinned (OpenSpec.ofChange fnExactLeastLassoWrong)

/-- 'laws.FnExactTurnLoop': WHATEVER THE INPUT: true; the input reads as it did. -/
def fnExactTurnLoopSpec : ChangeSpec := { name := "fnExactTurnLoop", fn := fun _ => fun
  | [d] => { results := [.lit (.bool true)], args := [d] }
  | _ => none }
def fnExactTurnLoopRow : OpenClaim := { program := "ythamdefkcjfjpaa", sum := "33c204a507a014d62b97a334b567fdf1adef3aace174d41b05abc6c0f58717ba", func := "loop.example/g00649/laws.FnExactTurnLoop", spec := "fnExactTurnLoop", unfollowed := true, recurses := true, apart := false }
def FnExactTurnLoopSaid : Prop := fnExactTurnLoopRow.holds Try.pinned (OpenSpec.ofChange fnExactTurnLoopSpec)

/-- ITS FALSE NEIGHBOUR: 'it returns false'. Refute it at one input. -/
def fnExactTurnLoopWrong : ChangeSpec := { name := "fnExactTurnLoop", fn := fun _ => fun
  | [d] => { results := [.lit (.bool false)], args := [d] }
  | _ => none }
def FnExactTurnLoopWrongFalsely : Prop := fnExactTurnLoopRow.holds Try.pinned (OpenSpec.ofChange fnExactTurnLoopWrong)

/-- 'laws.FnExactStutterAt': WHATEVER THE INPUT: true; the input reads as it did. -/
def fnExactStutterAtSpec : ChangeSpec := { name := "fnExactStutterAt", fn := fun _ => fun
  | [d1, d2] => { results := [.lit (.bool true)], args := [d1, d2] }
  | _ => none }
def fnExactStutterAtRow : OpenClaim := { program := "ythamdefkcjfjpaa", sum := "33c204a507a014d62b97a334b567fdf1adef3aace174d41b05abc6c0f58717ba", func := "loop.example/g00649/laws.FnExactStutterAt", spec := "fnExactStutterAt", unfollowed := true, recurses := true, apart := false }
def FnExactStutterAtSaid : Prop := fnExactStutterAtRow.holds Try.pinned (OpenSpec.ofChange fnExactStutterAtSpec)

/-- ITS FALSE NEIGHBOUR: 'it returns false'. Refute it at one input. -/
def fnExactStutterAtWrong : ChangeSpec := { name := "fnExactStutterAt", fn := fun _ => fun
  | [d1, d2] => { results := [.lit (.bool false)], args := [d1, d2] }
  | _ => none }
def FnExactStutterAtWrongFalsely : Prop := fnExactStutterAtRow.holds Try.pinned (OpenSpec.ofChange fnExactStutterAtWrong)

/- THE SECOND FORM. 'bulk': how many values and letters a reading holds, each counted each time it is reached (what is shared counts as often as it is met; a slice's spare places count too). A statement '..UptoSaid' is the law's where the arguments, and the package variables that the reading takes, are together of bulk at most 1048576: NARROWER than '..Said'. Prove '..Said' where nothing that the law and all that it calls make is longer than what came in: it says more and counts as full. Else prove '..UptoSaid'. A law counts once. -/
mutual
def uptoBulk {H : Type} : DataW H → Nat
  | .lit (.string bytes) => bytes.length + 1
  | .lit _ => 1
  | .nil => 1
  | .ptr d => uptoBulk d + 1
  | .slice elems spare => uptoBulkAll elems + uptoBulkAll spare + 1
  | .agg parts => uptoBulkAll parts + 1
  | .iface _ d => uptoBulk d + 1
  | .map entries => uptoBulkEntries entries + 1
  | .held _ => 1
def uptoBulkAll {H : Type} : List (DataW H) → Nat
  | [] => 0
  | d :: r => uptoBulk d + uptoBulkAll r
def uptoBulkEntries {H : Type} : List (Lit × DataW H) → Nat
  | [] => 0
  | x :: r => uptoBulkEntry x + uptoBulkEntries r
def uptoBulkEntry {H : Type} : Lit × DataW H → Nat
  | (.string bytes, d) => bytes.length + uptoBulk d + 1
  | (_, d) => uptoBulk d + 1
 end
def uptoSmall : (H : Type) → List (DataW H) → Bool := fun _ ds => decide (uptoBulkAll ds ≤ 1048576)
def OpenSpec.upto (s : _root_.Go.ChangeSpec) : _root_.Go.OpenSpec := { _root_.Go.OpenSpec.ofChange s with cond := some uptoSmall }

/-- 'laws.FnLeast', WHERE WHAT IT READS IS OF BULK AT MOST 1048576: true; the input reads as it did. -/
def fnLeastUptoRow : OpenClaim := { program := "ythamdefkcjfjpaa", sum := "33c204a507a014d62b97a334b567fdf1adef3aace174d41b05abc6c0f58717ba", func := "loop.example/g00649/laws.FnLeast", spec := "fnLeast", unfollowed := true, recurses := true, apart := false, narrowed := true }
def FnLeastUptoSaid : Prop := fnLeastUptoRow.holds Try.pinned (OpenSpec.upto fnLeastSpec)

/-- 'laws.FnLetters', WHERE WHAT IT READS IS OF BULK AT MOST 1048576: true; the input reads as it did. -/
def fnLettersUptoRow : OpenClaim := { program := "ythamdefkcjfjpaa", sum := "33c204a507a014d62b97a334b567fdf1adef3aace174d41b05abc6c0f58717ba", func := "loop.example/g00649/laws.FnLetters", spec := "fnLetters", unfollowed := true, recurses := true, apart := false, narrowed := true }
def FnLettersUptoSaid : Prop := fnLettersUptoRow.holds Try.pinned (OpenSpec.upto fnLettersSpec)

/-- 'laws.FnExactGoodLasso', WHERE WHAT IT READS IS OF BULK AT MOST 1048576: true; the input reads as it did. -/
def fnExactGoodLassoUptoRow : OpenClaim := { program := "ythamdefkcjfjpaa", sum := "33c204a507a014d62b97a334b567fdf1adef3aace174d41b05abc6c0f58717ba", func := "loop.example/g00649/laws.FnExactGoodLasso", spec := "fnExactGoodLasso", unfollowed := true, recurses := true, apart := false, narrowed := true }
def FnExactGoodLassoUptoSaid : Prop := fnExactGoodLassoUptoRow.holds Try.pinned (OpenSpec.upto fnExactGoodLassoSpec)

/-- 'laws.FnExactLetterAt', WHERE WHAT IT READS IS OF BULK AT MOST 1048576: true; the input reads as it did. -/
def fnExactLetterAtUptoRow : OpenClaim := { program := "ythamdefkcjfjpaa", sum := "33c204a507a014d62b97a334b567fdf1adef3aace174d41b05abc6c0f58717ba", func := "loop.example/g00649/laws.FnExactLetterAt", spec := "fnExactLetterAt", unfollowed := true, recurses := true, apart := false, narrowed := true }
def FnExactLetterAtUptoSaid : Prop := fnExactLetterAtUptoRow.holds Try.pinned (OpenSpec.upto fnExactLetterAtSpec)

/-- 'laws.FnExactUnrollOf', WHERE WHAT IT READS IS OF BULK AT MOST 1048576: true; the input reads as it did. -/
def fnExactUnrollOfUptoRow : OpenClaim := { program := "ythamdefkcjfjpaa", sum := "33c204a507a014d62b97a334b567fdf1adef3aace174d41b05abc6c0f58717ba", func := "loop.example/g00649/laws.FnExactUnrollOf", spec := "fnExactUnrollOf", unfollowed := true, recurses := true, apart := false, narrowed := true }
def FnExactUnrollOfUptoSaid : Prop := fnExactUnrollOfUptoRow.holds Try.pinned (OpenSpec.upto fnExactUnrollOfSpec)

/-- 'laws.FnExactSuffixOf', WHERE WHAT IT READS IS OF BULK AT MOST 1048576: true; the input reads as it did. -/
def fnExactSuffixOfUptoRow : OpenClaim := { program := "ythamdefkcjfjpaa", sum := "33c204a507a014d62b97a334b567fdf1adef3aace174d41b05abc6c0f58717ba", func := "loop.example/g00649/laws.FnExactSuffixOf", spec := "fnExactSuffixOf", unfollowed := true, recurses := true, apart := false, narrowed := true }
def FnExactSuffixOfUptoSaid : Prop := fnExactSuffixOfUptoRow.holds Try.pinned (OpenSpec.upto fnExactSuffixOfSpec)

/-- 'laws.FnExactSameWord', WHERE WHAT IT READS IS OF BULK AT MOST 1048576: true; the input reads as it did. -/
def fnExactSameWordUptoRow : OpenClaim := { program := "ythamdefkcjfjpaa", sum := "33c204a507a014d62b97a334b567fdf1adef3aace174d41b05abc6c0f58717ba", func := "loop.example/g00649/laws.FnExactSameWord", spec := "fnExactSameWord", unfollowed := true, recurses := true, apart := false, narrowed := true }
def FnExactSameWordUptoSaid : Prop := fnExactSameWordUptoRow.holds Try.pinned (OpenSpec.upto fnExactSameWordSpec)

/-- 'laws.FnExactLeastLasso', WHERE WHAT IT READS IS OF BULK AT MOST 1048576: true; the input reads as it did. -/
def fnExactLeastLassoUptoRow : OpenClaim := { program := "ythamdefkcjfjpaa", sum := "33c204a507a014d62b97a334b567fdf1adef3aace174d41b05abc6c0f58717ba", func := "loop.example/g00649/laws.FnExactLeastLasso", spec := "fnExactLeastLasso", unfollowed := true, recurses := true, apart := false, narrowed := true }
def FnExactLeastLassoUptoSaid : Prop := fnExactLeastLassoUptoRow.holds Try.pinned (OpenSpec.upto fnExactLeastLassoSpec)

/-- 'laws.FnExactTurnLoop', WHERE WHAT IT READS IS OF BULK AT MOST 1048576: true; the input reads as it did. -/
def fnExactTurnLoopUptoRow : OpenClaim := { program := "ythamdefkcjfjpaa", sum := "33c204a507a014d62b97a334b567fdf1adef3aace174d41b05abc6c0f58717ba", func := "loop.example/g00649/laws.FnExactTurnLoop", spec := "fnExactTurnLoop", unfollowed := true, recurses := true, apart := false, narrowed := true }
def FnExactTurnLoopUptoSaid : Prop := fnExactTurnLoopUptoRow.holds Try.pinned (OpenSpec.upto fnExactTurnLoopSpec)

/-- 'laws.FnExactStutterAt', WHERE WHAT IT READS IS OF BULK AT MOST 1048576: true; the input reads as it did. -/
def fnExactStutterAtUptoRow : OpenClaim := { program := "ythamdefkcjfjpaa", sum := "33c204a507a014d62b97a334b567fdf1adef3aace174d41b05abc6c0f58717ba", func := "loop.example/g00649/laws.FnExactStutterAt", spec := "fnExactStutterAt", unfollowed := true, recurses := true, apart := false, narrowed := true }
def FnExactStutterAtUptoSaid : Prop := fnExactStutterAtUptoRow.holds Try.pinned (OpenSpec.upto fnExactStutterAtSpec)

end Rows
end Go.Proofs.Ythamdefkcjfjpaa
