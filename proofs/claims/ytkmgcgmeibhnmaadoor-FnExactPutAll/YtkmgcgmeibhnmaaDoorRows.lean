/-
  NARROWER THAN 'FOR EVERY INPUT', by the rows' own cells (each row's printed sentence says how): FnPutFor: laid · FnFolded: laid · FnJoined: laid · FnExactGoodTerm: laid · FnExactKindOf: laid · FnExactValueOf: laid · FnExactVarsIn: laid · FnExactJoinTerms: laid · FnExactTurnTerm: laid · FnExactPutAll: laid · FnExactFoldTerm: laid.
  DERIVED. THE GIVEN ROWS OF THIS SEAT. 11 by the template 'for every input the law returns true; each argument reads behind the call as it read before'; 0 by the template 'total and deterministic' (their statements: YtkmgcgmeibhnmaaDoorTotals.lean).
  GIVEN WITH THE SEED: the statements are not yours to turn. If you find one false, say at which input.
  Laid BY PROGRAM, IN A SANDBOX (cutbox-rows.mjs): the forced cells as the released guide's own fill.sh prints them over the translation a97cbc250ff116dc… (all of the seat's roots in one cut). By AI agents, Wed Nov 11 2026. No macro, syntax, notation, axiom, sorry.
-/
import Derived.Test.YtkmgcgmeibhnmaaDoorChecked
import GoSem.Claim
import GoSem.ClaimJoined
import GoSem.ClaimMapViews
import Derived.JoinedTies
import Derived.KernelRfl
namespace Go.Proofs.YtkmgcgmeibhnmaaDoor
/- THE CELL 'sum', in the pinned program and in every row, IS THE sha256 OF THE DUMP (.gsa) THAT YtkmgcgmeibhnmaaDoorProg.lean LOADS. Nothing in Lean hashes anything: it is a label: what it is worth is what the hold of that sum in a sandbox is worth. -/
noncomputable def Tryd.pinned : Pinned := { name := "ytkmgcgmeibhnmaadoor", sum := "a97cbc250ff116dc5cbd36abce72e87a67726d61f26abd9d97a52238baa93601", checked := Tryd.checked }
namespace Rows
def none {H : Type} : Left H := { results := [], args := [] }

/- WHAT THE LISTED PACKAGE-LEVEL VARIABLES READ AS WHEN THE CALL BEGINS. Each datum BY PROGRAM (the guide's laid-datum.mjs) off the statement by which the dump's own 'gosem.cut.vars' lays the variable. In a bare row this is a premise. The card (YtkmgcgmeibhnmaaDoorCards.lean) ties it to the program's text. -/
def laid_loop_example_g00649_impl_wordMasks {H : Type} : DataW H := .agg [.lit (.int .u64 0), .lit (.int .u64 1), .lit (.int .u64 3), .lit (.int .u64 7), .lit (.int .u64 15), .lit (.int .u64 31), .lit (.int .u64 63), .lit (.int .u64 127), .lit (.int .u64 255), .lit (.int .u64 511), .lit (.int .u64 1023), .lit (.int .u64 2047), .lit (.int .u64 4095), .lit (.int .u64 8191), .lit (.int .u64 16383), .lit (.int .u64 32767), .lit (.int .u64 65535), .lit (.int .u64 131071), .lit (.int .u64 262143), .lit (.int .u64 524287), .lit (.int .u64 1048575), .lit (.int .u64 2097151), .lit (.int .u64 4194303), .lit (.int .u64 8388607), .lit (.int .u64 16777215), .lit (.int .u64 33554431), .lit (.int .u64 67108863), .lit (.int .u64 134217727), .lit (.int .u64 268435455), .lit (.int .u64 536870911), .lit (.int .u64 1073741823), .lit (.int .u64 2147483647), .lit (.int .u64 4294967295), .lit (.int .u64 8589934591), .lit (.int .u64 17179869183), .lit (.int .u64 34359738367), .lit (.int .u64 68719476735), .lit (.int .u64 137438953471), .lit (.int .u64 274877906943), .lit (.int .u64 549755813887), .lit (.int .u64 1099511627775), .lit (.int .u64 2199023255551), .lit (.int .u64 4398046511103), .lit (.int .u64 8796093022207), .lit (.int .u64 17592186044415), .lit (.int .u64 35184372088831), .lit (.int .u64 70368744177663), .lit (.int .u64 140737488355327), .lit (.int .u64 281474976710655), .lit (.int .u64 562949953421311), .lit (.int .u64 1125899906842623), .lit (.int .u64 2251799813685247), .lit (.int .u64 4503599627370495), .lit (.int .u64 9007199254740991), .lit (.int .u64 18014398509481983), .lit (.int .u64 36028797018963967), .lit (.int .u64 72057594037927935), .lit (.int .u64 144115188075855871), .lit (.int .u64 288230376151711743), .lit (.int .u64 576460752303423487), .lit (.int .u64 1152921504606846975), .lit (.int .u64 2305843009213693951), .lit (.int .u64 4611686018427387903), .lit (.int .u64 9223372036854775807), .lit (.int .u64 18446744073709551615)]

/-- 'laws.FnPutFor': WHATEVER THE INPUT: true; the input reads as it did. -/
def fnPutForSpec : ChangeSpec := { name := "fnPutFor", vars := ["loop.example/g00649/impl.wordMasks"], fn := fun _ => fun
  | [d1, d2, g1] => { results := [.lit (.bool true)], args := [d1, d2], vars := [g1] }
  | _ => none }
def fnPutForRow : OpenClaim := { program := "ytkmgcgmeibhnmaadoor", sum := "a97cbc250ff116dc5cbd36abce72e87a67726d61f26abd9d97a52238baa93601", func := "loop.example/g00649/laws.FnPutFor", spec := "fnPutFor", recurses := true, named := ["loop.example/g00649/impl.wordMasks"], apart := false, laid := [("loop.example/g00649/impl.wordMasks", laid_loop_example_g00649_impl_wordMasks)] }
def FnPutForSaid : Prop := fnPutForRow.holds Tryd.pinned (OpenSpec.ofChange fnPutForSpec)

/-- ITS FALSE NEIGHBOUR: 'it returns false'. Refute it at one input. -/
def fnPutForWrong : ChangeSpec := { name := "fnPutFor", vars := ["loop.example/g00649/impl.wordMasks"], fn := fun _ => fun
  | [d1, d2, g1] => { results := [.lit (.bool false)], args := [d1, d2], vars := [g1] }
  | _ => none }
def FnPutForWrongFalsely : Prop := fnPutForRow.holds Tryd.pinned (OpenSpec.ofChange fnPutForWrong)

/-- 'laws.FnFolded': WHATEVER THE INPUT: true; the input reads as it did. -/
def fnFoldedSpec : ChangeSpec := { name := "fnFolded", vars := ["loop.example/g00649/impl.wordMasks"], fn := fun _ => fun
  | [d1, d2, g1] => { results := [.lit (.bool true)], args := [d1, d2], vars := [g1] }
  | _ => none }
def fnFoldedRow : OpenClaim := { program := "ytkmgcgmeibhnmaadoor", sum := "a97cbc250ff116dc5cbd36abce72e87a67726d61f26abd9d97a52238baa93601", func := "loop.example/g00649/laws.FnFolded", spec := "fnFolded", recurses := true, named := ["loop.example/g00649/impl.wordMasks"], apart := false, laid := [("loop.example/g00649/impl.wordMasks", laid_loop_example_g00649_impl_wordMasks)] }
def FnFoldedSaid : Prop := fnFoldedRow.holds Tryd.pinned (OpenSpec.ofChange fnFoldedSpec)

/-- ITS FALSE NEIGHBOUR: 'it returns false'. Refute it at one input. -/
def fnFoldedWrong : ChangeSpec := { name := "fnFolded", vars := ["loop.example/g00649/impl.wordMasks"], fn := fun _ => fun
  | [d1, d2, g1] => { results := [.lit (.bool false)], args := [d1, d2], vars := [g1] }
  | _ => none }
def FnFoldedWrongFalsely : Prop := fnFoldedRow.holds Tryd.pinned (OpenSpec.ofChange fnFoldedWrong)

/-- 'laws.FnJoined': WHATEVER THE INPUT: true; the input reads as it did. -/
def fnJoinedSpec : ChangeSpec := { name := "fnJoined", vars := ["loop.example/g00649/impl.wordMasks"], fn := fun _ => fun
  | [d1, d2, g1] => { results := [.lit (.bool true)], args := [d1, d2], vars := [g1] }
  | _ => none }
def fnJoinedRow : OpenClaim := { program := "ytkmgcgmeibhnmaadoor", sum := "a97cbc250ff116dc5cbd36abce72e87a67726d61f26abd9d97a52238baa93601", func := "loop.example/g00649/laws.FnJoined", spec := "fnJoined", recurses := true, named := ["loop.example/g00649/impl.wordMasks"], apart := false, laid := [("loop.example/g00649/impl.wordMasks", laid_loop_example_g00649_impl_wordMasks)] }
def FnJoinedSaid : Prop := fnJoinedRow.holds Tryd.pinned (OpenSpec.ofChange fnJoinedSpec)

/-- ITS FALSE NEIGHBOUR: 'it returns false'. Refute it at one input. -/
def fnJoinedWrong : ChangeSpec := { name := "fnJoined", vars := ["loop.example/g00649/impl.wordMasks"], fn := fun _ => fun
  | [d1, d2, g1] => { results := [.lit (.bool false)], args := [d1, d2], vars := [g1] }
  | _ => none }
def FnJoinedWrongFalsely : Prop := fnJoinedRow.holds Tryd.pinned (OpenSpec.ofChange fnJoinedWrong)

/-- 'laws.FnExactGoodTerm': WHATEVER THE INPUT: true; the input reads as it did. -/
def fnExactGoodTermSpec : ChangeSpec := { name := "fnExactGoodTerm", vars := ["loop.example/g00649/impl.wordMasks"], fn := fun _ => fun
  | [d1, d2, d3, g1] => { results := [.lit (.bool true)], args := [d1, d2, d3], vars := [g1] }
  | _ => none }
def fnExactGoodTermRow : OpenClaim := { program := "ytkmgcgmeibhnmaadoor", sum := "a97cbc250ff116dc5cbd36abce72e87a67726d61f26abd9d97a52238baa93601", func := "loop.example/g00649/laws.FnExactGoodTerm", spec := "fnExactGoodTerm", named := ["loop.example/g00649/impl.wordMasks"], apart := false, laid := [("loop.example/g00649/impl.wordMasks", laid_loop_example_g00649_impl_wordMasks)] }
def FnExactGoodTermSaid : Prop := fnExactGoodTermRow.holds Tryd.pinned (OpenSpec.ofChange fnExactGoodTermSpec)

/-- ITS FALSE NEIGHBOUR: 'it returns false'. Refute it at one input. -/
def fnExactGoodTermWrong : ChangeSpec := { name := "fnExactGoodTerm", vars := ["loop.example/g00649/impl.wordMasks"], fn := fun _ => fun
  | [d1, d2, d3, g1] => { results := [.lit (.bool false)], args := [d1, d2, d3], vars := [g1] }
  | _ => none }
def FnExactGoodTermWrongFalsely : Prop := fnExactGoodTermRow.holds Tryd.pinned (OpenSpec.ofChange fnExactGoodTermWrong)

/-- 'laws.FnExactKindOf': WHATEVER THE INPUT: true; the input reads as it did. -/
def fnExactKindOfSpec : ChangeSpec := { name := "fnExactKindOf", vars := ["loop.example/g00649/impl.wordMasks"], fn := fun _ => fun
  | [d1, d2, d3, g1] => { results := [.lit (.bool true)], args := [d1, d2, d3], vars := [g1] }
  | _ => none }
def fnExactKindOfRow : OpenClaim := { program := "ytkmgcgmeibhnmaadoor", sum := "a97cbc250ff116dc5cbd36abce72e87a67726d61f26abd9d97a52238baa93601", func := "loop.example/g00649/laws.FnExactKindOf", spec := "fnExactKindOf", named := ["loop.example/g00649/impl.wordMasks"], apart := false, laid := [("loop.example/g00649/impl.wordMasks", laid_loop_example_g00649_impl_wordMasks)] }
def FnExactKindOfSaid : Prop := fnExactKindOfRow.holds Tryd.pinned (OpenSpec.ofChange fnExactKindOfSpec)

/-- ITS FALSE NEIGHBOUR: 'it returns false'. Refute it at one input. -/
def fnExactKindOfWrong : ChangeSpec := { name := "fnExactKindOf", vars := ["loop.example/g00649/impl.wordMasks"], fn := fun _ => fun
  | [d1, d2, d3, g1] => { results := [.lit (.bool false)], args := [d1, d2, d3], vars := [g1] }
  | _ => none }
def FnExactKindOfWrongFalsely : Prop := fnExactKindOfRow.holds Tryd.pinned (OpenSpec.ofChange fnExactKindOfWrong)

/-- 'laws.FnExactValueOf': WHATEVER THE INPUT: true; the input reads as it did. -/
def fnExactValueOfSpec : ChangeSpec := { name := "fnExactValueOf", vars := ["loop.example/g00649/impl.wordMasks"], fn := fun _ => fun
  | [d1, d2, d3, g1] => { results := [.lit (.bool true)], args := [d1, d2, d3], vars := [g1] }
  | _ => none }
def fnExactValueOfRow : OpenClaim := { program := "ytkmgcgmeibhnmaadoor", sum := "a97cbc250ff116dc5cbd36abce72e87a67726d61f26abd9d97a52238baa93601", func := "loop.example/g00649/laws.FnExactValueOf", spec := "fnExactValueOf", recurses := true, named := ["loop.example/g00649/impl.wordMasks"], apart := false, laid := [("loop.example/g00649/impl.wordMasks", laid_loop_example_g00649_impl_wordMasks)] }
def FnExactValueOfSaid : Prop := fnExactValueOfRow.holds Tryd.pinned (OpenSpec.ofChange fnExactValueOfSpec)

/-- ITS FALSE NEIGHBOUR: 'it returns false'. Refute it at one input. -/
def fnExactValueOfWrong : ChangeSpec := { name := "fnExactValueOf", vars := ["loop.example/g00649/impl.wordMasks"], fn := fun _ => fun
  | [d1, d2, d3, g1] => { results := [.lit (.bool false)], args := [d1, d2, d3], vars := [g1] }
  | _ => none }
def FnExactValueOfWrongFalsely : Prop := fnExactValueOfRow.holds Tryd.pinned (OpenSpec.ofChange fnExactValueOfWrong)

/-- 'laws.FnExactVarsIn': WHATEVER THE INPUT: true; the input reads as it did. -/
def fnExactVarsInSpec : ChangeSpec := { name := "fnExactVarsIn", vars := ["loop.example/g00649/impl.wordMasks"], fn := fun _ => fun
  | [d1, d2, d3, g1] => { results := [.lit (.bool true)], args := [d1, d2, d3], vars := [g1] }
  | _ => none }
def fnExactVarsInRow : OpenClaim := { program := "ytkmgcgmeibhnmaadoor", sum := "a97cbc250ff116dc5cbd36abce72e87a67726d61f26abd9d97a52238baa93601", func := "loop.example/g00649/laws.FnExactVarsIn", spec := "fnExactVarsIn", recurses := true, named := ["loop.example/g00649/impl.wordMasks"], apart := false, laid := [("loop.example/g00649/impl.wordMasks", laid_loop_example_g00649_impl_wordMasks)] }
def FnExactVarsInSaid : Prop := fnExactVarsInRow.holds Tryd.pinned (OpenSpec.ofChange fnExactVarsInSpec)

/-- ITS FALSE NEIGHBOUR: 'it returns false'. Refute it at one input. -/
def fnExactVarsInWrong : ChangeSpec := { name := "fnExactVarsIn", vars := ["loop.example/g00649/impl.wordMasks"], fn := fun _ => fun
  | [d1, d2, d3, g1] => { results := [.lit (.bool false)], args := [d1, d2, d3], vars := [g1] }
  | _ => none }
def FnExactVarsInWrongFalsely : Prop := fnExactVarsInRow.holds Tryd.pinned (OpenSpec.ofChange fnExactVarsInWrong)

/-- 'laws.FnExactJoinTerms': WHATEVER THE INPUT: true; the input reads as it did. -/
def fnExactJoinTermsSpec : ChangeSpec := { name := "fnExactJoinTerms", vars := ["loop.example/g00649/impl.wordMasks"], fn := fun _ => fun
  | [d1, d2, d3, d4, d5, g1] => { results := [.lit (.bool true)], args := [d1, d2, d3, d4, d5], vars := [g1] }
  | _ => none }
def fnExactJoinTermsRow : OpenClaim := { program := "ytkmgcgmeibhnmaadoor", sum := "a97cbc250ff116dc5cbd36abce72e87a67726d61f26abd9d97a52238baa93601", func := "loop.example/g00649/laws.FnExactJoinTerms", spec := "fnExactJoinTerms", recurses := true, named := ["loop.example/g00649/impl.wordMasks"], apart := false, laid := [("loop.example/g00649/impl.wordMasks", laid_loop_example_g00649_impl_wordMasks)] }
def FnExactJoinTermsSaid : Prop := fnExactJoinTermsRow.holds Tryd.pinned (OpenSpec.ofChange fnExactJoinTermsSpec)

/-- ITS FALSE NEIGHBOUR: 'it returns false'. Refute it at one input. -/
def fnExactJoinTermsWrong : ChangeSpec := { name := "fnExactJoinTerms", vars := ["loop.example/g00649/impl.wordMasks"], fn := fun _ => fun
  | [d1, d2, d3, d4, d5, g1] => { results := [.lit (.bool false)], args := [d1, d2, d3, d4, d5], vars := [g1] }
  | _ => none }
def FnExactJoinTermsWrongFalsely : Prop := fnExactJoinTermsRow.holds Tryd.pinned (OpenSpec.ofChange fnExactJoinTermsWrong)

/-- 'laws.FnExactTurnTerm': WHATEVER THE INPUT: true; the input reads as it did. -/
def fnExactTurnTermSpec : ChangeSpec := { name := "fnExactTurnTerm", vars := ["loop.example/g00649/impl.wordMasks"], fn := fun _ => fun
  | [d1, d2, d3, d4, g1] => { results := [.lit (.bool true)], args := [d1, d2, d3, d4], vars := [g1] }
  | _ => none }
def fnExactTurnTermRow : OpenClaim := { program := "ytkmgcgmeibhnmaadoor", sum := "a97cbc250ff116dc5cbd36abce72e87a67726d61f26abd9d97a52238baa93601", func := "loop.example/g00649/laws.FnExactTurnTerm", spec := "fnExactTurnTerm", recurses := true, named := ["loop.example/g00649/impl.wordMasks"], apart := false, laid := [("loop.example/g00649/impl.wordMasks", laid_loop_example_g00649_impl_wordMasks)] }
def FnExactTurnTermSaid : Prop := fnExactTurnTermRow.holds Tryd.pinned (OpenSpec.ofChange fnExactTurnTermSpec)

/-- ITS FALSE NEIGHBOUR: 'it returns false'. Refute it at one input. -/
def fnExactTurnTermWrong : ChangeSpec := { name := "fnExactTurnTerm", vars := ["loop.example/g00649/impl.wordMasks"], fn := fun _ => fun
  | [d1, d2, d3, d4, g1] => { results := [.lit (.bool false)], args := [d1, d2, d3, d4], vars := [g1] }
  | _ => none }
def FnExactTurnTermWrongFalsely : Prop := fnExactTurnTermRow.holds Tryd.pinned (OpenSpec.ofChange fnExactTurnTermWrong)

/-- 'laws.FnExactPutAll': WHATEVER THE INPUT: true; the input reads as it did. -/
def fnExactPutAllSpec : ChangeSpec := { name := "fnExactPutAll", vars := ["loop.example/g00649/impl.wordMasks"], fn := fun _ => fun
  | [d1, d2, d3, d4, g1] => { results := [.lit (.bool true)], args := [d1, d2, d3, d4], vars := [g1] }
  | _ => none }
def fnExactPutAllRow : OpenClaim := { program := "ytkmgcgmeibhnmaadoor", sum := "a97cbc250ff116dc5cbd36abce72e87a67726d61f26abd9d97a52238baa93601", func := "loop.example/g00649/laws.FnExactPutAll", spec := "fnExactPutAll", recurses := true, named := ["loop.example/g00649/impl.wordMasks"], apart := false, laid := [("loop.example/g00649/impl.wordMasks", laid_loop_example_g00649_impl_wordMasks)] }
def FnExactPutAllSaid : Prop := fnExactPutAllRow.holds Tryd.pinned (OpenSpec.ofChange fnExactPutAllSpec)

/-- ITS FALSE NEIGHBOUR: 'it returns false'. Refute it at one input. -/
def fnExactPutAllWrong : ChangeSpec := { name := "fnExactPutAll", vars := ["loop.example/g00649/impl.wordMasks"], fn := fun _ => fun
  | [d1, d2, d3, d4, g1] => { results := [.lit (.bool false)], args := [d1, d2, d3, d4], vars := [g1] }
  | _ => none }
def FnExactPutAllWrongFalsely : Prop := fnExactPutAllRow.holds Tryd.pinned (OpenSpec.ofChange fnExactPutAllWrong)

/-- 'laws.FnExactFoldTerm': WHATEVER THE INPUT: true; the input reads as it did. -/
def fnExactFoldTermSpec : ChangeSpec := { name := "fnExactFoldTerm", vars := ["loop.example/g00649/impl.wordMasks"], fn := fun _ => fun
  | [d1, d2, d3, g1] => { results := [.lit (.bool true)], args := [d1, d2, d3], vars := [g1] }
  | _ => none }
def fnExactFoldTermRow : OpenClaim := { program := "ytkmgcgmeibhnmaadoor", sum := "a97cbc250ff116dc5cbd36abce72e87a67726d61f26abd9d97a52238baa93601", func := "loop.example/g00649/laws.FnExactFoldTerm", spec := "fnExactFoldTerm", recurses := true, named := ["loop.example/g00649/impl.wordMasks"], apart := false, laid := [("loop.example/g00649/impl.wordMasks", laid_loop_example_g00649_impl_wordMasks)] }
def FnExactFoldTermSaid : Prop := fnExactFoldTermRow.holds Tryd.pinned (OpenSpec.ofChange fnExactFoldTermSpec)

/-- ITS FALSE NEIGHBOUR: 'it returns false'. Refute it at one input. -/
def fnExactFoldTermWrong : ChangeSpec := { name := "fnExactFoldTerm", vars := ["loop.example/g00649/impl.wordMasks"], fn := fun _ => fun
  | [d1, d2, d3, g1] => { results := [.lit (.bool false)], args := [d1, d2, d3], vars := [g1] }
  | _ => none }
def FnExactFoldTermWrongFalsely : Prop := fnExactFoldTermRow.holds Tryd.pinned (OpenSpec.ofChange fnExactFoldTermWrong)

/- THE SECOND FORM. 'bulk': how many values and letters a reading holds, each counted each time it is reached (what is shared counts as often as it is met; a slice's spare places count too). A statement '..UptoSaid' is the law's where the arguments, and the package variables that the reading takes, are together of bulk at most 1048576: NARROWER than '..Said'. Prove '..Said' where nothing that the law and all that it calls make is longer than what came in: it says more and counts as full. Else prove '..UptoSaid'. A law counts once. -/
mutual
def uptoBulk {H : Type} : DataW H → Nat
  | .lit (.string bytes) => bytes.length + 1
  | .lit _ => 1
  | .nil => 1
  | .ptr d => uptoBulk d + 1
  | .slice elems spare => uptoBulkAll elems + uptoBulkAll spare + 1
  | .agg parts => uptoBulkAll parts + 1
  | .iface _ d => uptoBulk d + 1
  | .map entries => uptoBulkEntries entries + 1
  | .held _ => 1
def uptoBulkAll {H : Type} : List (DataW H) → Nat
  | [] => 0
  | d :: r => uptoBulk d + uptoBulkAll r
def uptoBulkEntries {H : Type} : List (Lit × DataW H) → Nat
  | [] => 0
  | x :: r => uptoBulkEntry x + uptoBulkEntries r
def uptoBulkEntry {H : Type} : Lit × DataW H → Nat
  | (.string bytes, d) => bytes.length + uptoBulk d + 1
  | (_, d) => uptoBulk d + 1
 end
def uptoSmall : (H : Type) → List (DataW H) → Bool := fun _ ds => decide (uptoBulkAll ds ≤ 1048576)
def OpenSpec.upto (s : _root_.Go.ChangeSpec) : _root_.Go.OpenSpec := { _root_.Go.OpenSpec.ofChange s with cond := some uptoSmall }

/-- 'laws.FnPutFor', WHERE WHAT IT READS IS OF BULK AT MOST 1048576: true; the input reads as it did. -/
def fnPutForUptoRow : OpenClaim := { program := "ytkmgcgmeibhnmaadoor", sum := "a97cbc250ff116dc5cbd36abce72e87a67726d61f26abd9d97a52238baa93601", func := "loop.example/g00649/laws.FnPutFor", spec := "fnPutFor", recurses := true, named := ["loop.example/g00649/impl.wordMasks"], apart := false, laid := [("loop.example/g00649/impl.wordMasks", laid_loop_example_g00649_impl_wordMasks)], narrowed := true }
def FnPutForUptoSaid : Prop := fnPutForUptoRow.holds Tryd.pinned (OpenSpec.upto fnPutForSpec)

/-- 'laws.FnFolded', WHERE WHAT IT READS IS OF BULK AT MOST 1048576: true; the input reads as it did. -/
def fnFoldedUptoRow : OpenClaim := { program := "ytkmgcgmeibhnmaadoor", sum := "a97cbc250ff116dc5cbd36abce72e87a67726d61f26abd9d97a52238baa93601", func := "loop.example/g00649/laws.FnFolded", spec := "fnFolded", recurses := true, named := ["loop.example/g00649/impl.wordMasks"], apart := false, laid := [("loop.example/g00649/impl.wordMasks", laid_loop_example_g00649_impl_wordMasks)], narrowed := true }
def FnFoldedUptoSaid : Prop := fnFoldedUptoRow.holds Tryd.pinned (OpenSpec.upto fnFoldedSpec)

/-- 'laws.FnJoined', WHERE WHAT IT READS IS OF BULK AT MOST 1048576: true; the input reads as it did. -/
def fnJoinedUptoRow : OpenClaim := { program := "ytkmgcgmeibhnmaadoor", sum := "a97cbc250ff116dc5cbd36abce72e87a67726d61f26abd9d97a52238baa93601", func := "loop.example/g00649/laws.FnJoined", spec := "fnJoined", recurses := true, named := ["loop.example/g00649/impl.wordMasks"], apart := false, laid := [("loop.example/g00649/impl.wordMasks", laid_loop_example_g00649_impl_wordMasks)], narrowed := true }
def FnJoinedUptoSaid : Prop := fnJoinedUptoRow.holds Tryd.pinned (OpenSpec.upto fnJoinedSpec)

/-- 'laws.FnExactGoodTerm', WHERE WHAT IT READS IS OF BULK AT MOST 1048576: true; the input reads as it did. -/
def fnExactGoodTermUptoRow : OpenClaim := { program := "ytkmgcgmeibhnmaadoor", sum := "a97cbc250ff116dc5cbd36abce72e87a67726d61f26abd9d97a52238baa93601", func := "loop.example/g00649/laws.FnExactGoodTerm", spec := "fnExactGoodTerm", named := ["loop.example/g00649/impl.wordMasks"], apart := false, laid := [("loop.example/g00649/impl.wordMasks", laid_loop_example_g00649_impl_wordMasks)], narrowed := true }
def FnExactGoodTermUptoSaid : Prop := fnExactGoodTermUptoRow.holds Tryd.pinned (OpenSpec.upto fnExactGoodTermSpec)

/-- 'laws.FnExactKindOf', WHERE WHAT IT READS IS OF BULK AT MOST 1048576: true; the input reads as it did. -/
def fnExactKindOfUptoRow : OpenClaim := { program := "ytkmgcgmeibhnmaadoor", sum := "a97cbc250ff116dc5cbd36abce72e87a67726d61f26abd9d97a52238baa93601", func := "loop.example/g00649/laws.FnExactKindOf", spec := "fnExactKindOf", named := ["loop.example/g00649/impl.wordMasks"], apart := false, laid := [("loop.example/g00649/impl.wordMasks", laid_loop_example_g00649_impl_wordMasks)], narrowed := true }
def FnExactKindOfUptoSaid : Prop := fnExactKindOfUptoRow.holds Tryd.pinned (OpenSpec.upto fnExactKindOfSpec)

/-- 'laws.FnExactValueOf', WHERE WHAT IT READS IS OF BULK AT MOST 1048576: true; the input reads as it did. -/
def fnExactValueOfUptoRow : OpenClaim := { program := "ytkmgcgmeibhnmaadoor", sum := "a97cbc250ff116dc5cbd36abce72e87a67726d61f26abd9d97a52238baa93601", func := "loop.example/g00649/laws.FnExactValueOf", spec := "fnExactValueOf", recurses := true, named := ["loop.example/g00649/impl.wordMasks"], apart := false, laid := [("loop.example/g00649/impl.wordMasks", laid_loop_example_g00649_impl_wordMasks)], narrowed := true }
def FnExactValueOfUptoSaid : Prop := fnExactValueOfUptoRow.holds Tryd.pinned (OpenSpec.upto fnExactValueOfSpec)

/-- 'laws.FnExactVarsIn', WHERE WHAT IT READS IS OF BULK AT MOST 1048576: true; the input reads as it did. -/
def fnExactVarsInUptoRow : OpenClaim := { program := "ytkmgcgmeibhnmaadoor", sum := "a97cbc250ff116dc5cbd36abce72e87a67726d61f26abd9d97a52238baa93601", func := "loop.example/g00649/laws.FnExactVarsIn", spec := "fnExactVarsIn", recurses := true, named := ["loop.example/g00649/impl.wordMasks"], apart := false, laid := [("loop.example/g00649/impl.wordMasks", laid_loop_example_g00649_impl_wordMasks)], narrowed := true }
def FnExactVarsInUptoSaid : Prop := fnExactVarsInUptoRow.holds Tryd.pinned (OpenSpec.upto fnExactVarsInSpec)

/-- 'laws.FnExactJoinTerms', WHERE WHAT IT READS IS OF BULK AT MOST 1048576: true; the input reads as it did. -/
def fnExactJoinTermsUptoRow : OpenClaim := { program := "ytkmgcgmeibhnmaadoor", sum := "a97cbc250ff116dc5cbd36abce72e87a67726d61f26abd9d97a52238baa93601", func := "loop.example/g00649/laws.FnExactJoinTerms", spec := "fnExactJoinTerms", recurses := true, named := ["loop.example/g00649/impl.wordMasks"], apart := false, laid := [("loop.example/g00649/impl.wordMasks", laid_loop_example_g00649_impl_wordMasks)], narrowed := true }
def FnExactJoinTermsUptoSaid : Prop := fnExactJoinTermsUptoRow.holds Tryd.pinned (OpenSpec.upto fnExactJoinTermsSpec)

/-- 'laws.FnExactTurnTerm', WHERE WHAT IT READS IS OF BULK AT MOST 1048576: true; the input reads as it did. -/
def fnExactTurnTermUptoRow : OpenClaim := { program := "ytkmgcgmeibhnmaadoor", sum := "a97cbc250ff116dc5cbd36abce72e87a67726d61f26abd9d97a52238baa93601", func := "loop.example/g00649/laws.FnExactTurnTerm", spec := "fnExactTurnTerm", recurses := true, named := ["loop.example/g00649/impl.wordMasks"], apart := false, laid := [("loop.example/g00649/impl.wordMasks", laid_loop_example_g00649_impl_wordMasks)], narrowed := true }
def FnExactTurnTermUptoSaid : Prop := fnExactTurnTermUptoRow.holds Tryd.pinned (OpenSpec.upto fnExactTurnTermSpec)

/-- 'laws.FnExactPutAll', WHERE WHAT IT READS IS OF BULK AT MOST 1048576: true; the input reads as it did. -/
def fnExactPutAllUptoRow : OpenClaim := { program := "ytkmgcgmeibhnmaadoor", sum := "a97cbc250ff116dc5cbd36abce72e87a67726d61f26abd9d97a52238baa93601", func := "loop.example/g00649/laws.FnExactPutAll", spec := "fnExactPutAll", recurses := true, named := ["loop.example/g00649/impl.wordMasks"], apart := false, laid := [("loop.example/g00649/impl.wordMasks", laid_loop_example_g00649_impl_wordMasks)], narrowed := true }
def FnExactPutAllUptoSaid : Prop := fnExactPutAllUptoRow.holds Tryd.pinned (OpenSpec.upto fnExactPutAllSpec)

/-- 'laws.FnExactFoldTerm', WHERE WHAT IT READS IS OF BULK AT MOST 1048576: true; the input reads as it did. -/
def fnExactFoldTermUptoRow : OpenClaim := { program := "ytkmgcgmeibhnmaadoor", sum := "a97cbc250ff116dc5cbd36abce72e87a67726d61f26abd9d97a52238baa93601", func := "loop.example/g00649/laws.FnExactFoldTerm", spec := "fnExactFoldTerm", recurses := true, named := ["loop.example/g00649/impl.wordMasks"], apart := false, laid := [("loop.example/g00649/impl.wordMasks", laid_loop_example_g00649_impl_wordMasks)], narrowed := true }
def FnExactFoldTermUptoSaid : Prop := fnExactFoldTermUptoRow.holds Tryd.pinned (OpenSpec.upto fnExactFoldTermSpec)

end Rows
end Go.Proofs.YtkmgcgmeibhnmaaDoor
