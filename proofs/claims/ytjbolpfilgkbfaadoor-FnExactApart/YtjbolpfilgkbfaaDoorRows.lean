/-
  NARROWER THAN 'FOR EVERY INPUT', by the rows' own cells (each row's printed sentence says how): FnPlayed: laid · FnCommute: laid · FnNumbered: laid · FnExactIsStart: laid · FnExactEnabled: laid · FnExactStepBy: laid · FnExactTouchedBy: laid · FnExactApart: laid · FnExactStateNo: laid · FnExactStateOf: laid.
  DERIVED. THE GIVEN ROWS OF THIS SEAT. 10 by the template 'for every input the law returns true; each argument reads behind the call as it read before'; 0 by the template 'total and deterministic' (their statements: YtjbolpfilgkbfaaDoorTotals.lean).
  GIVEN WITH THE SEED: the statements are not yours to turn. If you find one false, say at which input.
  Laid BY PROGRAM, IN A SANDBOX (cutbox-rows.mjs): the forced cells as the released guide's own fill.sh prints them over the translation 9a0177a9bd4ab981… (all of the seat's roots in one cut). By AI agents, Wed Nov 11 2026. No macro, syntax, notation, axiom, sorry.
-/
import Derived.Test.YtjbolpfilgkbfaaDoorChecked
import GoSem.Claim
import GoSem.ClaimJoined
import GoSem.ClaimMapViews
import Derived.JoinedTies
import Derived.KernelRfl
namespace Go.Proofs.YtjbolpfilgkbfaaDoor
/- THE CELL 'sum', in the pinned program and in every row, IS THE sha256 OF THE DUMP (.gsa) THAT YtjbolpfilgkbfaaDoorProg.lean LOADS. Nothing in Lean hashes anything: it is a label: what it is worth is what the hold of that sum in a sandbox is worth. -/
noncomputable def Tryd.pinned : Pinned := { name := "ytjbolpfilgkbfaadoor", sum := "9a0177a9bd4ab981a860930fe24661dcc3061b5fd302948f6ff83a91fe34bcfa", checked := Tryd.checked }
namespace Rows
def none {H : Type} : Left H := { results := [], args := [] }

/- WHAT THE LISTED PACKAGE-LEVEL VARIABLES READ AS WHEN THE CALL BEGINS. Each datum BY PROGRAM (the guide's laid-datum.mjs) off the statement by which the dump's own 'gosem.cut.vars' lays the variable. In a bare row this is a premise. The card (YtjbolpfilgkbfaaDoorCards.lean) ties it to the program's text. -/
def laid_loop_example_g00649_impl_wordMasks {H : Type} : DataW H := .agg [.lit (.int .u64 0), .lit (.int .u64 1), .lit (.int .u64 3), .lit (.int .u64 7), .lit (.int .u64 15), .lit (.int .u64 31), .lit (.int .u64 63), .lit (.int .u64 127), .lit (.int .u64 255), .lit (.int .u64 511), .lit (.int .u64 1023), .lit (.int .u64 2047), .lit (.int .u64 4095), .lit (.int .u64 8191), .lit (.int .u64 16383), .lit (.int .u64 32767), .lit (.int .u64 65535), .lit (.int .u64 131071), .lit (.int .u64 262143), .lit (.int .u64 524287), .lit (.int .u64 1048575), .lit (.int .u64 2097151), .lit (.int .u64 4194303), .lit (.int .u64 8388607), .lit (.int .u64 16777215), .lit (.int .u64 33554431), .lit (.int .u64 67108863), .lit (.int .u64 134217727), .lit (.int .u64 268435455), .lit (.int .u64 536870911), .lit (.int .u64 1073741823), .lit (.int .u64 2147483647), .lit (.int .u64 4294967295), .lit (.int .u64 8589934591), .lit (.int .u64 17179869183), .lit (.int .u64 34359738367), .lit (.int .u64 68719476735), .lit (.int .u64 137438953471), .lit (.int .u64 274877906943), .lit (.int .u64 549755813887), .lit (.int .u64 1099511627775), .lit (.int .u64 2199023255551), .lit (.int .u64 4398046511103), .lit (.int .u64 8796093022207), .lit (.int .u64 17592186044415), .lit (.int .u64 35184372088831), .lit (.int .u64 70368744177663), .lit (.int .u64 140737488355327), .lit (.int .u64 281474976710655), .lit (.int .u64 562949953421311), .lit (.int .u64 1125899906842623), .lit (.int .u64 2251799813685247), .lit (.int .u64 4503599627370495), .lit (.int .u64 9007199254740991), .lit (.int .u64 18014398509481983), .lit (.int .u64 36028797018963967), .lit (.int .u64 72057594037927935), .lit (.int .u64 144115188075855871), .lit (.int .u64 288230376151711743), .lit (.int .u64 576460752303423487), .lit (.int .u64 1152921504606846975), .lit (.int .u64 2305843009213693951), .lit (.int .u64 4611686018427387903), .lit (.int .u64 9223372036854775807), .lit (.int .u64 18446744073709551615)]

/-- 'laws.FnPlayed': WHATEVER THE INPUT: true; the input reads as it did. -/
def fnPlayedSpec : ChangeSpec := { name := "fnPlayed", vars := ["loop.example/g00649/impl.wordMasks"], fn := fun _ => fun
  | [d1, d2, g1] => { results := [.lit (.bool true)], args := [d1, d2], vars := [g1] }
  | _ => none }
def fnPlayedRow : OpenClaim := { program := "ytjbolpfilgkbfaadoor", sum := "9a0177a9bd4ab981a860930fe24661dcc3061b5fd302948f6ff83a91fe34bcfa", func := "loop.example/g00649/laws.FnPlayed", spec := "fnPlayed", recurses := true, named := ["loop.example/g00649/impl.wordMasks"], apart := false, laid := [("loop.example/g00649/impl.wordMasks", laid_loop_example_g00649_impl_wordMasks)] }
def FnPlayedSaid : Prop := fnPlayedRow.holds Tryd.pinned (OpenSpec.ofChange fnPlayedSpec)

/-- ITS FALSE NEIGHBOUR: 'it returns false'. Refute it at one input. -/
def fnPlayedWrong : ChangeSpec := { name := "fnPlayed", vars := ["loop.example/g00649/impl.wordMasks"], fn := fun _ => fun
  | [d1, d2, g1] => { results := [.lit (.bool false)], args := [d1, d2], vars := [g1] }
  | _ => none }
def FnPlayedWrongFalsely : Prop := fnPlayedRow.holds Tryd.pinned (OpenSpec.ofChange fnPlayedWrong)

/-- 'laws.FnCommute': WHATEVER THE INPUT: true; the input reads as it did. -/
def fnCommuteSpec : ChangeSpec := { name := "fnCommute", vars := ["loop.example/g00649/impl.wordMasks"], fn := fun _ => fun
  | [d1, d2, g1] => { results := [.lit (.bool true)], args := [d1, d2], vars := [g1] }
  | _ => none }
def fnCommuteRow : OpenClaim := { program := "ytjbolpfilgkbfaadoor", sum := "9a0177a9bd4ab981a860930fe24661dcc3061b5fd302948f6ff83a91fe34bcfa", func := "loop.example/g00649/laws.FnCommute", spec := "fnCommute", recurses := true, named := ["loop.example/g00649/impl.wordMasks"], apart := false, laid := [("loop.example/g00649/impl.wordMasks", laid_loop_example_g00649_impl_wordMasks)] }
def FnCommuteSaid : Prop := fnCommuteRow.holds Tryd.pinned (OpenSpec.ofChange fnCommuteSpec)

/-- ITS FALSE NEIGHBOUR: 'it returns false'. Refute it at one input. -/
def fnCommuteWrong : ChangeSpec := { name := "fnCommute", vars := ["loop.example/g00649/impl.wordMasks"], fn := fun _ => fun
  | [d1, d2, g1] => { results := [.lit (.bool false)], args := [d1, d2], vars := [g1] }
  | _ => none }
def FnCommuteWrongFalsely : Prop := fnCommuteRow.holds Tryd.pinned (OpenSpec.ofChange fnCommuteWrong)

/-- 'laws.FnNumbered': WHATEVER THE INPUT: true; the input reads as it did. -/
def fnNumberedSpec : ChangeSpec := { name := "fnNumbered", vars := ["loop.example/g00649/impl.wordMasks"], fn := fun _ => fun
  | [d1, d2, g1] => { results := [.lit (.bool true)], args := [d1, d2], vars := [g1] }
  | _ => none }
def fnNumberedRow : OpenClaim := { program := "ytjbolpfilgkbfaadoor", sum := "9a0177a9bd4ab981a860930fe24661dcc3061b5fd302948f6ff83a91fe34bcfa", func := "loop.example/g00649/laws.FnNumbered", spec := "fnNumbered", recurses := true, named := ["loop.example/g00649/impl.wordMasks"], apart := false, laid := [("loop.example/g00649/impl.wordMasks", laid_loop_example_g00649_impl_wordMasks)] }
def FnNumberedSaid : Prop := fnNumberedRow.holds Tryd.pinned (OpenSpec.ofChange fnNumberedSpec)

/-- ITS FALSE NEIGHBOUR: 'it returns false'. Refute it at one input. -/
def fnNumberedWrong : ChangeSpec := { name := "fnNumbered", vars := ["loop.example/g00649/impl.wordMasks"], fn := fun _ => fun
  | [d1, d2, g1] => { results := [.lit (.bool false)], args := [d1, d2], vars := [g1] }
  | _ => none }
def FnNumberedWrongFalsely : Prop := fnNumberedRow.holds Tryd.pinned (OpenSpec.ofChange fnNumberedWrong)

/-- 'laws.FnExactIsStart': WHATEVER THE INPUT: true; the input reads as it did. -/
def fnExactIsStartSpec : ChangeSpec := { name := "fnExactIsStart", vars := ["loop.example/g00649/impl.wordMasks"], fn := fun _ => fun
  | [d1, d2, g1] => { results := [.lit (.bool true)], args := [d1, d2], vars := [g1] }
  | _ => none }
def fnExactIsStartRow : OpenClaim := { program := "ytjbolpfilgkbfaadoor", sum := "9a0177a9bd4ab981a860930fe24661dcc3061b5fd302948f6ff83a91fe34bcfa", func := "loop.example/g00649/laws.FnExactIsStart", spec := "fnExactIsStart", recurses := true, named := ["loop.example/g00649/impl.wordMasks"], apart := false, laid := [("loop.example/g00649/impl.wordMasks", laid_loop_example_g00649_impl_wordMasks)] }
def FnExactIsStartSaid : Prop := fnExactIsStartRow.holds Tryd.pinned (OpenSpec.ofChange fnExactIsStartSpec)

/-- ITS FALSE NEIGHBOUR: 'it returns false'. Refute it at one input. -/
def fnExactIsStartWrong : ChangeSpec := { name := "fnExactIsStart", vars := ["loop.example/g00649/impl.wordMasks"], fn := fun _ => fun
  | [d1, d2, g1] => { results := [.lit (.bool false)], args := [d1, d2], vars := [g1] }
  | _ => none }
def FnExactIsStartWrongFalsely : Prop := fnExactIsStartRow.holds Tryd.pinned (OpenSpec.ofChange fnExactIsStartWrong)

/-- 'laws.FnExactEnabled': WHATEVER THE INPUT: true; the input reads as it did. -/
def fnExactEnabledSpec : ChangeSpec := { name := "fnExactEnabled", vars := ["loop.example/g00649/impl.wordMasks"], fn := fun _ => fun
  | [d1, d2, g1] => { results := [.lit (.bool true)], args := [d1, d2], vars := [g1] }
  | _ => none }
def fnExactEnabledRow : OpenClaim := { program := "ytjbolpfilgkbfaadoor", sum := "9a0177a9bd4ab981a860930fe24661dcc3061b5fd302948f6ff83a91fe34bcfa", func := "loop.example/g00649/laws.FnExactEnabled", spec := "fnExactEnabled", recurses := true, named := ["loop.example/g00649/impl.wordMasks"], apart := false, laid := [("loop.example/g00649/impl.wordMasks", laid_loop_example_g00649_impl_wordMasks)] }
def FnExactEnabledSaid : Prop := fnExactEnabledRow.holds Tryd.pinned (OpenSpec.ofChange fnExactEnabledSpec)

/-- ITS FALSE NEIGHBOUR: 'it returns false'. Refute it at one input. -/
def fnExactEnabledWrong : ChangeSpec := { name := "fnExactEnabled", vars := ["loop.example/g00649/impl.wordMasks"], fn := fun _ => fun
  | [d1, d2, g1] => { results := [.lit (.bool false)], args := [d1, d2], vars := [g1] }
  | _ => none }
def FnExactEnabledWrongFalsely : Prop := fnExactEnabledRow.holds Tryd.pinned (OpenSpec.ofChange fnExactEnabledWrong)

/-- 'laws.FnExactStepBy': WHATEVER THE INPUT: true; the input reads as it did. -/
def fnExactStepBySpec : ChangeSpec := { name := "fnExactStepBy", vars := ["loop.example/g00649/impl.wordMasks"], fn := fun _ => fun
  | [d1, d2, d3, g1] => { results := [.lit (.bool true)], args := [d1, d2, d3], vars := [g1] }
  | _ => none }
def fnExactStepByRow : OpenClaim := { program := "ytjbolpfilgkbfaadoor", sum := "9a0177a9bd4ab981a860930fe24661dcc3061b5fd302948f6ff83a91fe34bcfa", func := "loop.example/g00649/laws.FnExactStepBy", spec := "fnExactStepBy", recurses := true, named := ["loop.example/g00649/impl.wordMasks"], apart := false, laid := [("loop.example/g00649/impl.wordMasks", laid_loop_example_g00649_impl_wordMasks)] }
def FnExactStepBySaid : Prop := fnExactStepByRow.holds Tryd.pinned (OpenSpec.ofChange fnExactStepBySpec)

/-- ITS FALSE NEIGHBOUR: 'it returns false'. Refute it at one input. -/
def fnExactStepByWrong : ChangeSpec := { name := "fnExactStepBy", vars := ["loop.example/g00649/impl.wordMasks"], fn := fun _ => fun
  | [d1, d2, d3, g1] => { results := [.lit (.bool false)], args := [d1, d2, d3], vars := [g1] }
  | _ => none }
def FnExactStepByWrongFalsely : Prop := fnExactStepByRow.holds Tryd.pinned (OpenSpec.ofChange fnExactStepByWrong)

/-- 'laws.FnExactTouchedBy': WHATEVER THE INPUT: true; the input reads as it did. -/
def fnExactTouchedBySpec : ChangeSpec := { name := "fnExactTouchedBy", vars := ["loop.example/g00649/impl.wordMasks"], fn := fun _ => fun
  | [d1, d2, g1] => { results := [.lit (.bool true)], args := [d1, d2], vars := [g1] }
  | _ => none }
def fnExactTouchedByRow : OpenClaim := { program := "ytjbolpfilgkbfaadoor", sum := "9a0177a9bd4ab981a860930fe24661dcc3061b5fd302948f6ff83a91fe34bcfa", func := "loop.example/g00649/laws.FnExactTouchedBy", spec := "fnExactTouchedBy", recurses := true, named := ["loop.example/g00649/impl.wordMasks"], apart := false, laid := [("loop.example/g00649/impl.wordMasks", laid_loop_example_g00649_impl_wordMasks)] }
def FnExactTouchedBySaid : Prop := fnExactTouchedByRow.holds Tryd.pinned (OpenSpec.ofChange fnExactTouchedBySpec)

/-- ITS FALSE NEIGHBOUR: 'it returns false'. Refute it at one input. -/
def fnExactTouchedByWrong : ChangeSpec := { name := "fnExactTouchedBy", vars := ["loop.example/g00649/impl.wordMasks"], fn := fun _ => fun
  | [d1, d2, g1] => { results := [.lit (.bool false)], args := [d1, d2], vars := [g1] }
  | _ => none }
def FnExactTouchedByWrongFalsely : Prop := fnExactTouchedByRow.holds Tryd.pinned (OpenSpec.ofChange fnExactTouchedByWrong)

/-- 'laws.FnExactApart': WHATEVER THE INPUT: true; the input reads as it did. -/
def fnExactApartSpec : ChangeSpec := { name := "fnExactApart", vars := ["loop.example/g00649/impl.wordMasks"], fn := fun _ => fun
  | [d1, d2, d3, g1] => { results := [.lit (.bool true)], args := [d1, d2, d3], vars := [g1] }
  | _ => none }
def fnExactApartRow : OpenClaim := { program := "ytjbolpfilgkbfaadoor", sum := "9a0177a9bd4ab981a860930fe24661dcc3061b5fd302948f6ff83a91fe34bcfa", func := "loop.example/g00649/laws.FnExactApart", spec := "fnExactApart", recurses := true, named := ["loop.example/g00649/impl.wordMasks"], apart := false, laid := [("loop.example/g00649/impl.wordMasks", laid_loop_example_g00649_impl_wordMasks)] }
def FnExactApartSaid : Prop := fnExactApartRow.holds Tryd.pinned (OpenSpec.ofChange fnExactApartSpec)

/-- ITS FALSE NEIGHBOUR: 'it returns false'. Refute it at one input. -/
def fnExactApartWrong : ChangeSpec := { name := "fnExactApart", vars := ["loop.example/g00649/impl.wordMasks"], fn := fun _ => fun
  | [d1, d2, d3, g1] => { results := [.lit (.bool false)], args := [d1, d2, d3], vars := [g1] }
  | _ => none }
def FnExactApartWrongFalsely : Prop := fnExactApartRow.holds Tryd.pinned (OpenSpec.ofChange fnExactApartWrong)

/-- 'laws.FnExactStateNo': WHATEVER THE INPUT: true; the input reads as it did. -/
def fnExactStateNoSpec : ChangeSpec := { name := "fnExactStateNo", vars := ["loop.example/g00649/impl.wordMasks"], fn := fun _ => fun
  | [d1, d2, g1] => { results := [.lit (.bool true)], args := [d1, d2], vars := [g1] }
  | _ => none }
def fnExactStateNoRow : OpenClaim := { program := "ytjbolpfilgkbfaadoor", sum := "9a0177a9bd4ab981a860930fe24661dcc3061b5fd302948f6ff83a91fe34bcfa", func := "loop.example/g00649/laws.FnExactStateNo", spec := "fnExactStateNo", named := ["loop.example/g00649/impl.wordMasks"], apart := false, laid := [("loop.example/g00649/impl.wordMasks", laid_loop_example_g00649_impl_wordMasks)] }
def FnExactStateNoSaid : Prop := fnExactStateNoRow.holds Tryd.pinned (OpenSpec.ofChange fnExactStateNoSpec)

/-- ITS FALSE NEIGHBOUR: 'it returns false'. Refute it at one input. -/
def fnExactStateNoWrong : ChangeSpec := { name := "fnExactStateNo", vars := ["loop.example/g00649/impl.wordMasks"], fn := fun _ => fun
  | [d1, d2, g1] => { results := [.lit (.bool false)], args := [d1, d2], vars := [g1] }
  | _ => none }
def FnExactStateNoWrongFalsely : Prop := fnExactStateNoRow.holds Tryd.pinned (OpenSpec.ofChange fnExactStateNoWrong)

/-- 'laws.FnExactStateOf': WHATEVER THE INPUT: true; the input reads as it did. -/
def fnExactStateOfSpec : ChangeSpec := { name := "fnExactStateOf", vars := ["loop.example/g00649/impl.wordMasks"], fn := fun _ => fun
  | [d1, d2, g1] => { results := [.lit (.bool true)], args := [d1, d2], vars := [g1] }
  | _ => none }
def fnExactStateOfRow : OpenClaim := { program := "ytjbolpfilgkbfaadoor", sum := "9a0177a9bd4ab981a860930fe24661dcc3061b5fd302948f6ff83a91fe34bcfa", func := "loop.example/g00649/laws.FnExactStateOf", spec := "fnExactStateOf", named := ["loop.example/g00649/impl.wordMasks"], apart := false, laid := [("loop.example/g00649/impl.wordMasks", laid_loop_example_g00649_impl_wordMasks)] }
def FnExactStateOfSaid : Prop := fnExactStateOfRow.holds Tryd.pinned (OpenSpec.ofChange fnExactStateOfSpec)

/-- ITS FALSE NEIGHBOUR: 'it returns false'. Refute it at one input. -/
def fnExactStateOfWrong : ChangeSpec := { name := "fnExactStateOf", vars := ["loop.example/g00649/impl.wordMasks"], fn := fun _ => fun
  | [d1, d2, g1] => { results := [.lit (.bool false)], args := [d1, d2], vars := [g1] }
  | _ => none }
def FnExactStateOfWrongFalsely : Prop := fnExactStateOfRow.holds Tryd.pinned (OpenSpec.ofChange fnExactStateOfWrong)

/- THE SECOND FORM. 'bulk': how many values and letters a reading holds, each counted each time it is reached (what is shared counts as often as it is met; a slice's spare places count too). A statement '..UptoSaid' is the law's where the arguments, and the package variables that the reading takes, are together of bulk at most 1048576: NARROWER than '..Said'. Prove '..Said' where nothing that the law and all that it calls make is longer than what came in: it says more and counts as full. Else prove '..UptoSaid'. A law counts once. -/
mutual
def uptoBulk {H : Type} : DataW H → Nat
  | .lit (.string bytes) => bytes.length + 1
  | .lit _ => 1
  | .nil => 1
  | .ptr d => uptoBulk d + 1
  | .slice elems spare => uptoBulkAll elems + uptoBulkAll spare + 1
  | .agg parts => uptoBulkAll parts + 1
  | .iface _ d => uptoBulk d + 1
  | .map entries => uptoBulkEntries entries + 1
  | .held _ => 1
def uptoBulkAll {H : Type} : List (DataW H) → Nat
  | [] => 0
  | d :: r => uptoBulk d + uptoBulkAll r
def uptoBulkEntries {H : Type} : List (Lit × DataW H) → Nat
  | [] => 0
  | x :: r => uptoBulkEntry x + uptoBulkEntries r
def uptoBulkEntry {H : Type} : Lit × DataW H → Nat
  | (.string bytes, d) => bytes.length + uptoBulk d + 1
  | (_, d) => uptoBulk d + 1
 end
def uptoSmall : (H : Type) → List (DataW H) → Bool := fun _ ds => decide (uptoBulkAll ds ≤ 1048576)
def OpenSpec.upto (s : _root_.Go.ChangeSpec) : _root_.Go.OpenSpec := { _root_.Go.OpenSpec.ofChange s with cond := some uptoSmall }

/-- 'laws.FnPlayed', WHERE WHAT IT READS IS OF BULK AT MOST 1048576: true; the input reads as it did. -/
def fnPlayedUptoRow : OpenClaim := { program := "ytjbolpfilgkbfaadoor", sum := "9a0177a9bd4ab981a860930fe24661dcc3061b5fd302948f6ff83a91fe34bcfa", func := "loop.example/g00649/laws.FnPlayed", spec := "fnPlayed", recurses := true, named := ["loop.example/g00649/impl.wordMasks"], apart := false, laid := [("loop.example/g00649/impl.wordMasks", laid_loop_example_g00649_impl_wordMasks)], narrowed := true }
def FnPlayedUptoSaid : Prop := fnPlayedUptoRow.holds Tryd.pinned (OpenSpec.upto fnPlayedSpec)

/-- 'laws.FnCommute', WHERE WHAT IT READS IS OF BULK AT MOST 1048576: true; the input reads as it did. -/
def fnCommuteUptoRow : OpenClaim := { program := "ytjbolpfilgkbfaadoor", sum := "9a0177a9bd4ab981a860930fe24661dcc3061b5fd302948f6ff83a91fe34bcfa", func := "loop.example/g00649/laws.FnCommute", spec := "fnCommute", recurses := true, named := ["loop.example/g00649/impl.wordMasks"], apart := false, laid := [("loop.example/g00649/impl.wordMasks", laid_loop_example_g00649_impl_wordMasks)], narrowed := true }
def FnCommuteUptoSaid : Prop := fnCommuteUptoRow.holds Tryd.pinned (OpenSpec.upto fnCommuteSpec)

/-- 'laws.FnNumbered', WHERE WHAT IT READS IS OF BULK AT MOST 1048576: true; the input reads as it did. -/
def fnNumberedUptoRow : OpenClaim := { program := "ytjbolpfilgkbfaadoor", sum := "9a0177a9bd4ab981a860930fe24661dcc3061b5fd302948f6ff83a91fe34bcfa", func := "loop.example/g00649/laws.FnNumbered", spec := "fnNumbered", recurses := true, named := ["loop.example/g00649/impl.wordMasks"], apart := false, laid := [("loop.example/g00649/impl.wordMasks", laid_loop_example_g00649_impl_wordMasks)], narrowed := true }
def FnNumberedUptoSaid : Prop := fnNumberedUptoRow.holds Tryd.pinned (OpenSpec.upto fnNumberedSpec)

/-- 'laws.FnExactIsStart', WHERE WHAT IT READS IS OF BULK AT MOST 1048576: true; the input reads as it did. -/
def fnExactIsStartUptoRow : OpenClaim := { program := "ytjbolpfilgkbfaadoor", sum := "9a0177a9bd4ab981a860930fe24661dcc3061b5fd302948f6ff83a91fe34bcfa", func := "loop.example/g00649/laws.FnExactIsStart", spec := "fnExactIsStart", recurses := true, named := ["loop.example/g00649/impl.wordMasks"], apart := false, laid := [("loop.example/g00649/impl.wordMasks", laid_loop_example_g00649_impl_wordMasks)], narrowed := true }
def FnExactIsStartUptoSaid : Prop := fnExactIsStartUptoRow.holds Tryd.pinned (OpenSpec.upto fnExactIsStartSpec)

/-- 'laws.FnExactEnabled', WHERE WHAT IT READS IS OF BULK AT MOST 1048576: true; the input reads as it did. -/
def fnExactEnabledUptoRow : OpenClaim := { program := "ytjbolpfilgkbfaadoor", sum := "9a0177a9bd4ab981a860930fe24661dcc3061b5fd302948f6ff83a91fe34bcfa", func := "loop.example/g00649/laws.FnExactEnabled", spec := "fnExactEnabled", recurses := true, named := ["loop.example/g00649/impl.wordMasks"], apart := false, laid := [("loop.example/g00649/impl.wordMasks", laid_loop_example_g00649_impl_wordMasks)], narrowed := true }
def FnExactEnabledUptoSaid : Prop := fnExactEnabledUptoRow.holds Tryd.pinned (OpenSpec.upto fnExactEnabledSpec)

/-- 'laws.FnExactStepBy', WHERE WHAT IT READS IS OF BULK AT MOST 1048576: true; the input reads as it did. -/
def fnExactStepByUptoRow : OpenClaim := { program := "ytjbolpfilgkbfaadoor", sum := "9a0177a9bd4ab981a860930fe24661dcc3061b5fd302948f6ff83a91fe34bcfa", func := "loop.example/g00649/laws.FnExactStepBy", spec := "fnExactStepBy", recurses := true, named := ["loop.example/g00649/impl.wordMasks"], apart := false, laid := [("loop.example/g00649/impl.wordMasks", laid_loop_example_g00649_impl_wordMasks)], narrowed := true }
def FnExactStepByUptoSaid : Prop := fnExactStepByUptoRow.holds Tryd.pinned (OpenSpec.upto fnExactStepBySpec)

/-- 'laws.FnExactTouchedBy', WHERE WHAT IT READS IS OF BULK AT MOST 1048576: true; the input reads as it did. -/
def fnExactTouchedByUptoRow : OpenClaim := { program := "ytjbolpfilgkbfaadoor", sum := "9a0177a9bd4ab981a860930fe24661dcc3061b5fd302948f6ff83a91fe34bcfa", func := "loop.example/g00649/laws.FnExactTouchedBy", spec := "fnExactTouchedBy", recurses := true, named := ["loop.example/g00649/impl.wordMasks"], apart := false, laid := [("loop.example/g00649/impl.wordMasks", laid_loop_example_g00649_impl_wordMasks)], narrowed := true }
def FnExactTouchedByUptoSaid : Prop := fnExactTouchedByUptoRow.holds Tryd.pinned (OpenSpec.upto fnExactTouchedBySpec)

/-- 'laws.FnExactApart', WHERE WHAT IT READS IS OF BULK AT MOST 1048576: true; the input reads as it did. -/
def fnExactApartUptoRow : OpenClaim := { program := "ytjbolpfilgkbfaadoor", sum := "9a0177a9bd4ab981a860930fe24661dcc3061b5fd302948f6ff83a91fe34bcfa", func := "loop.example/g00649/laws.FnExactApart", spec := "fnExactApart", recurses := true, named := ["loop.example/g00649/impl.wordMasks"], apart := false, laid := [("loop.example/g00649/impl.wordMasks", laid_loop_example_g00649_impl_wordMasks)], narrowed := true }
def FnExactApartUptoSaid : Prop := fnExactApartUptoRow.holds Tryd.pinned (OpenSpec.upto fnExactApartSpec)

/-- 'laws.FnExactStateNo', WHERE WHAT IT READS IS OF BULK AT MOST 1048576: true; the input reads as it did. -/
def fnExactStateNoUptoRow : OpenClaim := { program := "ytjbolpfilgkbfaadoor", sum := "9a0177a9bd4ab981a860930fe24661dcc3061b5fd302948f6ff83a91fe34bcfa", func := "loop.example/g00649/laws.FnExactStateNo", spec := "fnExactStateNo", named := ["loop.example/g00649/impl.wordMasks"], apart := false, laid := [("loop.example/g00649/impl.wordMasks", laid_loop_example_g00649_impl_wordMasks)], narrowed := true }
def FnExactStateNoUptoSaid : Prop := fnExactStateNoUptoRow.holds Tryd.pinned (OpenSpec.upto fnExactStateNoSpec)

/-- 'laws.FnExactStateOf', WHERE WHAT IT READS IS OF BULK AT MOST 1048576: true; the input reads as it did. -/
def fnExactStateOfUptoRow : OpenClaim := { program := "ytjbolpfilgkbfaadoor", sum := "9a0177a9bd4ab981a860930fe24661dcc3061b5fd302948f6ff83a91fe34bcfa", func := "loop.example/g00649/laws.FnExactStateOf", spec := "fnExactStateOf", named := ["loop.example/g00649/impl.wordMasks"], apart := false, laid := [("loop.example/g00649/impl.wordMasks", laid_loop_example_g00649_impl_wordMasks)], narrowed := true }
def FnExactStateOfUptoSaid : Prop := fnExactStateOfUptoRow.holds Tryd.pinned (OpenSpec.upto fnExactStateOfSpec)

end Rows
end Go.Proofs.YtjbolpfilgkbfaaDoor
