/-
  NARROWER THAN 'FOR EVERY INPUT', by the rows' own cells (each row's printed sentence says how): FnRing: laid · FnDivided: laid · FnExactGoodWord: laid · FnExactCutTo: laid · FnExactAddWord: laid · FnExactSubWord: laid · FnExactMulWord: laid · FnExactDivWord: laid · FnExactShiftWord: laid · FnExactFlipWord: laid · FnExactSignedOf: laid · FnExactFromSigned: laid · FnExactLessSigned: laid.
  DERIVED. THE GIVEN ROWS OF THIS SEAT. 13 by the template 'for every input the law returns true; each argument reads behind the call as it read before'; 0 by the template 'total and deterministic' (their statements: YthfbkegcbajkhaaDoorTotals.lean).
  GIVEN WITH THE SEED: the statements are not yours to turn. If you find one false, say at which input.
  Laid BY PROGRAM, IN A SANDBOX (cutbox-rows.mjs): the forced cells as the released guide's own fill.sh prints them over the translation da95517765bdf4b2… (all of the seat's roots in one cut). By AI agents, Wed Nov 11 2026. No macro, syntax, notation, axiom, sorry.
-/
import Derived.Test.YthfbkegcbajkhaaDoorChecked
import GoSem.Claim
import GoSem.ClaimJoined
import GoSem.ClaimMapViews
import Derived.JoinedTies
import Derived.KernelRfl
namespace Go.Proofs.YthfbkegcbajkhaaDoor
/- THE CELL 'sum', in the pinned program and in every row, IS THE sha256 OF THE DUMP (.gsa) THAT YthfbkegcbajkhaaDoorProg.lean LOADS. Nothing in Lean hashes anything: it is a label: what it is worth is what the hold of that sum in a sandbox is worth. -/
noncomputable def Tryd.pinned : Pinned := { name := "ythfbkegcbajkhaadoor", sum := "da95517765bdf4b2e60a867d9b9d87ebe5f1abbc8042b2705685d03976d89b0c", checked := Tryd.checked }
namespace Rows
def none {H : Type} : Left H := { results := [], args := [] }

/- WHAT THE LISTED PACKAGE-LEVEL VARIABLES READ AS WHEN THE CALL BEGINS. Each datum BY PROGRAM (the guide's laid-datum.mjs) off the statement by which the dump's own 'gosem.cut.vars' lays the variable. In a bare row this is a premise. The card (YthfbkegcbajkhaaDoorCards.lean) ties it to the program's text. -/
def laid_loop_example_g00649_impl_wordMasks {H : Type} : DataW H := .agg [.lit (.int .u64 0), .lit (.int .u64 1), .lit (.int .u64 3), .lit (.int .u64 7), .lit (.int .u64 15), .lit (.int .u64 31), .lit (.int .u64 63), .lit (.int .u64 127), .lit (.int .u64 255), .lit (.int .u64 511), .lit (.int .u64 1023), .lit (.int .u64 2047), .lit (.int .u64 4095), .lit (.int .u64 8191), .lit (.int .u64 16383), .lit (.int .u64 32767), .lit (.int .u64 65535), .lit (.int .u64 131071), .lit (.int .u64 262143), .lit (.int .u64 524287), .lit (.int .u64 1048575), .lit (.int .u64 2097151), .lit (.int .u64 4194303), .lit (.int .u64 8388607), .lit (.int .u64 16777215), .lit (.int .u64 33554431), .lit (.int .u64 67108863), .lit (.int .u64 134217727), .lit (.int .u64 268435455), .lit (.int .u64 536870911), .lit (.int .u64 1073741823), .lit (.int .u64 2147483647), .lit (.int .u64 4294967295), .lit (.int .u64 8589934591), .lit (.int .u64 17179869183), .lit (.int .u64 34359738367), .lit (.int .u64 68719476735), .lit (.int .u64 137438953471), .lit (.int .u64 274877906943), .lit (.int .u64 549755813887), .lit (.int .u64 1099511627775), .lit (.int .u64 2199023255551), .lit (.int .u64 4398046511103), .lit (.int .u64 8796093022207), .lit (.int .u64 17592186044415), .lit (.int .u64 35184372088831), .lit (.int .u64 70368744177663), .lit (.int .u64 140737488355327), .lit (.int .u64 281474976710655), .lit (.int .u64 562949953421311), .lit (.int .u64 1125899906842623), .lit (.int .u64 2251799813685247), .lit (.int .u64 4503599627370495), .lit (.int .u64 9007199254740991), .lit (.int .u64 18014398509481983), .lit (.int .u64 36028797018963967), .lit (.int .u64 72057594037927935), .lit (.int .u64 144115188075855871), .lit (.int .u64 288230376151711743), .lit (.int .u64 576460752303423487), .lit (.int .u64 1152921504606846975), .lit (.int .u64 2305843009213693951), .lit (.int .u64 4611686018427387903), .lit (.int .u64 9223372036854775807), .lit (.int .u64 18446744073709551615)]

/-- 'laws.FnRing': WHATEVER THE INPUT: true; the input reads as it did. -/
def fnRingSpec : ChangeSpec := { name := "fnRing", vars := ["loop.example/g00649/impl.wordMasks"], fn := fun _ => fun
  | [d1, d2, g1] => { results := [.lit (.bool true)], args := [d1, d2], vars := [g1] }
  | _ => none }
def fnRingRow : OpenClaim := { program := "ythfbkegcbajkhaadoor", sum := "da95517765bdf4b2e60a867d9b9d87ebe5f1abbc8042b2705685d03976d89b0c", func := "loop.example/g00649/laws.FnRing", spec := "fnRing", named := ["loop.example/g00649/impl.wordMasks"], apart := false, laid := [("loop.example/g00649/impl.wordMasks", laid_loop_example_g00649_impl_wordMasks)] }
def FnRingSaid : Prop := fnRingRow.holds Tryd.pinned (OpenSpec.ofChange fnRingSpec)

/-- ITS FALSE NEIGHBOUR: 'it returns false'. Refute it at one input. -/
def fnRingWrong : ChangeSpec := { name := "fnRing", vars := ["loop.example/g00649/impl.wordMasks"], fn := fun _ => fun
  | [d1, d2, g1] => { results := [.lit (.bool false)], args := [d1, d2], vars := [g1] }
  | _ => none }
def FnRingWrongFalsely : Prop := fnRingRow.holds Tryd.pinned (OpenSpec.ofChange fnRingWrong)

/-- 'laws.FnDivided': WHATEVER THE INPUT: true; the input reads as it did. -/
def fnDividedSpec : ChangeSpec := { name := "fnDivided", vars := ["loop.example/g00649/impl.wordMasks"], fn := fun _ => fun
  | [d1, d2, g1] => { results := [.lit (.bool true)], args := [d1, d2], vars := [g1] }
  | _ => none }
def fnDividedRow : OpenClaim := { program := "ythfbkegcbajkhaadoor", sum := "da95517765bdf4b2e60a867d9b9d87ebe5f1abbc8042b2705685d03976d89b0c", func := "loop.example/g00649/laws.FnDivided", spec := "fnDivided", named := ["loop.example/g00649/impl.wordMasks"], apart := false, laid := [("loop.example/g00649/impl.wordMasks", laid_loop_example_g00649_impl_wordMasks)] }
def FnDividedSaid : Prop := fnDividedRow.holds Tryd.pinned (OpenSpec.ofChange fnDividedSpec)

/-- ITS FALSE NEIGHBOUR: 'it returns false'. Refute it at one input. -/
def fnDividedWrong : ChangeSpec := { name := "fnDivided", vars := ["loop.example/g00649/impl.wordMasks"], fn := fun _ => fun
  | [d1, d2, g1] => { results := [.lit (.bool false)], args := [d1, d2], vars := [g1] }
  | _ => none }
def FnDividedWrongFalsely : Prop := fnDividedRow.holds Tryd.pinned (OpenSpec.ofChange fnDividedWrong)

/-- 'laws.FnExactGoodWord': WHATEVER THE INPUT: true; the input reads as it did. -/
def fnExactGoodWordSpec : ChangeSpec := { name := "fnExactGoodWord", vars := ["loop.example/g00649/impl.wordMasks"], fn := fun _ => fun
  | [d1, d2, g1] => { results := [.lit (.bool true)], args := [d1, d2], vars := [g1] }
  | _ => none }
def fnExactGoodWordRow : OpenClaim := { program := "ythfbkegcbajkhaadoor", sum := "da95517765bdf4b2e60a867d9b9d87ebe5f1abbc8042b2705685d03976d89b0c", func := "loop.example/g00649/laws.FnExactGoodWord", spec := "fnExactGoodWord", named := ["loop.example/g00649/impl.wordMasks"], apart := false, laid := [("loop.example/g00649/impl.wordMasks", laid_loop_example_g00649_impl_wordMasks)] }
def FnExactGoodWordSaid : Prop := fnExactGoodWordRow.holds Tryd.pinned (OpenSpec.ofChange fnExactGoodWordSpec)

/-- ITS FALSE NEIGHBOUR: 'it returns false'. Refute it at one input. -/
def fnExactGoodWordWrong : ChangeSpec := { name := "fnExactGoodWord", vars := ["loop.example/g00649/impl.wordMasks"], fn := fun _ => fun
  | [d1, d2, g1] => { results := [.lit (.bool false)], args := [d1, d2], vars := [g1] }
  | _ => none }
def FnExactGoodWordWrongFalsely : Prop := fnExactGoodWordRow.holds Tryd.pinned (OpenSpec.ofChange fnExactGoodWordWrong)

/-- 'laws.FnExactCutTo': WHATEVER THE INPUT: true; the input reads as it did. -/
def fnExactCutToSpec : ChangeSpec := { name := "fnExactCutTo", vars := ["loop.example/g00649/impl.wordMasks"], fn := fun _ => fun
  | [d1, d2, g1] => { results := [.lit (.bool true)], args := [d1, d2], vars := [g1] }
  | _ => none }
def fnExactCutToRow : OpenClaim := { program := "ythfbkegcbajkhaadoor", sum := "da95517765bdf4b2e60a867d9b9d87ebe5f1abbc8042b2705685d03976d89b0c", func := "loop.example/g00649/laws.FnExactCutTo", spec := "fnExactCutTo", named := ["loop.example/g00649/impl.wordMasks"], apart := false, laid := [("loop.example/g00649/impl.wordMasks", laid_loop_example_g00649_impl_wordMasks)] }
def FnExactCutToSaid : Prop := fnExactCutToRow.holds Tryd.pinned (OpenSpec.ofChange fnExactCutToSpec)

/-- ITS FALSE NEIGHBOUR: 'it returns false'. Refute it at one input. -/
def fnExactCutToWrong : ChangeSpec := { name := "fnExactCutTo", vars := ["loop.example/g00649/impl.wordMasks"], fn := fun _ => fun
  | [d1, d2, g1] => { results := [.lit (.bool false)], args := [d1, d2], vars := [g1] }
  | _ => none }
def FnExactCutToWrongFalsely : Prop := fnExactCutToRow.holds Tryd.pinned (OpenSpec.ofChange fnExactCutToWrong)

/-- 'laws.FnExactAddWord': WHATEVER THE INPUT: true; the input reads as it did. -/
def fnExactAddWordSpec : ChangeSpec := { name := "fnExactAddWord", vars := ["loop.example/g00649/impl.wordMasks"], fn := fun _ => fun
  | [d1, d2, d3, g1] => { results := [.lit (.bool true)], args := [d1, d2, d3], vars := [g1] }
  | _ => none }
def fnExactAddWordRow : OpenClaim := { program := "ythfbkegcbajkhaadoor", sum := "da95517765bdf4b2e60a867d9b9d87ebe5f1abbc8042b2705685d03976d89b0c", func := "loop.example/g00649/laws.FnExactAddWord", spec := "fnExactAddWord", named := ["loop.example/g00649/impl.wordMasks"], apart := false, laid := [("loop.example/g00649/impl.wordMasks", laid_loop_example_g00649_impl_wordMasks)] }
def FnExactAddWordSaid : Prop := fnExactAddWordRow.holds Tryd.pinned (OpenSpec.ofChange fnExactAddWordSpec)

/-- ITS FALSE NEIGHBOUR: 'it returns false'. Refute it at one input. -/
def fnExactAddWordWrong : ChangeSpec := { name := "fnExactAddWord", vars := ["loop.example/g00649/impl.wordMasks"], fn := fun _ => fun
  | [d1, d2, d3, g1] => { results := [.lit (.bool false)], args := [d1, d2, d3], vars := [g1] }
  | _ => none }
def FnExactAddWordWrongFalsely : Prop := fnExactAddWordRow.holds Tryd.pinned (OpenSpec.ofChange fnExactAddWordWrong)

/-- 'laws.FnExactSubWord': WHATEVER THE INPUT: true; the input reads as it did. -/
def fnExactSubWordSpec : ChangeSpec := { name := "fnExactSubWord", vars := ["loop.example/g00649/impl.wordMasks"], fn := fun _ => fun
  | [d1, d2, d3, g1] => { results := [.lit (.bool true)], args := [d1, d2, d3], vars := [g1] }
  | _ => none }
def fnExactSubWordRow : OpenClaim := { program := "ythfbkegcbajkhaadoor", sum := "da95517765bdf4b2e60a867d9b9d87ebe5f1abbc8042b2705685d03976d89b0c", func := "loop.example/g00649/laws.FnExactSubWord", spec := "fnExactSubWord", named := ["loop.example/g00649/impl.wordMasks"], apart := false, laid := [("loop.example/g00649/impl.wordMasks", laid_loop_example_g00649_impl_wordMasks)] }
def FnExactSubWordSaid : Prop := fnExactSubWordRow.holds Tryd.pinned (OpenSpec.ofChange fnExactSubWordSpec)

/-- ITS FALSE NEIGHBOUR: 'it returns false'. Refute it at one input. -/
def fnExactSubWordWrong : ChangeSpec := { name := "fnExactSubWord", vars := ["loop.example/g00649/impl.wordMasks"], fn := fun _ => fun
  | [d1, d2, d3, g1] => { results := [.lit (.bool false)], args := [d1, d2, d3], vars := [g1] }
  | _ => none }
def FnExactSubWordWrongFalsely : Prop := fnExactSubWordRow.holds Tryd.pinned (OpenSpec.ofChange fnExactSubWordWrong)

/-- 'laws.FnExactMulWord': WHATEVER THE INPUT: true; the input reads as it did. -/
def fnExactMulWordSpec : ChangeSpec := { name := "fnExactMulWord", vars := ["loop.example/g00649/impl.wordMasks"], fn := fun _ => fun
  | [d1, d2, d3, g1] => { results := [.lit (.bool true)], args := [d1, d2, d3], vars := [g1] }
  | _ => none }
def fnExactMulWordRow : OpenClaim := { program := "ythfbkegcbajkhaadoor", sum := "da95517765bdf4b2e60a867d9b9d87ebe5f1abbc8042b2705685d03976d89b0c", func := "loop.example/g00649/laws.FnExactMulWord", spec := "fnExactMulWord", named := ["loop.example/g00649/impl.wordMasks"], apart := false, laid := [("loop.example/g00649/impl.wordMasks", laid_loop_example_g00649_impl_wordMasks)] }
def FnExactMulWordSaid : Prop := fnExactMulWordRow.holds Tryd.pinned (OpenSpec.ofChange fnExactMulWordSpec)

/-- ITS FALSE NEIGHBOUR: 'it returns false'. Refute it at one input. -/
def fnExactMulWordWrong : ChangeSpec := { name := "fnExactMulWord", vars := ["loop.example/g00649/impl.wordMasks"], fn := fun _ => fun
  | [d1, d2, d3, g1] => { results := [.lit (.bool false)], args := [d1, d2, d3], vars := [g1] }
  | _ => none }
def FnExactMulWordWrongFalsely : Prop := fnExactMulWordRow.holds Tryd.pinned (OpenSpec.ofChange fnExactMulWordWrong)

/-- 'laws.FnExactDivWord': WHATEVER THE INPUT: true; the input reads as it did. -/
def fnExactDivWordSpec : ChangeSpec := { name := "fnExactDivWord", vars := ["loop.example/g00649/impl.wordMasks"], fn := fun _ => fun
  | [d1, d2, d3, g1] => { results := [.lit (.bool true)], args := [d1, d2, d3], vars := [g1] }
  | _ => none }
def fnExactDivWordRow : OpenClaim := { program := "ythfbkegcbajkhaadoor", sum := "da95517765bdf4b2e60a867d9b9d87ebe5f1abbc8042b2705685d03976d89b0c", func := "loop.example/g00649/laws.FnExactDivWord", spec := "fnExactDivWord", named := ["loop.example/g00649/impl.wordMasks"], apart := false, laid := [("loop.example/g00649/impl.wordMasks", laid_loop_example_g00649_impl_wordMasks)] }
def FnExactDivWordSaid : Prop := fnExactDivWordRow.holds Tryd.pinned (OpenSpec.ofChange fnExactDivWordSpec)

/-- ITS FALSE NEIGHBOUR: 'it returns false'. Refute it at one input. -/
def fnExactDivWordWrong : ChangeSpec := { name := "fnExactDivWord", vars := ["loop.example/g00649/impl.wordMasks"], fn := fun _ => fun
  | [d1, d2, d3, g1] => { results := [.lit (.bool false)], args := [d1, d2, d3], vars := [g1] }
  | _ => none }
def FnExactDivWordWrongFalsely : Prop := fnExactDivWordRow.holds Tryd.pinned (OpenSpec.ofChange fnExactDivWordWrong)

/-- 'laws.FnExactShiftWord': WHATEVER THE INPUT: true; the input reads as it did. -/
def fnExactShiftWordSpec : ChangeSpec := { name := "fnExactShiftWord", vars := ["loop.example/g00649/impl.wordMasks"], fn := fun _ => fun
  | [d1, d2, d3, d4, g1] => { results := [.lit (.bool true)], args := [d1, d2, d3, d4], vars := [g1] }
  | _ => none }
def fnExactShiftWordRow : OpenClaim := { program := "ythfbkegcbajkhaadoor", sum := "da95517765bdf4b2e60a867d9b9d87ebe5f1abbc8042b2705685d03976d89b0c", func := "loop.example/g00649/laws.FnExactShiftWord", spec := "fnExactShiftWord", named := ["loop.example/g00649/impl.wordMasks"], apart := false, laid := [("loop.example/g00649/impl.wordMasks", laid_loop_example_g00649_impl_wordMasks)] }
def FnExactShiftWordSaid : Prop := fnExactShiftWordRow.holds Tryd.pinned (OpenSpec.ofChange fnExactShiftWordSpec)

/-- ITS FALSE NEIGHBOUR: 'it returns false'. Refute it at one input. -/
def fnExactShiftWordWrong : ChangeSpec := { name := "fnExactShiftWord", vars := ["loop.example/g00649/impl.wordMasks"], fn := fun _ => fun
  | [d1, d2, d3, d4, g1] => { results := [.lit (.bool false)], args := [d1, d2, d3, d4], vars := [g1] }
  | _ => none }
def FnExactShiftWordWrongFalsely : Prop := fnExactShiftWordRow.holds Tryd.pinned (OpenSpec.ofChange fnExactShiftWordWrong)

/-- 'laws.FnExactFlipWord': WHATEVER THE INPUT: true; the input reads as it did. -/
def fnExactFlipWordSpec : ChangeSpec := { name := "fnExactFlipWord", vars := ["loop.example/g00649/impl.wordMasks"], fn := fun _ => fun
  | [d1, d2, g1] => { results := [.lit (.bool true)], args := [d1, d2], vars := [g1] }
  | _ => none }
def fnExactFlipWordRow : OpenClaim := { program := "ythfbkegcbajkhaadoor", sum := "da95517765bdf4b2e60a867d9b9d87ebe5f1abbc8042b2705685d03976d89b0c", func := "loop.example/g00649/laws.FnExactFlipWord", spec := "fnExactFlipWord", named := ["loop.example/g00649/impl.wordMasks"], apart := false, laid := [("loop.example/g00649/impl.wordMasks", laid_loop_example_g00649_impl_wordMasks)] }
def FnExactFlipWordSaid : Prop := fnExactFlipWordRow.holds Tryd.pinned (OpenSpec.ofChange fnExactFlipWordSpec)

/-- ITS FALSE NEIGHBOUR: 'it returns false'. Refute it at one input. -/
def fnExactFlipWordWrong : ChangeSpec := { name := "fnExactFlipWord", vars := ["loop.example/g00649/impl.wordMasks"], fn := fun _ => fun
  | [d1, d2, g1] => { results := [.lit (.bool false)], args := [d1, d2], vars := [g1] }
  | _ => none }
def FnExactFlipWordWrongFalsely : Prop := fnExactFlipWordRow.holds Tryd.pinned (OpenSpec.ofChange fnExactFlipWordWrong)

/-- 'laws.FnExactSignedOf': WHATEVER THE INPUT: true; the input reads as it did. -/
def fnExactSignedOfSpec : ChangeSpec := { name := "fnExactSignedOf", vars := ["loop.example/g00649/impl.wordMasks"], fn := fun _ => fun
  | [d1, d2, g1] => { results := [.lit (.bool true)], args := [d1, d2], vars := [g1] }
  | _ => none }
def fnExactSignedOfRow : OpenClaim := { program := "ythfbkegcbajkhaadoor", sum := "da95517765bdf4b2e60a867d9b9d87ebe5f1abbc8042b2705685d03976d89b0c", func := "loop.example/g00649/laws.FnExactSignedOf", spec := "fnExactSignedOf", named := ["loop.example/g00649/impl.wordMasks"], apart := false, laid := [("loop.example/g00649/impl.wordMasks", laid_loop_example_g00649_impl_wordMasks)] }
def FnExactSignedOfSaid : Prop := fnExactSignedOfRow.holds Tryd.pinned (OpenSpec.ofChange fnExactSignedOfSpec)

/-- ITS FALSE NEIGHBOUR: 'it returns false'. Refute it at one input. -/
def fnExactSignedOfWrong : ChangeSpec := { name := "fnExactSignedOf", vars := ["loop.example/g00649/impl.wordMasks"], fn := fun _ => fun
  | [d1, d2, g1] => { results := [.lit (.bool false)], args := [d1, d2], vars := [g1] }
  | _ => none }
def FnExactSignedOfWrongFalsely : Prop := fnExactSignedOfRow.holds Tryd.pinned (OpenSpec.ofChange fnExactSignedOfWrong)

/-- 'laws.FnExactFromSigned': WHATEVER THE INPUT: true; the input reads as it did. -/
def fnExactFromSignedSpec : ChangeSpec := { name := "fnExactFromSigned", vars := ["loop.example/g00649/impl.wordMasks"], fn := fun _ => fun
  | [d1, d2, g1] => { results := [.lit (.bool true)], args := [d1, d2], vars := [g1] }
  | _ => none }
def fnExactFromSignedRow : OpenClaim := { program := "ythfbkegcbajkhaadoor", sum := "da95517765bdf4b2e60a867d9b9d87ebe5f1abbc8042b2705685d03976d89b0c", func := "loop.example/g00649/laws.FnExactFromSigned", spec := "fnExactFromSigned", named := ["loop.example/g00649/impl.wordMasks"], apart := false, laid := [("loop.example/g00649/impl.wordMasks", laid_loop_example_g00649_impl_wordMasks)] }
def FnExactFromSignedSaid : Prop := fnExactFromSignedRow.holds Tryd.pinned (OpenSpec.ofChange fnExactFromSignedSpec)

/-- ITS FALSE NEIGHBOUR: 'it returns false'. Refute it at one input. -/
def fnExactFromSignedWrong : ChangeSpec := { name := "fnExactFromSigned", vars := ["loop.example/g00649/impl.wordMasks"], fn := fun _ => fun
  | [d1, d2, g1] => { results := [.lit (.bool false)], args := [d1, d2], vars := [g1] }
  | _ => none }
def FnExactFromSignedWrongFalsely : Prop := fnExactFromSignedRow.holds Tryd.pinned (OpenSpec.ofChange fnExactFromSignedWrong)

/-- 'laws.FnExactLessSigned': WHATEVER THE INPUT: true; the input reads as it did. -/
def fnExactLessSignedSpec : ChangeSpec := { name := "fnExactLessSigned", vars := ["loop.example/g00649/impl.wordMasks"], fn := fun _ => fun
  | [d1, d2, d3, g1] => { results := [.lit (.bool true)], args := [d1, d2, d3], vars := [g1] }
  | _ => none }
def fnExactLessSignedRow : OpenClaim := { program := "ythfbkegcbajkhaadoor", sum := "da95517765bdf4b2e60a867d9b9d87ebe5f1abbc8042b2705685d03976d89b0c", func := "loop.example/g00649/laws.FnExactLessSigned", spec := "fnExactLessSigned", named := ["loop.example/g00649/impl.wordMasks"], apart := false, laid := [("loop.example/g00649/impl.wordMasks", laid_loop_example_g00649_impl_wordMasks)] }
def FnExactLessSignedSaid : Prop := fnExactLessSignedRow.holds Tryd.pinned (OpenSpec.ofChange fnExactLessSignedSpec)

/-- ITS FALSE NEIGHBOUR: 'it returns false'. Refute it at one input. -/
def fnExactLessSignedWrong : ChangeSpec := { name := "fnExactLessSigned", vars := ["loop.example/g00649/impl.wordMasks"], fn := fun _ => fun
  | [d1, d2, d3, g1] => { results := [.lit (.bool false)], args := [d1, d2, d3], vars := [g1] }
  | _ => none }
def FnExactLessSignedWrongFalsely : Prop := fnExactLessSignedRow.holds Tryd.pinned (OpenSpec.ofChange fnExactLessSignedWrong)

/- THE SECOND FORM. 'bulk': how many values and letters a reading holds, each counted each time it is reached (what is shared counts as often as it is met; a slice's spare places count too). A statement '..UptoSaid' is the law's where the arguments, and the package variables that the reading takes, are together of bulk at most 1048576: NARROWER than '..Said'. Prove '..Said' where nothing that the law and all that it calls make is longer than what came in: it says more and counts as full. Else prove '..UptoSaid'. A law counts once. -/
mutual
def uptoBulk {H : Type} : DataW H → Nat
  | .lit (.string bytes) => bytes.length + 1
  | .lit _ => 1
  | .nil => 1
  | .ptr d => uptoBulk d + 1
  | .slice elems spare => uptoBulkAll elems + uptoBulkAll spare + 1
  | .agg parts => uptoBulkAll parts + 1
  | .iface _ d => uptoBulk d + 1
  | .map entries => uptoBulkEntries entries + 1
  | .held _ => 1
def uptoBulkAll {H : Type} : List (DataW H) → Nat
  | [] => 0
  | d :: r => uptoBulk d + uptoBulkAll r
def uptoBulkEntries {H : Type} : List (Lit × DataW H) → Nat
  | [] => 0
  | x :: r => uptoBulkEntry x + uptoBulkEntries r
def uptoBulkEntry {H : Type} : Lit × DataW H → Nat
  | (.string bytes, d) => bytes.length + uptoBulk d + 1
  | (_, d) => uptoBulk d + 1
 end
def uptoSmall : (H : Type) → List (DataW H) → Bool := fun _ ds => decide (uptoBulkAll ds ≤ 1048576)
def OpenSpec.upto (s : _root_.Go.ChangeSpec) : _root_.Go.OpenSpec := { _root_.Go.OpenSpec.ofChange s with cond := some uptoSmall }

/-- 'laws.FnRing', WHERE WHAT IT READS IS OF BULK AT MOST 1048576: true; the input reads as it did. -/
def fnRingUptoRow : OpenClaim := { program := "ythfbkegcbajkhaadoor", sum := "da95517765bdf4b2e60a867d9b9d87ebe5f1abbc8042b2705685d03976d89b0c", func := "loop.example/g00649/laws.FnRing", spec := "fnRing", named := ["loop.example/g00649/impl.wordMasks"], apart := false, laid := [("loop.example/g00649/impl.wordMasks", laid_loop_example_g00649_impl_wordMasks)], narrowed := true }
def FnRingUptoSaid : Prop := fnRingUptoRow.holds Tryd.pinned (OpenSpec.upto fnRingSpec)

/-- 'laws.FnDivided', WHERE WHAT IT READS IS OF BULK AT MOST 1048576: true; the input reads as it did. -/
def fnDividedUptoRow : OpenClaim := { program := "ythfbkegcbajkhaadoor", sum := "da95517765bdf4b2e60a867d9b9d87ebe5f1abbc8042b2705685d03976d89b0c", func := "loop.example/g00649/laws.FnDivided", spec := "fnDivided", named := ["loop.example/g00649/impl.wordMasks"], apart := false, laid := [("loop.example/g00649/impl.wordMasks", laid_loop_example_g00649_impl_wordMasks)], narrowed := true }
def FnDividedUptoSaid : Prop := fnDividedUptoRow.holds Tryd.pinned (OpenSpec.upto fnDividedSpec)

/-- 'laws.FnExactGoodWord', WHERE WHAT IT READS IS OF BULK AT MOST 1048576: true; the input reads as it did. -/
def fnExactGoodWordUptoRow : OpenClaim := { program := "ythfbkegcbajkhaadoor", sum := "da95517765bdf4b2e60a867d9b9d87ebe5f1abbc8042b2705685d03976d89b0c", func := "loop.example/g00649/laws.FnExactGoodWord", spec := "fnExactGoodWord", named := ["loop.example/g00649/impl.wordMasks"], apart := false, laid := [("loop.example/g00649/impl.wordMasks", laid_loop_example_g00649_impl_wordMasks)], narrowed := true }
def FnExactGoodWordUptoSaid : Prop := fnExactGoodWordUptoRow.holds Tryd.pinned (OpenSpec.upto fnExactGoodWordSpec)

/-- 'laws.FnExactCutTo', WHERE WHAT IT READS IS OF BULK AT MOST 1048576: true; the input reads as it did. -/
def fnExactCutToUptoRow : OpenClaim := { program := "ythfbkegcbajkhaadoor", sum := "da95517765bdf4b2e60a867d9b9d87ebe5f1abbc8042b2705685d03976d89b0c", func := "loop.example/g00649/laws.FnExactCutTo", spec := "fnExactCutTo", named := ["loop.example/g00649/impl.wordMasks"], apart := false, laid := [("loop.example/g00649/impl.wordMasks", laid_loop_example_g00649_impl_wordMasks)], narrowed := true }
def FnExactCutToUptoSaid : Prop := fnExactCutToUptoRow.holds Tryd.pinned (OpenSpec.upto fnExactCutToSpec)

/-- 'laws.FnExactAddWord', WHERE WHAT IT READS IS OF BULK AT MOST 1048576: true; the input reads as it did. -/
def fnExactAddWordUptoRow : OpenClaim := { program := "ythfbkegcbajkhaadoor", sum := "da95517765bdf4b2e60a867d9b9d87ebe5f1abbc8042b2705685d03976d89b0c", func := "loop.example/g00649/laws.FnExactAddWord", spec := "fnExactAddWord", named := ["loop.example/g00649/impl.wordMasks"], apart := false, laid := [("loop.example/g00649/impl.wordMasks", laid_loop_example_g00649_impl_wordMasks)], narrowed := true }
def FnExactAddWordUptoSaid : Prop := fnExactAddWordUptoRow.holds Tryd.pinned (OpenSpec.upto fnExactAddWordSpec)

/-- 'laws.FnExactSubWord', WHERE WHAT IT READS IS OF BULK AT MOST 1048576: true; the input reads as it did. -/
def fnExactSubWordUptoRow : OpenClaim := { program := "ythfbkegcbajkhaadoor", sum := "da95517765bdf4b2e60a867d9b9d87ebe5f1abbc8042b2705685d03976d89b0c", func := "loop.example/g00649/laws.FnExactSubWord", spec := "fnExactSubWord", named := ["loop.example/g00649/impl.wordMasks"], apart := false, laid := [("loop.example/g00649/impl.wordMasks", laid_loop_example_g00649_impl_wordMasks)], narrowed := true }
def FnExactSubWordUptoSaid : Prop := fnExactSubWordUptoRow.holds Tryd.pinned (OpenSpec.upto fnExactSubWordSpec)

/-- 'laws.FnExactMulWord', WHERE WHAT IT READS IS OF BULK AT MOST 1048576: true; the input reads as it did. -/
def fnExactMulWordUptoRow : OpenClaim := { program := "ythfbkegcbajkhaadoor", sum := "da95517765bdf4b2e60a867d9b9d87ebe5f1abbc8042b2705685d03976d89b0c", func := "loop.example/g00649/laws.FnExactMulWord", spec := "fnExactMulWord", named := ["loop.example/g00649/impl.wordMasks"], apart := false, laid := [("loop.example/g00649/impl.wordMasks", laid_loop_example_g00649_impl_wordMasks)], narrowed := true }
def FnExactMulWordUptoSaid : Prop := fnExactMulWordUptoRow.holds Tryd.pinned (OpenSpec.upto fnExactMulWordSpec)

/-- 'laws.FnExactDivWord', WHERE WHAT IT READS IS OF BULK AT MOST 1048576: true; the input reads as it did. -/
def fnExactDivWordUptoRow : OpenClaim := { program := "ythfbkegcbajkhaadoor", sum := "da95517765bdf4b2e60a867d9b9d87ebe5f1abbc8042b2705685d03976d89b0c", func := "loop.example/g00649/laws.FnExactDivWord", spec := "fnExactDivWord", named := ["loop.example/g00649/impl.wordMasks"], apart := false, laid := [("loop.example/g00649/impl.wordMasks", laid_loop_example_g00649_impl_wordMasks)], narrowed := true }
def FnExactDivWordUptoSaid : Prop := fnExactDivWordUptoRow.holds Tryd.pinned (OpenSpec.upto fnExactDivWordSpec)

/-- 'laws.FnExactShiftWord', WHERE WHAT IT READS IS OF BULK AT MOST 1048576: true; the input reads as it did. -/
def fnExactShiftWordUptoRow : OpenClaim := { program := "ythfbkegcbajkhaadoor", sum := "da95517765bdf4b2e60a867d9b9d87ebe5f1abbc8042b2705685d03976d89b0c", func := "loop.example/g00649/laws.FnExactShiftWord", spec := "fnExactShiftWord", named := ["loop.example/g00649/impl.wordMasks"], apart := false, laid := [("loop.example/g00649/impl.wordMasks", laid_loop_example_g00649_impl_wordMasks)], narrowed := true }
def FnExactShiftWordUptoSaid : Prop := fnExactShiftWordUptoRow.holds Tryd.pinned (OpenSpec.upto fnExactShiftWordSpec)

/-- 'laws.FnExactFlipWord', WHERE WHAT IT READS IS OF BULK AT MOST 1048576: true; the input reads as it did. -/
def fnExactFlipWordUptoRow : OpenClaim := { program := "ythfbkegcbajkhaadoor", sum := "da95517765bdf4b2e60a867d9b9d87ebe5f1abbc8042b2705685d03976d89b0c", func := "loop.example/g00649/laws.FnExactFlipWord", spec := "fnExactFlipWord", named := ["loop.example/g00649/impl.wordMasks"], apart := false, laid := [("loop.example/g00649/impl.wordMasks", laid_loop_example_g00649_impl_wordMasks)], narrowed := true }
def FnExactFlipWordUptoSaid : Prop := fnExactFlipWordUptoRow.holds Tryd.pinned (OpenSpec.upto fnExactFlipWordSpec)

/-- 'laws.FnExactSignedOf', WHERE WHAT IT READS IS OF BULK AT MOST 1048576: true; the input reads as it did. -/
def fnExactSignedOfUptoRow : OpenClaim := { program := "ythfbkegcbajkhaadoor", sum := "da95517765bdf4b2e60a867d9b9d87ebe5f1abbc8042b2705685d03976d89b0c", func := "loop.example/g00649/laws.FnExactSignedOf", spec := "fnExactSignedOf", named := ["loop.example/g00649/impl.wordMasks"], apart := false, laid := [("loop.example/g00649/impl.wordMasks", laid_loop_example_g00649_impl_wordMasks)], narrowed := true }
def FnExactSignedOfUptoSaid : Prop := fnExactSignedOfUptoRow.holds Tryd.pinned (OpenSpec.upto fnExactSignedOfSpec)

/-- 'laws.FnExactFromSigned', WHERE WHAT IT READS IS OF BULK AT MOST 1048576: true; the input reads as it did. -/
def fnExactFromSignedUptoRow : OpenClaim := { program := "ythfbkegcbajkhaadoor", sum := "da95517765bdf4b2e60a867d9b9d87ebe5f1abbc8042b2705685d03976d89b0c", func := "loop.example/g00649/laws.FnExactFromSigned", spec := "fnExactFromSigned", named := ["loop.example/g00649/impl.wordMasks"], apart := false, laid := [("loop.example/g00649/impl.wordMasks", laid_loop_example_g00649_impl_wordMasks)], narrowed := true }
def FnExactFromSignedUptoSaid : Prop := fnExactFromSignedUptoRow.holds Tryd.pinned (OpenSpec.upto fnExactFromSignedSpec)

/-- 'laws.FnExactLessSigned', WHERE WHAT IT READS IS OF BULK AT MOST 1048576: true; the input reads as it did. -/
def fnExactLessSignedUptoRow : OpenClaim := { program := "ythfbkegcbajkhaadoor", sum := "da95517765bdf4b2e60a867d9b9d87ebe5f1abbc8042b2705685d03976d89b0c", func := "loop.example/g00649/laws.FnExactLessSigned", spec := "fnExactLessSigned", named := ["loop.example/g00649/impl.wordMasks"], apart := false, laid := [("loop.example/g00649/impl.wordMasks", laid_loop_example_g00649_impl_wordMasks)], narrowed := true }
def FnExactLessSignedUptoSaid : Prop := fnExactLessSignedUptoRow.holds Tryd.pinned (OpenSpec.upto fnExactLessSignedSpec)

end Rows
end Go.Proofs.YthfbkegcbajkhaaDoor
