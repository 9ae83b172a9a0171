/-
  NARROWER THAN 'FOR EVERY INPUT', by the rows' own cells (each row's printed sentence says how): FnReadBack: laid · FnPrintedBack: laid.
  DERIVED. THE GIVEN ROWS OF THIS SEAT. 2 by the template 'for every input the law returns true; each argument reads behind the call as it read before'; 0 by the template 'total and deterministic' (their statements: YtkfplichekebdaaGreatDoorTotals.lean).
  GIVEN WITH THE SEED: the statements are not yours to turn. If you find one false, say at which input.
  Laid BY PROGRAM, IN A SANDBOX (cutbox-rows.mjs): the forced cells as the released guide's own fill.sh prints them over the translation 6c8bbcaa352687ea… (all of the seat's roots in one cut). By AI agents, Wed Nov 11 2026. No macro, syntax, notation, axiom, sorry.
-/
import Derived.Test.YtkfplichekebdaaGreatDoorChecked
import GoSem.Claim
import GoSem.ClaimJoined
import GoSem.ClaimMapViews
import Derived.JoinedTies
import Derived.KernelRfl
namespace Go.Proofs.YtkfplichekebdaaGreatDoor
/- THE CELL 'sum', in the pinned program and in every row, IS THE sha256 OF THE DUMP (.gsa) THAT YtkfplichekebdaaGreatDoorProg.lean LOADS. Nothing in Lean hashes anything: it is a label: what it is worth is what the hold of that sum in a sandbox is worth. -/
noncomputable def Tryz.pinned : Pinned := { name := "ytkfplichekebdaagreatdoor", sum := "6c8bbcaa352687eaee18d3b8407a1c5f8e9866f594a49dba18b5b400c0646ecc", checked := Tryz.checked }
namespace Rows
def none {H : Type} : Left H := { results := [], args := [] }

/- WHAT THE LISTED PACKAGE-LEVEL VARIABLES READ AS WHEN THE CALL BEGINS. Each datum BY PROGRAM (the guide's laid-datum.mjs) off the statement by which the dump's own 'gosem.cut.vars' lays the variable. In a bare row this is a premise. The card (YtkfplichekebdaaGreatDoorCards.lean) ties it to the program's text. -/
def laid_math_bits_deBruijn32tab {H : Type} : DataW H := .agg [.lit (.int .u8 0), .lit (.int .u8 1), .lit (.int .u8 28), .lit (.int .u8 2), .lit (.int .u8 29), .lit (.int .u8 14), .lit (.int .u8 24), .lit (.int .u8 3), .lit (.int .u8 30), .lit (.int .u8 22), .lit (.int .u8 20), .lit (.int .u8 15), .lit (.int .u8 25), .lit (.int .u8 17), .lit (.int .u8 4), .lit (.int .u8 8), .lit (.int .u8 31), .lit (.int .u8 27), .lit (.int .u8 13), .lit (.int .u8 23), .lit (.int .u8 21), .lit (.int .u8 19), .lit (.int .u8 16), .lit (.int .u8 7), .lit (.int .u8 26), .lit (.int .u8 12), .lit (.int .u8 18), .lit (.int .u8 6), .lit (.int .u8 11), .lit (.int .u8 5), .lit (.int .u8 10), .lit (.int .u8 9)]
def laid_math_bits_deBruijn64tab {H : Type} : DataW H := .agg [.lit (.int .u8 0), .lit (.int .u8 1), .lit (.int .u8 56), .lit (.int .u8 2), .lit (.int .u8 57), .lit (.int .u8 49), .lit (.int .u8 28), .lit (.int .u8 3), .lit (.int .u8 61), .lit (.int .u8 58), .lit (.int .u8 42), .lit (.int .u8 50), .lit (.int .u8 38), .lit (.int .u8 29), .lit (.int .u8 17), .lit (.int .u8 4), .lit (.int .u8 62), .lit (.int .u8 47), .lit (.int .u8 59), .lit (.int .u8 36), .lit (.int .u8 45), .lit (.int .u8 43), .lit (.int .u8 51), .lit (.int .u8 22), .lit (.int .u8 53), .lit (.int .u8 39), .lit (.int .u8 33), .lit (.int .u8 30), .lit (.int .u8 24), .lit (.int .u8 18), .lit (.int .u8 12), .lit (.int .u8 5), .lit (.int .u8 63), .lit (.int .u8 55), .lit (.int .u8 48), .lit (.int .u8 27), .lit (.int .u8 60), .lit (.int .u8 41), .lit (.int .u8 37), .lit (.int .u8 16), .lit (.int .u8 46), .lit (.int .u8 35), .lit (.int .u8 44), .lit (.int .u8 21), .lit (.int .u8 52), .lit (.int .u8 32), .lit (.int .u8 23), .lit (.int .u8 11), .lit (.int .u8 54), .lit (.int .u8 26), .lit (.int .u8 40), .lit (.int .u8 15), .lit (.int .u8 34), .lit (.int .u8 20), .lit (.int .u8 31), .lit (.int .u8 10), .lit (.int .u8 25), .lit (.int .u8 14), .lit (.int .u8 19), .lit (.int .u8 9), .lit (.int .u8 13), .lit (.int .u8 8), .lit (.int .u8 7), .lit (.int .u8 6)]
def laid_internal_strconv_uint64pow10 {H : Type} : DataW H := .agg [.lit (.int .u64 1), .lit (.int .u64 10), .lit (.int .u64 100), .lit (.int .u64 1000), .lit (.int .u64 10000), .lit (.int .u64 100000), .lit (.int .u64 1000000), .lit (.int .u64 10000000), .lit (.int .u64 100000000), .lit (.int .u64 1000000000), .lit (.int .u64 10000000000), .lit (.int .u64 100000000000), .lit (.int .u64 1000000000000), .lit (.int .u64 10000000000000), .lit (.int .u64 100000000000000), .lit (.int .u64 1000000000000000), .lit (.int .u64 10000000000000000), .lit (.int .u64 100000000000000000), .lit (.int .u64 1000000000000000000), .lit (.int .u64 10000000000000000000)]
def laid_strconv_ErrRange {H : Type} : DataW H := .iface "*errors.errorString" (.ptr (.agg [.lit (.string [118, 97, 108, 117, 101, 32, 111, 117, 116, 32, 111, 102, 32, 114, 97, 110, 103, 101])]))
def laid_strconv_ErrSyntax {H : Type} : DataW H := .iface "*errors.errorString" (.ptr (.agg [.lit (.string [105, 110, 118, 97, 108, 105, 100, 32, 115, 121, 110, 116, 97, 120])]))
def laid_loop_example_g00649_impl_wordMasks {H : Type} : DataW H := .agg [.lit (.int .u64 0), .lit (.int .u64 1), .lit (.int .u64 3), .lit (.int .u64 7), .lit (.int .u64 15), .lit (.int .u64 31), .lit (.int .u64 63), .lit (.int .u64 127), .lit (.int .u64 255), .lit (.int .u64 511), .lit (.int .u64 1023), .lit (.int .u64 2047), .lit (.int .u64 4095), .lit (.int .u64 8191), .lit (.int .u64 16383), .lit (.int .u64 32767), .lit (.int .u64 65535), .lit (.int .u64 131071), .lit (.int .u64 262143), .lit (.int .u64 524287), .lit (.int .u64 1048575), .lit (.int .u64 2097151), .lit (.int .u64 4194303), .lit (.int .u64 8388607), .lit (.int .u64 16777215), .lit (.int .u64 33554431), .lit (.int .u64 67108863), .lit (.int .u64 134217727), .lit (.int .u64 268435455), .lit (.int .u64 536870911), .lit (.int .u64 1073741823), .lit (.int .u64 2147483647), .lit (.int .u64 4294967295), .lit (.int .u64 8589934591), .lit (.int .u64 17179869183), .lit (.int .u64 34359738367), .lit (.int .u64 68719476735), .lit (.int .u64 137438953471), .lit (.int .u64 274877906943), .lit (.int .u64 549755813887), .lit (.int .u64 1099511627775), .lit (.int .u64 2199023255551), .lit (.int .u64 4398046511103), .lit (.int .u64 8796093022207), .lit (.int .u64 17592186044415), .lit (.int .u64 35184372088831), .lit (.int .u64 70368744177663), .lit (.int .u64 140737488355327), .lit (.int .u64 281474976710655), .lit (.int .u64 562949953421311), .lit (.int .u64 1125899906842623), .lit (.int .u64 2251799813685247), .lit (.int .u64 4503599627370495), .lit (.int .u64 9007199254740991), .lit (.int .u64 18014398509481983), .lit (.int .u64 36028797018963967), .lit (.int .u64 72057594037927935), .lit (.int .u64 144115188075855871), .lit (.int .u64 288230376151711743), .lit (.int .u64 576460752303423487), .lit (.int .u64 1152921504606846975), .lit (.int .u64 2305843009213693951), .lit (.int .u64 4611686018427387903), .lit (.int .u64 9223372036854775807), .lit (.int .u64 18446744073709551615)]
def laid_loop_example_g00649_impl_opSigns {H : Type} : DataW H := .agg [.lit (.string []), .lit (.string []), .lit (.string []), .lit (.string [43]), .lit (.string [45]), .lit (.string [42]), .lit (.string [47]), .lit (.string [37]), .lit (.string [38]), .lit (.string [124]), .lit (.string [94]), .lit (.string [60, 60]), .lit (.string [62, 62]), .lit (.string [126]), .lit (.string [61, 61]), .lit (.string [60]), .lit (.string [60, 45]), .lit (.string [38, 38]), .lit (.string [124, 124]), .lit (.string [33]), .lit (.string [])]

/-- 'laws.FnReadBack': WHATEVER THE INPUT: true; the input reads as it did. -/
def fnReadBackSpec : ChangeSpec := { name := "fnReadBack", vars := ["loop.example/g00649/impl.wordMasks", "loop.example/g00649/impl.opSigns"], fn := fun _ => fun
  | [d1, d2, g1, g2] => { results := [.lit (.bool true)], args := [d1, d2], vars := [g1, g2] }
  | _ => none }
def fnReadBackRow : OpenClaim := { program := "ytkfplichekebdaagreatdoor", sum := "6c8bbcaa352687eaee18d3b8407a1c5f8e9866f594a49dba18b5b400c0646ecc", func := "loop.example/g00649/laws.FnReadBack", spec := "fnReadBack", recurses := true, named := ["loop.example/g00649/impl.wordMasks", "loop.example/g00649/impl.opSigns", "internal/strconv.uint64pow10", "math/bits.deBruijn32tab", "math/bits.deBruijn64tab", "strconv.ErrSyntax", "strconv.ErrRange"], apart := false, laid := [("math/bits.deBruijn32tab", laid_math_bits_deBruijn32tab), ("math/bits.deBruijn64tab", laid_math_bits_deBruijn64tab), ("internal/strconv.uint64pow10", laid_internal_strconv_uint64pow10), ("strconv.ErrRange", laid_strconv_ErrRange), ("strconv.ErrSyntax", laid_strconv_ErrSyntax), ("loop.example/g00649/impl.wordMasks", laid_loop_example_g00649_impl_wordMasks), ("loop.example/g00649/impl.opSigns", laid_loop_example_g00649_impl_opSigns)] }
def FnReadBackSaid : Prop := fnReadBackRow.holds Tryz.pinned (OpenSpec.ofChange fnReadBackSpec)

/-- ITS FALSE NEIGHBOUR: 'it returns false'. Refute it at one input. -/
def fnReadBackWrong : ChangeSpec := { name := "fnReadBack", vars := ["loop.example/g00649/impl.wordMasks", "loop.example/g00649/impl.opSigns"], fn := fun _ => fun
  | [d1, d2, g1, g2] => { results := [.lit (.bool false)], args := [d1, d2], vars := [g1, g2] }
  | _ => none }
def FnReadBackWrongFalsely : Prop := fnReadBackRow.holds Tryz.pinned (OpenSpec.ofChange fnReadBackWrong)

/-- 'laws.FnPrintedBack': WHATEVER THE INPUT: true; the input reads as it did. -/
def fnPrintedBackSpec : ChangeSpec := { name := "fnPrintedBack", vars := ["loop.example/g00649/impl.opSigns", "loop.example/g00649/impl.wordMasks"], fn := fun _ => fun
  | [d1, d2, g1, g2] => { results := [.lit (.bool true)], args := [d1, d2], vars := [g1, g2] }
  | _ => none }
def fnPrintedBackRow : OpenClaim := { program := "ytkfplichekebdaagreatdoor", sum := "6c8bbcaa352687eaee18d3b8407a1c5f8e9866f594a49dba18b5b400c0646ecc", func := "loop.example/g00649/laws.FnPrintedBack", spec := "fnPrintedBack", recurses := true, named := ["loop.example/g00649/impl.opSigns", "strconv.ErrSyntax", "strconv.ErrRange", "internal/strconv.uint64pow10", "math/bits.deBruijn32tab", "math/bits.deBruijn64tab", "loop.example/g00649/impl.wordMasks"], apart := false, laid := [("math/bits.deBruijn32tab", laid_math_bits_deBruijn32tab), ("math/bits.deBruijn64tab", laid_math_bits_deBruijn64tab), ("internal/strconv.uint64pow10", laid_internal_strconv_uint64pow10), ("strconv.ErrRange", laid_strconv_ErrRange), ("strconv.ErrSyntax", laid_strconv_ErrSyntax), ("loop.example/g00649/impl.wordMasks", laid_loop_example_g00649_impl_wordMasks), ("loop.example/g00649/impl.opSigns", laid_loop_example_g00649_impl_opSigns)] }
def FnPrintedBackSaid : Prop := fnPrintedBackRow.holds Tryz.pinned (OpenSpec.ofChange fnPrintedBackSpec)

/-- ITS FALSE NEIGHBOUR: 'it returns false'. Refute it at one input. -/
def fnPrintedBackWrong : ChangeSpec := { name := "fnPrintedBack", vars := ["loop.example/g00649/impl.opSigns", "loop.example/g00649/impl.wordMasks"], fn := fun _ => fun
  | [d1, d2, g1, g2] => { results := [.lit (.bool false)], args := [d1, d2], vars := [g1, g2] }
  | _ => none }
def FnPrintedBackWrongFalsely : Prop := fnPrintedBackRow.holds Tryz.pinned (OpenSpec.ofChange fnPrintedBackWrong)

/- THE SECOND FORM. 'bulk': how many values and letters a reading holds, each counted each time it is reached (what is shared counts as often as it is met; a slice's spare places count too). A statement '..UptoSaid' is the law's where the arguments, and the package variables that the reading takes, are together of bulk at most 1048576: NARROWER than '..Said'. Prove '..Said' where nothing that the law and all that it calls make is longer than what came in: it says more and counts as full. Else prove '..UptoSaid'. A law counts once. -/
mutual
def uptoBulk {H : Type} : DataW H → Nat
  | .lit (.string bytes) => bytes.length + 1
  | .lit _ => 1
  | .nil => 1
  | .ptr d => uptoBulk d + 1
  | .slice elems spare => uptoBulkAll elems + uptoBulkAll spare + 1
  | .agg parts => uptoBulkAll parts + 1
  | .iface _ d => uptoBulk d + 1
  | .map entries => uptoBulkEntries entries + 1
  | .held _ => 1
def uptoBulkAll {H : Type} : List (DataW H) → Nat
  | [] => 0
  | d :: r => uptoBulk d + uptoBulkAll r
def uptoBulkEntries {H : Type} : List (Lit × DataW H) → Nat
  | [] => 0
  | x :: r => uptoBulkEntry x + uptoBulkEntries r
def uptoBulkEntry {H : Type} : Lit × DataW H → Nat
  | (.string bytes, d) => bytes.length + uptoBulk d + 1
  | (_, d) => uptoBulk d + 1
 end
def uptoSmall : (H : Type) → List (DataW H) → Bool := fun _ ds => decide (uptoBulkAll ds ≤ 1048576)
def OpenSpec.upto (s : _root_.Go.ChangeSpec) : _root_.Go.OpenSpec := { _root_.Go.OpenSpec.ofChange s with cond := some uptoSmall }

/-- 'laws.FnReadBack', WHERE WHAT IT READS IS OF BULK AT MOST 1048576: true; the input reads as it did. -/
def fnReadBackUptoRow : OpenClaim := { program := "ytkfplichekebdaagreatdoor", sum := "6c8bbcaa352687eaee18d3b8407a1c5f8e9866f594a49dba18b5b400c0646ecc", func := "loop.example/g00649/laws.FnReadBack", spec := "fnReadBack", recurses := true, named := ["loop.example/g00649/impl.wordMasks", "loop.example/g00649/impl.opSigns", "internal/strconv.uint64pow10", "math/bits.deBruijn32tab", "math/bits.deBruijn64tab", "strconv.ErrSyntax", "strconv.ErrRange"], apart := false, laid := [("math/bits.deBruijn32tab", laid_math_bits_deBruijn32tab), ("math/bits.deBruijn64tab", laid_math_bits_deBruijn64tab), ("internal/strconv.uint64pow10", laid_internal_strconv_uint64pow10), ("strconv.ErrRange", laid_strconv_ErrRange), ("strconv.ErrSyntax", laid_strconv_ErrSyntax), ("loop.example/g00649/impl.wordMasks", laid_loop_example_g00649_impl_wordMasks), ("loop.example/g00649/impl.opSigns", laid_loop_example_g00649_impl_opSigns)], narrowed := true }
def FnReadBackUptoSaid : Prop := fnReadBackUptoRow.holds Tryz.pinned (OpenSpec.upto fnReadBackSpec)

/-- 'laws.FnPrintedBack', WHERE WHAT IT READS IS OF BULK AT MOST 1048576: true; the input reads as it did. -/
def fnPrintedBackUptoRow : OpenClaim := { program := "ytkfplichekebdaagreatdoor", sum := "6c8bbcaa352687eaee18d3b8407a1c5f8e9866f594a49dba18b5b400c0646ecc", func := "loop.example/g00649/laws.FnPrintedBack", spec := "fnPrintedBack", recurses := true, named := ["loop.example/g00649/impl.opSigns", "strconv.ErrSyntax", "strconv.ErrRange", "internal/strconv.uint64pow10", "math/bits.deBruijn32tab", "math/bits.deBruijn64tab", "loop.example/g00649/impl.wordMasks"], apart := false, laid := [("math/bits.deBruijn32tab", laid_math_bits_deBruijn32tab), ("math/bits.deBruijn64tab", laid_math_bits_deBruijn64tab), ("internal/strconv.uint64pow10", laid_internal_strconv_uint64pow10), ("strconv.ErrRange", laid_strconv_ErrRange), ("strconv.ErrSyntax", laid_strconv_ErrSyntax), ("loop.example/g00649/impl.wordMasks", laid_loop_example_g00649_impl_wordMasks), ("loop.example/g00649/impl.opSigns", laid_loop_example_g00649_impl_opSigns)], narrowed := true }
def FnPrintedBackUptoSaid : Prop := fnPrintedBackUptoRow.holds Tryz.pinned (OpenSpec.upto fnPrintedBackSpec)

end Rows
end Go.Proofs.YtkfplichekebdaaGreatDoor
