/-
  NARROWER THAN 'FOR EVERY INPUT', by the rows' own cells (each row's printed sentence says how): FnPlayed: laid · FnCommute: laid · FnNumbered: laid · FnExactStarts: laid.
  DERIVED. THE GIVEN ROWS OF THIS SEAT. 4 by the template 'for every input the law returns true; each argument reads behind the call as it read before'; 0 by the template 'total and deterministic' (their statements: YtmhpnkfibecnmaaDoorTotals.lean).
  GIVEN WITH THE SEED: the statements are not yours to turn. If you find one false, say at which input.
  Laid BY PROGRAM, IN A SANDBOX (cutbox-rows.mjs): the forced cells as the released guide's own fill.sh prints them over the translation f8ce0c3ef2d087ac… (all of the seat's roots in one cut). By AI agents, Wed Nov 11 2026. No macro, syntax, notation, axiom, sorry.
-/
import Derived.Test.YtmhpnkfibecnmaaDoorChecked
import GoSem.Claim
import GoSem.ClaimJoined
import GoSem.ClaimMapViews
import Derived.JoinedTies
import Derived.KernelRfl
namespace Go.Proofs.YtmhpnkfibecnmaaDoor
/- THE CELL 'sum', in the pinned program and in every row, IS THE sha256 OF THE DUMP (.gsa) THAT YtmhpnkfibecnmaaDoorProg.lean LOADS. Nothing in Lean hashes anything: it is a label: what it is worth is what the hold of that sum in a sandbox is worth. -/
noncomputable def Tryd.pinned : Pinned := { name := "ytmhpnkfibecnmaadoor", sum := "f8ce0c3ef2d087ac0563415a8c7c5a3f1b4bc7ba18fbe81b2e029135b3fe5ab0", checked := Tryd.checked }
namespace Rows
def none {H : Type} : Left H := { results := [], args := [] }

/- WHAT THE LISTED PACKAGE-LEVEL VARIABLES READ AS WHEN THE CALL BEGINS. Each datum BY PROGRAM (the guide's laid-datum.mjs) off the statement by which the dump's own 'gosem.cut.vars' lays the variable. In a bare row this is a premise. The card (YtmhpnkfibecnmaaDoorCards.lean) ties it to the program's text. -/
def laid_loop_example_g00649_impl_wordMasks {H : Type} : DataW H := .agg [.lit (.int .u64 0), .lit (.int .u64 1), .lit (.int .u64 3), .lit (.int .u64 7), .lit (.int .u64 15), .lit (.int .u64 31), .lit (.int .u64 63), .lit (.int .u64 127), .lit (.int .u64 255), .lit (.int .u64 511), .lit (.int .u64 1023), .lit (.int .u64 2047), .lit (.int .u64 4095), .lit (.int .u64 8191), .lit (.int .u64 16383), .lit (.int .u64 32767), .lit (.int .u64 65535), .lit (.int .u64 131071), .lit (.int .u64 262143), .lit (.int .u64 524287), .lit (.int .u64 1048575), .lit (.int .u64 2097151), .lit (.int .u64 4194303), .lit (.int .u64 8388607), .lit (.int .u64 16777215), .lit (.int .u64 33554431), .lit (.int .u64 67108863), .lit (.int .u64 134217727), .lit (.int .u64 268435455), .lit (.int .u64 536870911), .lit (.int .u64 1073741823), .lit (.int .u64 2147483647), .lit (.int .u64 4294967295), .lit (.int .u64 8589934591), .lit (.int .u64 17179869183), .lit (.int .u64 34359738367), .lit (.int .u64 68719476735), .lit (.int .u64 137438953471), .lit (.int .u64 274877906943), .lit (.int .u64 549755813887), .lit (.int .u64 1099511627775), .lit (.int .u64 2199023255551), .lit (.int .u64 4398046511103), .lit (.int .u64 8796093022207), .lit (.int .u64 17592186044415), .lit (.int .u64 35184372088831), .lit (.int .u64 70368744177663), .lit (.int .u64 140737488355327), .lit (.int .u64 281474976710655), .lit (.int .u64 562949953421311), .lit (.int .u64 1125899906842623), .lit (.int .u64 2251799813685247), .lit (.int .u64 4503599627370495), .lit (.int .u64 9007199254740991), .lit (.int .u64 18014398509481983), .lit (.int .u64 36028797018963967), .lit (.int .u64 72057594037927935), .lit (.int .u64 144115188075855871), .lit (.int .u64 288230376151711743), .lit (.int .u64 576460752303423487), .lit (.int .u64 1152921504606846975), .lit (.int .u64 2305843009213693951), .lit (.int .u64 4611686018427387903), .lit (.int .u64 9223372036854775807), .lit (.int .u64 18446744073709551615)]

/-- 'laws.FnPlayed': WHATEVER THE INPUT: true; the input reads as it did. -/
def fnPlayedSpec : ChangeSpec := { name := "fnPlayed", vars := ["loop.example/g00649/impl.wordMasks"], fn := fun _ => fun
  | [d1, d2, g1] => { results := [.lit (.bool true)], args := [d1, d2], vars := [g1] }
  | _ => none }
def fnPlayedRow : OpenClaim := { program := "ytmhpnkfibecnmaadoor", sum := "f8ce0c3ef2d087ac0563415a8c7c5a3f1b4bc7ba18fbe81b2e029135b3fe5ab0", func := "loop.example/g00649/laws.FnPlayed", spec := "fnPlayed", recurses := true, named := ["loop.example/g00649/impl.wordMasks"], apart := false, laid := [("loop.example/g00649/impl.wordMasks", laid_loop_example_g00649_impl_wordMasks)] }
def FnPlayedSaid : Prop := fnPlayedRow.holds Tryd.pinned (OpenSpec.ofChange fnPlayedSpec)

/-- ITS FALSE NEIGHBOUR: 'it returns false'. Refute it at one input. -/
def fnPlayedWrong : ChangeSpec := { name := "fnPlayed", vars := ["loop.example/g00649/impl.wordMasks"], fn := fun _ => fun
  | [d1, d2, g1] => { results := [.lit (.bool false)], args := [d1, d2], vars := [g1] }
  | _ => none }
def FnPlayedWrongFalsely : Prop := fnPlayedRow.holds Tryd.pinned (OpenSpec.ofChange fnPlayedWrong)

/-- 'laws.FnCommute': WHATEVER THE INPUT: true; the input reads as it did. -/
def fnCommuteSpec : ChangeSpec := { name := "fnCommute", vars := ["loop.example/g00649/impl.wordMasks"], fn := fun _ => fun
  | [d1, d2, g1] => { results := [.lit (.bool true)], args := [d1, d2], vars := [g1] }
  | _ => none }
def fnCommuteRow : OpenClaim := { program := "ytmhpnkfibecnmaadoor", sum := "f8ce0c3ef2d087ac0563415a8c7c5a3f1b4bc7ba18fbe81b2e029135b3fe5ab0", func := "loop.example/g00649/laws.FnCommute", spec := "fnCommute", recurses := true, named := ["loop.example/g00649/impl.wordMasks"], apart := false, laid := [("loop.example/g00649/impl.wordMasks", laid_loop_example_g00649_impl_wordMasks)] }
def FnCommuteSaid : Prop := fnCommuteRow.holds Tryd.pinned (OpenSpec.ofChange fnCommuteSpec)

/-- ITS FALSE NEIGHBOUR: 'it returns false'. Refute it at one input. -/
def fnCommuteWrong : ChangeSpec := { name := "fnCommute", vars := ["loop.example/g00649/impl.wordMasks"], fn := fun _ => fun
  | [d1, d2, g1] => { results := [.lit (.bool false)], args := [d1, d2], vars := [g1] }
  | _ => none }
def FnCommuteWrongFalsely : Prop := fnCommuteRow.holds Tryd.pinned (OpenSpec.ofChange fnCommuteWrong)

/-- 'laws.FnNumbered': WHATEVER THE INPUT: true; the input reads as it did. -/
def fnNumberedSpec : ChangeSpec := { name := "fnNumbered", vars := ["loop.example/g00649/impl.wordMasks"], fn := fun _ => fun
  | [d1, d2, g1] => { results := [.lit (.bool true)], args := [d1, d2], vars := [g1] }
  | _ => none }
def fnNumberedRow : OpenClaim := { program := "ytmhpnkfibecnmaadoor", sum := "f8ce0c3ef2d087ac0563415a8c7c5a3f1b4bc7ba18fbe81b2e029135b3fe5ab0", func := "loop.example/g00649/laws.FnNumbered", spec := "fnNumbered", recurses := true, named := ["loop.example/g00649/impl.wordMasks"], apart := false, laid := [("loop.example/g00649/impl.wordMasks", laid_loop_example_g00649_impl_wordMasks)] }
def FnNumberedSaid : Prop := fnNumberedRow.holds Tryd.pinned (OpenSpec.ofChange fnNumberedSpec)

/-- ITS FALSE NEIGHBOUR: 'it returns false'. Refute it at one input. -/
def fnNumberedWrong : ChangeSpec := { name := "fnNumbered", vars := ["loop.example/g00649/impl.wordMasks"], fn := fun _ => fun
  | [d1, d2, g1] => { results := [.lit (.bool false)], args := [d1, d2], vars := [g1] }
  | _ => none }
def FnNumberedWrongFalsely : Prop := fnNumberedRow.holds Tryd.pinned (OpenSpec.ofChange fnNumberedWrong)

/-- 'laws.FnExactStarts': WHATEVER THE INPUT: true; the input reads as it did. -/
def fnExactStartsSpec : ChangeSpec := { name := "fnExactStarts", vars := ["loop.example/g00649/impl.wordMasks"], fn := fun _ => fun
  | [d, g1] => { results := [.lit (.bool true)], args := [d], vars := [g1] }
  | _ => none }
def fnExactStartsRow : OpenClaim := { program := "ytmhpnkfibecnmaadoor", sum := "f8ce0c3ef2d087ac0563415a8c7c5a3f1b4bc7ba18fbe81b2e029135b3fe5ab0", func := "loop.example/g00649/laws.FnExactStarts", spec := "fnExactStarts", unfollowed := true, recurses := true, named := ["loop.example/g00649/impl.wordMasks"], apart := false, laid := [("loop.example/g00649/impl.wordMasks", laid_loop_example_g00649_impl_wordMasks)] }
def FnExactStartsSaid : Prop := fnExactStartsRow.holds Tryd.pinned (OpenSpec.ofChange fnExactStartsSpec)

/-- ITS FALSE NEIGHBOUR: 'it returns false'. Refute it at one input. -/
def fnExactStartsWrong : ChangeSpec := { name := "fnExactStarts", vars := ["loop.example/g00649/impl.wordMasks"], fn := fun _ => fun
  | [d, g1] => { results := [.lit (.bool false)], args := [d], vars := [g1] }
  | _ => none }
def FnExactStartsWrongFalsely : Prop := fnExactStartsRow.holds Tryd.pinned (OpenSpec.ofChange fnExactStartsWrong)

/- THE SECOND FORM. 'bulk': how many values and letters a reading holds, each counted each time it is reached (what is shared counts as often as it is met; a slice's spare places count too). A statement '..UptoSaid' is the law's where the arguments, and the package variables that the reading takes, are together of bulk at most 1048576: NARROWER than '..Said'. Prove '..Said' where nothing that the law and all that it calls make is longer than what came in: it says more and counts as full. Else prove '..UptoSaid'. A law counts once. -/
mutual
def uptoBulk {H : Type} : DataW H → Nat
  | .lit (.string bytes) => bytes.length + 1
  | .lit _ => 1
  | .nil => 1
  | .ptr d => uptoBulk d + 1
  | .slice elems spare => uptoBulkAll elems + uptoBulkAll spare + 1
  | .agg parts => uptoBulkAll parts + 1
  | .iface _ d => uptoBulk d + 1
  | .map entries => uptoBulkEntries entries + 1
  | .held _ => 1
def uptoBulkAll {H : Type} : List (DataW H) → Nat
  | [] => 0
  | d :: r => uptoBulk d + uptoBulkAll r
def uptoBulkEntries {H : Type} : List (Lit × DataW H) → Nat
  | [] => 0
  | x :: r => uptoBulkEntry x + uptoBulkEntries r
def uptoBulkEntry {H : Type} : Lit × DataW H → Nat
  | (.string bytes, d) => bytes.length + uptoBulk d + 1
  | (_, d) => uptoBulk d + 1
 end
def uptoSmall : (H : Type) → List (DataW H) → Bool := fun _ ds => decide (uptoBulkAll ds ≤ 1048576)
def OpenSpec.upto (s : _root_.Go.ChangeSpec) : _root_.Go.OpenSpec := { _root_.Go.OpenSpec.ofChange s with cond := some uptoSmall }

/-- 'laws.FnPlayed', WHERE WHAT IT READS IS OF BULK AT MOST 1048576: true; the input reads as it did. -/
def fnPlayedUptoRow : OpenClaim := { program := "ytmhpnkfibecnmaadoor", sum := "f8ce0c3ef2d087ac0563415a8c7c5a3f1b4bc7ba18fbe81b2e029135b3fe5ab0", func := "loop.example/g00649/laws.FnPlayed", spec := "fnPlayed", recurses := true, named := ["loop.example/g00649/impl.wordMasks"], apart := false, laid := [("loop.example/g00649/impl.wordMasks", laid_loop_example_g00649_impl_wordMasks)], narrowed := true }
def FnPlayedUptoSaid : Prop := fnPlayedUptoRow.holds Tryd.pinned (OpenSpec.upto fnPlayedSpec)

/-- 'laws.FnCommute', WHERE WHAT IT READS IS OF BULK AT MOST 1048576: true; the input reads as it did. -/
def fnCommuteUptoRow : OpenClaim := { program := "ytmhpnkfibecnmaadoor", sum := "f8ce0c3ef2d087ac0563415a8c7c5a3f1b4bc7ba18fbe81b2e029135b3fe5ab0", func := "loop.example/g00649/laws.FnCommute", spec := "fnCommute", recurses := true, named := ["loop.example/g00649/impl.wordMasks"], apart := false, laid := [("loop.example/g00649/impl.wordMasks", laid_loop_example_g00649_impl_wordMasks)], narrowed := true }
def FnCommuteUptoSaid : Prop := fnCommuteUptoRow.holds Tryd.pinned (OpenSpec.upto fnCommuteSpec)

/-- 'laws.FnNumbered', WHERE WHAT IT READS IS OF BULK AT MOST 1048576: true; the input reads as it did. -/
def fnNumberedUptoRow : OpenClaim := { program := "ytmhpnkfibecnmaadoor", sum := "f8ce0c3ef2d087ac0563415a8c7c5a3f1b4bc7ba18fbe81b2e029135b3fe5ab0", func := "loop.example/g00649/laws.FnNumbered", spec := "fnNumbered", recurses := true, named := ["loop.example/g00649/impl.wordMasks"], apart := false, laid := [("loop.example/g00649/impl.wordMasks", laid_loop_example_g00649_impl_wordMasks)], narrowed := true }
def FnNumberedUptoSaid : Prop := fnNumberedUptoRow.holds Tryd.pinned (OpenSpec.upto fnNumberedSpec)

/-- 'laws.FnExactStarts', WHERE WHAT IT READS IS OF BULK AT MOST 1048576: true; the input reads as it did. -/
def fnExactStartsUptoRow : OpenClaim := { program := "ytmhpnkfibecnmaadoor", sum := "f8ce0c3ef2d087ac0563415a8c7c5a3f1b4bc7ba18fbe81b2e029135b3fe5ab0", func := "loop.example/g00649/laws.FnExactStarts", spec := "fnExactStarts", unfollowed := true, recurses := true, named := ["loop.example/g00649/impl.wordMasks"], apart := false, laid := [("loop.example/g00649/impl.wordMasks", laid_loop_example_g00649_impl_wordMasks)], narrowed := true }
def FnExactStartsUptoSaid : Prop := fnExactStartsUptoRow.holds Tryd.pinned (OpenSpec.upto fnExactStartsSpec)

end Rows
end Go.Proofs.YtmhpnkfibecnmaaDoor
