/-
  The walk of the exact law of NumText.
-/
import Derived.Test.YtkfplichekebdaaDoorIFmt
import Derived.Test.YtkfplichekebdaaDoorReadN
namespace Go.Proofs.YtkfplichekebdaaDoor
open Go Go.RowKit
open M
set_option linter.unusedVariables false

theorem numText_law (n : Nat) (hn : n < 18446744073709551616) (w : World) (hP : Pow w) : Calls Tryd.prog 3 #[.int .u64 n] w fun e w' => e = .returned (.bool true) ∧ Below w.heap.size w w' := by
  have g1 := sNumText_any n hn w
  have GI : Hid (∀ w1 : World, Below w.heap.size w w1 → Calls Tryd.prog 10 #[.int .u64 n] w1 fun e w' => e = .returned (tx (numL n)) ∧ Below w1.heap.size w1 w') := fun w1 hb => iNumText_any n hn w1 (hP.below hb)
  clear hP
  generalize numL n = m at *
  go_enter Tryd.func3, Tryd.ntmps3
  go_wp2_with fail
  refine g1.mono ?_
  rintro e w1 ⟨rfl, hb⟩
  have g2 := GI.out w1 hb
  have HB : Hid _ := hb
  clear g1 hb GI
  go_wp2_with fail
  refine g2.mono ?_
  rintro e w2 ⟨rfl, hb2⟩
  have HB2 : Hid (Below w.heap.size w w2) := HB.out.trans (hb2.mono HB.out.size)
  clear g2 hb2
  go_wp2_with fail
  go_ret
  exact ⟨rfl, HB2.out⟩
theorem numText_law_int (n : Int) (h0 : 0 ≤ n) (h1 : n ≤ 18446744073709551615) (w : World) (hP : Pow w) : Calls Tryd.prog 3 #[.int .u64 n] w fun e w' => e = .returned (.bool true) ∧ Below w.heap.size w w' := by
  obtain ⟨m, rfl⟩ := Int.eq_ofNat_of_zero_le h0
  exact numText_law m (by omega) w hP
end Go.Proofs.YtkfplichekebdaaDoor
