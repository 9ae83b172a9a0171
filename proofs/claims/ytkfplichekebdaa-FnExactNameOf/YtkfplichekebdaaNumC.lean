/-
  Numbers as texts: contracts.
-/
import Derived.Test.YtkfplichekebdaaNeed
import Derived.Test.YtkfplichekebdaaText
import Derived.Laws.IdiomStrings
import Derived.Deep.RegionWith
namespace Go.Proofs.Ytkfplichekebdaa
open Go Go.RowKit
open M
set_option linter.unusedVariables false

/-- a text as the program holds it -/
abbrev tx (l : Tx) : Value := .string ⟨l.toArray⟩
/-- a text of one byte, made of a new row -/
theorem conv_row (w : World) (a : Addr) (x : Int) (b : UInt8) (hx : x = (b.toNat : Int)) (hc : w.cell? a = some (.int .u8 x)) :
    (convert 27 9 (.slice (some a) 1 1)).run Try.prog w = .ok (tx [b]) w := by
  refine run_convert_bytes_back w 27 9 5 a 1 [b] Try.underlying27 Try.underlying5 Try.underlying9 ?_
  intro j hj
  obtain rfl : j = 0 := by simpa using hj
  subst hx
  have : (a.add 0) = a := by simp [Addr.add]
  rw [this]
  exact hc
theorem conv_one (w : World) (x : Int) (b : UInt8) (hx : x = (b.toNat : Int)) :
    (convert 27 9 (.slice (some ⟨w.heap.size, 0, none⟩) 1 1)).run Try.prog (w.alloc (.cells #[.int .u8 x] 5)) = .ok (tx [b]) (w.alloc (.cells #[.int .u8 x] 5)) :=
  conv_row _ _ x b hx (by simp)
end Go.Proofs.Ytkfplichekebdaa
