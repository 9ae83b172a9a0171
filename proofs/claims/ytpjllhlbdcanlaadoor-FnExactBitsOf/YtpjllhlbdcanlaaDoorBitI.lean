/-
  One bit of a word, as the program's own shift and mask tell it.
-/
import Derived.Test.YtpjllhlbdcanlaaDoorLaidM
import Derived.Test.YtpjllhlbdcanlaaDoorWords
namespace Go.Proofs.YtpjllhlbdcanlaaDoor
open Go Go.RowKit
open M
set_option linter.unusedVariables false

theorem bits_bit1 (n : Int) (h0 : 0 ≤ n) (h1 : n ≤ 18446744073709551615) (j : Nat) : bits BinOp.and IntKind.u64 (n / 2 ^ j) 1 = bitI n j := by
  have e : n / 2 ^ j = n / pw j := by rw [pw_int]
  have hp := pw_pos j
  have h2 : 0 ≤ n / pw j := Int.ediv_nonneg h0 (by omega)
  have h3 : n / pw j ≤ n := Int.ediv_le_self _ h0
  rw [e, and_one_u64 _ h2 (by omega)]
  rfl
end Go.Proofs.YtpjllhlbdcanlaaDoor
