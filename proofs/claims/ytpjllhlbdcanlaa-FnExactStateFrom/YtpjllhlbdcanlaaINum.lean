/-
  What an op makes of its parts' values: the program's numberOf, holdsOf and bitOf.
-/
import Derived.Test.YtpjllhlbdcanlaaVal2
namespace Go.Proofs.Ytpjllhlbdcanlaa
open Go Go.RowKit
open M
set_option linter.unusedVariables false

theorem bitOf_any (p : Bool) (w : World) : Calls Try.prog 181 #[.bool p] w fun e w' => e = .returned (.int .u64 (if p = true then 1 else 0)) ∧ w' = w := by
  cases p
  · go_enter Try.func181, Try.ntmps181
    go_wp2
    go_ret
    exact ⟨rfl, rfl⟩
  · go_enter Try.func181, Try.ntmps181
    go_wp2
    go_ret
    exact ⟨rfl, rfl⟩
end Go.Proofs.Ytpjllhlbdcanlaa
