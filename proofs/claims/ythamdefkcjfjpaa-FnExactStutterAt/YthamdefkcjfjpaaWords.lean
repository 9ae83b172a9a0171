/-
  What the functions of the words of bits do, the program's and the model's, one contract a function: each only computes (the world stays) where the table of masks lies as it was laid.
-/
import Derived.Test.YthamdefkcjfjpaaProg
import Derived.Test.YthamdefkcjfjpaaMath
import Derived.WalkKit
namespace Go.Proofs.Ythamdefkcjfjpaa
open Go Go.RowKit
open M
set_option linter.unusedVariables false

theorem ret_int {k : IntKind} {a b : Int} (h : a = b) : Ending.returned (.int k a) = .returned (.int k b) := by rw [h]
theorem ret_bool {a b : Bool} (h : a = b) : Ending.returned (.bool a) = .returned (.bool b) := by rw [h]

/-- a word as a signed number, as both texts reckon it -/
def sgn (k : Nat) (a : Int) : Int := if pw (k - 1) ≤ a then wrap64 (bits .or .u64 a (bits .xor .u64 IntKind.u64.max (pw k - 1))) else wrap64 a
/-- a word moved by j places -/
def moved (k : Nat) (a : Int) (b : Int) (l : Bool) : Int := if k ≤ b then 0 else if l then cut k (a * pw b.toNat) else a / pw b.toNat
end Go.Proofs.Ythamdefkcjfjpaa
