/-
  What an op makes of its parts: the model's l2Do and l2Bool.
-/
import Derived.Test.YthamdefkcjfjpaaFrom
namespace Go.Proofs.Ythamdefkcjfjpaa
open Go Go.RowKit
open M
set_option linter.unusedVariables false

def quotOf (k : Nat) (a b : Int) : Int := if b = 0 then pw k - 1 else a / b
def remOf (a b : Int) : Int := if b = 0 then a else a % b
/-- what an op of two parts comes to -/
def doOp (k : Nat) (op a b : Int) : Int :=
  if op = 3 then cut k (IntKind.u64.wrap (a + b)) else if op = 4 then cut k (IntKind.u64.wrap (a - b)) else if op = 5 then cut k (IntKind.u64.wrap (a * b))
  else if op = 6 then quotOf k a b else if op = 7 then remOf a b else if op = 8 ∨ op = 17 then bits .and .u64 a b else if op = 9 ∨ op = 18 then bits .or .u64 a b
  else if op = 10 then bits .xor .u64 a b else if op = 11 then moved k a b true else if op = 12 then moved k a b false
  else if op = 14 then (if a = b then 1 else 0) else if op = 15 then (if a < b then 1 else 0) else if op = 16 then (if sgn k a < sgn k b then 1 else 0) else 0
end Go.Proofs.Ythamdefkcjfjpaa
