/-
  A lasso that a call within a region has answered.
-/
import Derived.Test.YthamdefkcjfjpaaRw9
namespace Go.Proofs.Ythamdefkcjfjpaa
open Go Go.RowKit
open M
set_option linter.unusedVariables false
set_option linter.unusedSimpArgs false

/-- a lasso that a call has answered, laid from B on -/
def RwL (B : Nat) (w : World) (s : Value) (l : La) : Prop := ∃ lo hi, B ≤ lo ∧ OwnLa w lo hi s l
theorem RwL.below {B : Nat} {w w' : World} {s : Value} {l : La} (h : RwL B w s l) (hb : Below w.heap.size w w') : RwL B w' s l := by
  obtain ⟨lo, hi, h0, h1⟩ := h
  exact ⟨lo, hi, h0, h1.same hb.size (fun i _ h9 => hb.block i (Nat.lt_of_lt_of_le h9 h1.hi))⟩
theorem RwL.shape {B : Nat} {w : World} {s : Value} {l : La} (h : RwL B w s l) : ∃ sa sn sc oa on oc, s = .agg #[.slice sa sn sc, .slice oa on oc] := by
  obtain ⟨lo, hi, h0, h1⟩ := h
  exact h1.shape
theorem rwL_of {B : Nat} {w w' : World} {s : Value} {l : La} (hB : B ≤ w.heap.size) (h : OwnLa w' w.heap.size w'.heap.size s l) : RwL B w' s l := ⟨_, _, hB, h⟩
def fstV : Value → Value
  | .agg cs => cs.getD 0 undef
  | _ => undef
def sndV : Value → Value
  | .agg cs => cs.getD 1 undef
  | _ => undef
end Go.Proofs.Ythamdefkcjfjpaa
