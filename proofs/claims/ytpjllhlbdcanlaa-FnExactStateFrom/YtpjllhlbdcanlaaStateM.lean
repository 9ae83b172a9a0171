/-
  Plain mathematics of words out of bits. No program stands in it.
-/
import Derived.Test.YtpjllhlbdcanlaaOwn5
import Derived.Test.YtpjllhlbdcanlaaLaid5
namespace Go.Proofs.Ytpjllhlbdcanlaa
open Go Go.RowKit
open M
set_option linter.unusedVariables false

/-- the number that bits make, the first one counting least -/
def numB : List Bool → Nat
  | [] => 0
  | b :: l => (if b = true then 1 else 0) + 2 * numB l
/-- a bit that is put at a place -/
def putN (a k : Nat) (x : Bool) : Nat := a + (if x = true then 2 ^ k else 0)
theorem numB_snoc : ∀ (l : List Bool) (x : Bool), numB (l ++ [x]) = putN (numB l) l.length x
  | [], x => by cases x <;> simp [numB, putN]
  | b :: l, x => by
    have ih := numB_snoc l x
    unfold putN at *
    simp only [List.cons_append, numB, ih, List.length_cons]
    cases x <;> simp [Nat.pow_succ] <;> omega
theorem numB_lt : ∀ l : List Bool, numB l < 2 ^ l.length
  | [] => by simp [numB]
  | b :: l => by
    have ih := numB_lt l
    simp only [numB, List.length_cons, Nat.pow_succ]
    split <;> omega
/-- a bit that is put at the place behind -/
theorem or_put : ∀ k : Nat, k < 4 → ∀ a : Nat, a < 2 ^ k → ∀ x : Bool, bits .or .u64 (a : Int) (IntKind.u64.wrap ((if x = true then 1 else 0) * 2 ^ k)) = (putN a k x : Int) := by decide +kernel
def wordAt (W : Nat) (l : List Bool) (j : Nat) : Int := numB ((l.drop (j * W)).take W)
def stateL (W m : Nat) (l : List Bool) : List Int := (List.range m).map (wordAt W l)
theorem stateL_snoc (W m : Nat) (l : List Bool) : stateL W (m + 1) l = stateL W m l ++ [wordAt W l m] := by simp [stateL, List.range_succ]
theorem stateL_len (W m : Nat) (l : List Bool) : (stateL W m l).length = m := by simp [stateL]
theorem wordAt_bd (W : Nat) (hW : W ≤ 4) (l : List Bool) (j : Nat) : 0 ≤ wordAt W l j ∧ wordAt W l j < 16 := by
  unfold wordAt
  have h := numB_lt ((l.drop (j * W)).take W)
  have h2 : ((l.drop (j * W)).take W).length ≤ 4 := by rw [List.length_take]; omega
  have h3 : 2 ^ ((l.drop (j * W)).take W).length ≤ 2 ^ 4 := Nat.pow_le_pow_right (by omega) h2
  omega
def stateOk (wide : Int) (l : List Bool) : Bool := decide (1 ≤ wide ∧ wide ≤ 4) && (decide (l.length % wide.toNat = 0) && decide (1 ≤ l.length / wide.toNat ∧ l.length / wide.toNat ≤ 4))
def stateR (wide : Int) (l : List Bool) : List Int := if stateOk wide l = true then stateL wide.toNat (l.length / wide.toNat) l else []
theorem stateR_no {wide : Int} {l : List Bool} (h : stateOk wide l = false) : stateR wide l = [] := by unfold stateR; rw [h]; rfl
theorem stateR_ok (wide : Int) (l : List Bool) : WsOk (stateR wide l) := by
  unfold stateR stateOk
  split
  · rename_i h
    simp only [Bool.and_eq_true, decide_eq_true_eq] at h
    refine ⟨fun s hs => ?_, by rw [stateL_len]; omega⟩
    obtain ⟨j, _, rfl⟩ := List.mem_map.1 hs
    have := wordAt_bd wide.toNat (by omega) l j
    omega
  · exact ⟨by simp, by simp⟩
theorem own_nilU (w : World) (lo hi : Nat) (h : hi ≤ w.heap.size) : OwnUS w lo hi (.slice none 0 0) [] := ⟨World.ownsRow_nil _ _ _ _, (fun k hk => by cases hk), h⟩
end Go.Proofs.Ytpjllhlbdcanlaa
