/-
  Plain mathematics for terms: nodes as pairs of an op and a number, what an op takes and is, the pile, the kind of a term. No program stands in it.
-/
import Derived.Test.YtmhpnkfibecnmaaDoorMath
namespace Go.Proofs.YtmhpnkfibecnmaaDoor.M
open Go

/-- a node: its op and its number -/
abbrev Nd := Int × Int
/-- how many parts an op takes, of which kind, and its own kind; 0 where it is none -/
def manyOf (op : Int) : Nat := if op = 13 ∨ op = 19 then 1 else if (3 ≤ op ∧ op ≤ 12) ∨ (14 ≤ op ∧ op ≤ 18) then 2 else 0
def partOf (op : Int) : Int := if op = 1 ∨ op = 2 ∨ op = 13 ∨ (3 ≤ op ∧ op ≤ 12) ∨ (14 ≤ op ∧ op ≤ 16) then 1 else if op = 20 ∨ op = 19 ∨ op = 17 ∨ op = 18 then 2 else 0
def ownOf (op : Int) : Int := if op = 1 ∨ op = 2 ∨ op = 13 ∨ (3 ≤ op ∧ op ≤ 12) then 1 else if 14 ≤ op ∧ op ≤ 20 then 2 else 0
/-- a node's number is as its op wants it -/
def okN (wide vars op n : Int) : Bool := if op = 1 then goodB wide n else if op = 2 then decide (n < vars) else if op = 20 then decide (n < 2) else n == 0
/-- m parts of a kind taken off the pile's top (its end) -/
def popN : Nat → Int → List Int → Option (List Int)
  | 0, _, p => some p
  | m + 1, k, p => if p.getLast? = some k then popN m k p.dropLast else none
def stepK (wide vars : Int) (p : List Int) (x : Nd) : Option (List Int) :=
  if ownOf x.1 = 0 ∨ okN wide vars x.1 x.2 = false ∨ p.length < manyOf x.1 then none else (popN (manyOf x.1) (partOf x.1) p).map (· ++ [ownOf x.1])
def foldK (wide vars : Int) : List Nd → List Int → Option (List Int)
  | [], p => some p
  | x :: t, p => (stepK wide vars p x).bind (foldK wide vars t)
def kindL (wide vars : Int) (t : List Nd) : Int :=
  if wideB wide = true ∧ 1 ≤ vars ∧ vars ≤ 4 ∧ 1 ≤ t.length ∧ t.length ≤ 48 then
    match foldK wide vars t [] with
    | some [k] => k
    | _ => 0
  else 0
theorem foldK_append (wide vars : Int) : ∀ (s t : List Nd) (p : List Int), foldK wide vars (s ++ t) p = (foldK wide vars s p).bind (foldK wide vars t)
  | [], t, p => rfl
  | x :: s, t, p => by
    simp only [List.cons_append, foldK]
    cases stepK wide vars p x with
    | none => rfl
    | some q => exact foldK_append wide vars s t q
theorem ownOf_range (op : Int) : ownOf op = 0 ∨ ownOf op = 1 ∨ ownOf op = 2 := by
  unfold ownOf
  split
  · exact Or.inr (Or.inl rfl)
  · split
    · exact Or.inr (Or.inr rfl)
    · exact Or.inl rfl
theorem manyOf_le (op : Int) : manyOf op ≤ 2 := by
  unfold manyOf
  split
  · omega
  · split <;> omega
theorem popN_len : ∀ (m : Nat) (k : Int) (p q : List Int), popN m k p = some q → q.length + m = p.length
  | 0, k, p, q, h => by
    simp only [popN, Option.some.injEq] at h
    subst h
    rfl
  | m + 1, k, p, q, h => by
    simp only [popN] at h
    split at h
    · rename_i hl
      have e := popN_len m k _ q h
      have : p ≠ [] := by
        intro e0
        subst e0
        simp at hl
      have hp : 0 < p.length := List.length_pos_iff.2 this
      rw [List.length_dropLast] at e
      omega
    · cases h
/-- the pile holds kinds alone, and no more than there were nodes -/
theorem stepK_len {wide vars : Int} {p q : List Int} {x : Nd} (h : stepK wide vars p x = some q) : q.length ≤ p.length + 1 := by
  unfold stepK at h
  split at h
  · cases h
  · obtain ⟨r, hr, rfl⟩ := Option.map_eq_some_iff.1 h
    have := popN_len _ _ _ _ hr
    simp
    omega
theorem foldK_len {wide vars : Int} : ∀ (t : List Nd) (p q : List Int), foldK wide vars t p = some q → q.length ≤ p.length + t.length
  | [], p, q, h => by
    simp only [foldK, Option.some.injEq] at h
    subst h
    simp
  | x :: t, p, q, h => by
    simp only [foldK] at h
    obtain ⟨r, hr, hq⟩ := Option.bind_eq_some_iff.1 h
    have h1 := stepK_len hr
    have h2 := foldK_len t r q hq
    simp
    omega
end Go.Proofs.YtmhpnkfibecnmaaDoor.M
