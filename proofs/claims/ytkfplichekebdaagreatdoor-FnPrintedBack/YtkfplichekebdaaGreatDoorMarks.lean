/-
  Marks that the laws lay into lists of numbers and of nodes, and look for again; comparisons of lists of numbers.
-/
import Derived.Test.YtkfplichekebdaaGreatDoorNodes
namespace Go.Proofs.YtkfplichekebdaaGreatDoor
open Go Go.RowKit
open M
set_option linter.unusedVariables false

def marks (k : Int) (n : Nat) : List Value := (List.range n).map fun i : Nat => Value.int .i64 (k + (i : Int))
theorem marks_len (k : Int) (n : Nat) : (marks k n).length = n := by simp [marks]
theorem marks_at (k : Int) (n i : Nat) (h : i < n) : (marks k n)[i]? = some (.int .i64 (k + i)) := by simp [marks, h]
theorem marks_set (k : Int) (n j : Nat) (xs : List Value) (hx : xs.length = n) (hj : j < n) : (marks k j ++ xs.drop j).set j (.int .i64 (k + j)) = marks k (j + 1) ++ xs.drop (j + 1) := by
  rw [List.set_append_right _ _ (by rw [marks_len]; omega), marks_len, Nat.sub_self]
  have e1 : marks k (j + 1) = marks k j ++ [.int .i64 (k + j)] := by simp [marks, List.range_succ]
  rw [e1, List.append_assoc]
  congr 1
  rw [List.drop_eq_getElem_cons (by omega)]
  rfl
def marks2 (k : Int) : Nat → List Value
  | 0 => []
  | n + 1 => marks2 k n ++ [.int .i64 (k + 2 * n), .int .u64 (k + 2 * n + 1)]
theorem marks2_len (k : Int) : ∀ n : Nat, (marks2 k n).length = n * 2
  | 0 => rfl
  | n + 1 => by
    simp only [marks2, List.length_append, marks2_len k n, List.length_cons, List.length_nil]
    omega
theorem marks2_set (k : Int) (n j : Nat) (xs : List Value) (hx : xs.length = n * 2) (hj : j < n) :
    ((marks2 k j ++ xs.drop (j * 2)).set (j * 2) (.int .i64 (k + 2 * j))).set (j * 2 + 1) (.int .u64 (k + 2 * j + 1)) = marks2 k (j + 1) ++ xs.drop ((j + 1) * 2) := by
  have hl := marks2_len k j
  obtain ⟨a, b, r, hr⟩ : ∃ a b r, xs.drop (j * 2) = a :: b :: r := by
    rw [List.drop_eq_getElem_cons (show j * 2 < xs.length by omega), List.drop_eq_getElem_cons (show j * 2 + 1 < xs.length by omega)]
    exact ⟨_, _, _, rfl⟩
  have hr2 : xs.drop ((j + 1) * 2) = r := by
    have h := congrArg (List.drop 2) hr
    rw [List.drop_drop] at h
    rw [show (j + 1) * 2 = j * 2 + 2 from by omega, h]
    rfl
  rw [hr, hr2, List.set_append_right _ _ (by omega), hl, Nat.sub_self, List.set_append_right _ _ (by omega), hl, show j * 2 + 1 - j * 2 = 1 from by omega]
  simp [marks2]
theorem grown_refl (w : World) (row : Option Nat) : w.grownBy w row := ⟨rfl, rfl, rfl, Nat.le_refl _, fun _ _ _ => rfl⟩
theorem grown_trans {u v w : World} {row : Option Nat} (h : u.grownBy v row) (k : v.grownBy w row) : u.grownBy w row :=
  ⟨k.os.trans h.os, k.tape.trans h.tape, k.output.trans h.output, Nat.le_trans h.size k.size, fun i hi hr => (k.block i (Nat.lt_of_lt_of_le hi h.size) hr).trans (h.block i hi hr)⟩
theorem marks2_at (k : Int) : ∀ (n i : Nat), i < n → (marks2 k n)[i * 2]? = some (.int .i64 (k + 2 * i)) ∧ (marks2 k n)[i * 2 + 1]? = some (.int .u64 (k + 2 * i + 1))
  | 0, i, h => by omega
  | n + 1, i, h => by
    have hl := marks2_len k n
    by_cases e : i = n
    · subst e
      simp only [marks2]
      rw [List.getElem?_append_right (by omega), List.getElem?_append_right (by omega), hl, Nat.sub_self, show i * 2 + 1 - i * 2 = 1 from by omega]
      exact ⟨rfl, rfl⟩
    · have ih := marks2_at k n i (by omega)
      simp only [marks2]
      rw [List.getElem?_append_left (by omega), List.getElem?_append_left (by omega)]
      exact ih
/-- a slice whose elements are these whole numbers -/
def IntsAt (w : World) (v : Value) (xs : List Int) : Prop :=
  xs.length ≤ 9223372036854775807 ∧ ((xs = [] ∧ ∃ (a : Option Addr) (cap : Nat), v = .slice a 0 cap) ∨
  ∃ b off cap : Nat, v = .slice (some ⟨b, off, none⟩) xs.length cap ∧ b < w.heap.size ∧ ∀ (i : Nat) (s : Int), xs[i]? = some s → w.cell? ⟨b, off + i, none⟩ = some (.int .i64 s))
theorem IntsAt.below {w w' : World} {v : Value} {xs : List Int} (h : IntsAt w v xs) (hb : Below w.heap.size w w') : IntsAt w' v xs := by
  obtain ⟨hl, h⟩ := h
  refine ⟨hl, ?_⟩
  rcases h with h | ⟨b, off, cap, hv, hlt, hc⟩
  · exact Or.inl h
  · refine Or.inr ⟨b, off, cap, hv, Nat.lt_of_lt_of_le hlt hb.size, fun i x hx => ?_⟩
    rw [hb.cell (p := ⟨b, off + i, none⟩) hlt]
    exact hc i x hx
theorem IntsAt.shape {w : World} {v : Value} {xs : List Int} (h : IntsAt w v xs) : ∃ (a : Option Addr) (cap : Nat), v = .slice a xs.length cap := by
  obtain ⟨_, h⟩ := h
  rcases h with ⟨rfl, a, cap, h⟩ | ⟨b, off, cap, h, _⟩
  · exact ⟨a, cap, h⟩
  · exact ⟨_, cap, h⟩
theorem ints_of_own {w : World} {base : Nat} {e : TypeId} {v : Value} {xs : List Int} (hl : xs.length ≤ 9223372036854775807) (h : w.ownsRow base e 1 v xs.length (xs.map (Value.int .i64))) : IntsAt w v xs := by
  refine ⟨hl, ?_⟩
  rcases h.2 with ⟨h1, h2⟩ | ⟨g, cap, cur, h1, h2, h3, _⟩
  · exact Or.inl ⟨List.length_eq_zero_iff.1 h2, none, 0, h1⟩
  · subst h1
    have hlt : g < w.heap.size := by
      by_cases hg' : g < w.heap.size
      · exact hg'
      · rw [Array.getElem?_eq_none (by omega)] at h3
        cases h3
    refine Or.inr ⟨g, 0, cap, rfl, hlt, fun i x hx => ?_⟩
    have hi : i < xs.length := (List.getElem?_eq_some_iff.1 hx).1
    rw [Nat.zero_add, h.cellAt i (by omega)]
    simp [hx]
theorem takeInt_all {s t : List Int} {j : Nat} {x y : Int} (hx : s[j]? = some x) (hy : t[j]? = some y) (h : s.take j = t.take j) (hne : x = y) : s.take (j + 1) = t.take (j + 1) := by
  rw [List.take_add_one, List.take_add_one, hx, hy, h, hne]
end Go.Proofs.YtkfplichekebdaaGreatDoor
