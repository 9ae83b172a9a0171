/-
  Lists of nodes in memory: the laws' own copies, comparisons and marks of them.
-/
import Derived.Test.YthamdefkcjfjpaaKind
import Derived.Deep.RegionWith
namespace Go.Proofs.Ythamdefkcjfjpaa
open Go Go.RowKit
open M
set_option linter.unusedVariables false

/-- nodes as the cells of a row -/
def flat : List Nd → List Value
  | [] => []
  | x :: t => .int .i64 x.1 :: .int .u64 x.2 :: flat t
theorem flat_len : ∀ t : List Nd, (flat t).length = t.length * 2
  | [] => rfl
  | x :: t => by
    simp only [flat, List.length_cons, flat_len t]
    omega
theorem flat_append : ∀ s t : List Nd, flat (s ++ t) = flat s ++ flat t
  | [], t => rfl
  | x :: s, t => by simp [flat, flat_append s t]
theorem flat_at0 : ∀ (t : List Nd) (i : Nat) (x : Nd), t[i]? = some x → (flat t)[i * 2]? = some (.int .i64 x.1)
  | [], i, x, h => by simp at h
  | y :: t, 0, x, h => by
    simp at h
    subst h
    rfl
  | y :: t, i + 1, x, h => by
    have h' : t[i]? = some x := by simpa using h
    rw [show (i + 1) * 2 = i * 2 + 1 + 1 from by omega]
    simpa [flat] using flat_at0 t i x h'
theorem flat_at1 : ∀ (t : List Nd) (i : Nat) (x : Nd), t[i]? = some x → (flat t)[i * 2 + 1]? = some (.int .u64 x.2)
  | [], i, x, h => by simp at h
  | y :: t, 0, x, h => by
    simp at h
    subst h
    rfl
  | y :: t, i + 1, x, h => by
    have h' : t[i]? = some x := by simpa using h
    rw [show (i + 1) * 2 + 1 = i * 2 + 1 + 1 + 1 from by omega]
    simpa [flat] using flat_at1 t i x h'
theorem flat_set : ∀ (t : List Nd) (i : Nat) (x : Nd), ((flat t).set (i * 2) (.int .i64 x.1)).set (i * 2 + 1) (.int .u64 x.2) = flat (t.set i x)
  | [], i, x => by simp [flat]
  | y :: t, 0, x => rfl
  | y :: t, i + 1, x => by
    rw [show (i + 1) * 2 = i * 2 + 1 + 1 from by omega]
    simpa [flat] using flat_set t i x
theorem made_zero : ∀ n : Nat, (madeCells #[Value.int .i64 0, .int .u64 0] (n * 2)).toList = flat (List.replicate n (0, 0))
  | 0 => by simp [madeCells, flat]
  | n + 1 => by
    have ih := made_zero n
    unfold madeCells at *
    rw [Array.toList_map, Array.toList_range] at *
    rw [show (n + 1) * 2 = n * 2 + 1 + 1 from by omega, List.range_succ, List.range_succ, List.map_append, List.map_append, ih, List.replicate_succ', flat_append, List.append_assoc]
    congr 1
    have e0 : n * 2 % 2 = 0 := by omega
    have e1 : (n * 2 + 1) % 2 = 1 := by omega
    simp [flat, e0, e1]
theorem set_zero (t : List Nd) (j : Nat) (x : Nd) (hx : t[j]? = some x) : (t.take j ++ List.replicate (t.length - j) ((0, 0) : Nd)).set j x = t.take (j + 1) ++ List.replicate (t.length - (j + 1)) (0, 0) := by
  have hj : j < t.length := (List.getElem?_eq_some_iff.1 hx).1
  have e : t.take (j + 1) = t.take j ++ [x] := by
    rw [List.take_add_one, hx]
    rfl
  have hl : (t.take j).length = j := List.length_take_of_le (by omega)
  obtain ⟨m, hm⟩ : ∃ m, t.length - j = m + 1 := ⟨t.length - j - 1, by omega⟩
  have hm' : t.length - (j + 1) = m := by omega
  rw [e, hm, hm', List.replicate_succ, List.append_assoc, List.set_append_right _ _ (by omega), hl, Nat.sub_self]
  rfl
/-- where two lists part -/
theorem take_all {s t : List Nd} {j : Nat} {x y : Nd} (hx : s[j]? = some x) (hy : t[j]? = some y) (h : s.take j = t.take j) (hne : x = y) : s.take (j + 1) = t.take (j + 1) := by
  rw [List.take_add_one, List.take_add_one, hx, hy, h, hne]
theorem NodesAt.shape {w : World} {v : Value} {t : List Nd} (h : NodesAt w v t) : ∃ (a : Option Addr) (cap : Nat), v = .slice a t.length cap := by
  obtain ⟨_, _, h⟩ := h
  rcases h with ⟨rfl, a, cap, h⟩ | ⟨b, off, cap, h, _⟩
  · exact ⟨a, cap, h⟩
  · exact ⟨_, cap, h⟩
end Go.Proofs.Ythamdefkcjfjpaa
