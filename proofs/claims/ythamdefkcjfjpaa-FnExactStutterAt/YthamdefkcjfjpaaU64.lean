/-
  Lists of words in memory: the laws' own copies and comparisons of them, and a slice of words that came in.
-/
import Derived.Test.YthamdefkcjfjpaaValueOf
import Derived.OpenShut
import Derived.ProofKit
namespace Go.Proofs.Ythamdefkcjfjpaa
open Go Go.RowKit
open M
set_option linter.unusedVariables false

def cellsU (xs : List Int) : List Value := xs.map (Value.int .u64)
theorem infoU64 : (Try.prog.info? 53).map (fun i => (i.zero, i.size, i.bytes)) = some (some (.int .u64 0), 1, 8) := by kernel_rfl
theorem st_of_own {w : World} {base : Nat} {e : TypeId} {v : Value} {xs : List Int} (h : w.ownsRow base e 1 v xs.length (cellsU xs)) : StAt w v xs := by
  rcases h.2 with ⟨h1, h2⟩ | ⟨g, cap, cur, h1, h2, h3, _⟩
  · exact Or.inl ⟨List.length_eq_zero_iff.1 h2, none, 0, h1⟩
  · subst h1
    have hlt : g < w.heap.size := by
      by_cases hg' : g < w.heap.size
      · exact hg'
      · rw [Array.getElem?_eq_none (by omega)] at h3
        cases h3
    refine Or.inr ⟨g, 0, cap, rfl, hlt, fun i x hx => ?_⟩
    have hi : i < xs.length := (List.getElem?_eq_some_iff.1 hx).1
    rw [Nat.zero_add, h.cellAt i (by omega)]
    simp [cellsU, hx]
theorem setU_zero (t : List Int) (j : Nat) (x : Int) (hx : t[j]? = some x) : (cellsU (t.take j ++ List.replicate (t.length - j) 0)).set j (.int .u64 x) = cellsU (t.take (j + 1) ++ List.replicate (t.length - (j + 1)) 0) := by
  have hj : j < t.length := (List.getElem?_eq_some_iff.1 hx).1
  have e : t.take (j + 1) = t.take j ++ [x] := by
    rw [List.take_add_one, hx]
    rfl
  have hl : (t.take j).length = j := List.length_take_of_le (by omega)
  obtain ⟨m, hm⟩ : ∃ m, t.length - j = m + 1 := ⟨t.length - j - 1, by omega⟩
  have hm' : t.length - (j + 1) = m := by omega
  unfold cellsU
  rw [e, hm, hm', List.replicate_succ, List.append_assoc, List.map_append, List.set_append_right _ _ (by rw [List.length_map]; omega), List.length_map, hl, Nat.sub_self, List.map_append]
  rfl
theorem takeWord_all {s t : List Int} {j : Nat} {x y : Int} (hx : s[j]? = some x) (hy : t[j]? = some y) (h : s.take j = t.take j) (hne : x = y) : s.take (j + 1) = t.take (j + 1) := by
  rw [List.take_add_one, List.take_add_one, hx, hy, h, hne]
end Go.Proofs.Ythamdefkcjfjpaa
