/-
  Lists of whole numbers in memory: the laws' own copies of them, and a slice of numbers that came in.
-/
import Derived.Test.YtmhpnkfibecnmaaDoorVars
import Derived.Test.YtmhpnkfibecnmaaDoorLGood
import Derived.OpenShut
import Derived.ProofKit
import Derived.Deep.Slices
namespace Go.Proofs.YtmhpnkfibecnmaaDoor
open Go Go.RowKit
open M
set_option linter.unusedVariables false

def cellsI (xs : List Int) : List Value := xs.map (Value.int .i64)
theorem setI_zero (t : List Int) (j : Nat) (x : Int) (hx : t[j]? = some x) : (cellsI (t.take j ++ List.replicate (t.length - j) 0)).set j (.int .i64 x) = cellsI (t.take (j + 1) ++ List.replicate (t.length - (j + 1)) 0) := by
  have hj : j < t.length := (List.getElem?_eq_some_iff.1 hx).1
  have e : t.take (j + 1) = t.take j ++ [x] := by
    rw [List.take_add_one, hx]
    rfl
  have hl : (t.take j).length = j := List.length_take_of_le (by omega)
  obtain ⟨m, hm⟩ : ∃ m, t.length - j = m + 1 := ⟨t.length - j - 1, by omega⟩
  have hm' : t.length - (j + 1) = m := by omega
  unfold cellsI
  rw [e, hm, hm', List.replicate_succ, List.append_assoc, List.map_append, List.set_append_right _ _ (by rw [List.length_map]; omega), List.length_map, hl, Nat.sub_self, List.map_append]
  rfl
open Go.ChangeShapes Go.WideShapes Go.ChangeAt in
theorem intsAt_of {H : Type} {enc : TypeId × Value → H} {W : World} {a : Option Addr} {len cap : Nat} {d : DataW H} {p : List MemPlace}
    (h : DataW.Trod enc Tryd.prog W 0 (fun _ => true) true 29 (.slice a len cap) d p) : ∃ st : List Int, st.length = len ∧ len ≤ 9223372036854775807 ∧ (∀ s ∈ st, -9223372036854775808 ≤ s ∧ s ≤ 9223372036854775807) ∧ IntsAt W (.slice a len cap) st := by
  obtain ⟨fuel, hf⟩ := h
  rcases open_ints Tryd.underlying29 Tryd.underlying3 (by kernel_rfl) hf with ⟨hcs, _⟩ | ⟨x, l, c, zs, hcs, _, hl, hm, hz, _, hcell, hwz⟩
  · simp [Value.cells] at hcs
    obtain ⟨rfl, rfl, rfl⟩ := hcs
    exact ⟨[], rfl, by omega, by simp, by simp, Or.inl ⟨rfl, none, 0, rfl⟩⟩
  · simp [Value.cells] at hcs
    obtain ⟨rfl, rfl, rfl⟩ := hcs
    have hm' := hm
    unfold maxLen at hm'
    have hz' : zs.length = cap := by simpa using hz
    have hlen : (zs.take len).length = len := List.length_take_of_le (by omega)
    refine ⟨zs.take len, hlen, by omega, fun s hs => bounds_i64 (hwz s (List.mem_of_mem_take hs)), by omega, ?_⟩
    by_cases h0 : len = 0
    · subst h0
      exact Or.inl ⟨rfl, _, _, rfl⟩
    · obtain ⟨b, off, spot⟩ := x
      have hc := hcell 0 (by omega)
      have hspot : spot = none := by simpa [Addr.add] using World.cell?_spot hc
      subst hspot
      refine Or.inr ⟨b, off, cap, by rw [hlen], ?_, fun i s hs => ?_⟩
      · have h1 : W.cell? ⟨b, off, none⟩ = some (.int .i64 (zs.getD 0 0)) := by simpa [Addr.add] using hc
        by_cases hb : b < W.heap.size
        · exact hb
        · have e : W.heap[b]? = none := Array.getElem?_eq_none (by omega)
          simp [World.cell?, e] at h1
      · have hi : i < len := by
          have := (List.getElem?_eq_some_iff.1 hs).1
          omega
        have hci := hcell i (by omega)
        have hs' : zs[i]? = some s := by
          rw [List.getElem?_take_of_lt hi] at hs
          exact hs
        have e1 : zs.getD i 0 = s := by simp [List.getD, hs']
        rw [e1] at hci
        by_cases hi0 : i = 0
        · subst hi0
          simpa [Addr.add] using hci
        · simpa [Addr.add, hi0] using hci
end Go.Proofs.YtmhpnkfibecnmaaDoor
