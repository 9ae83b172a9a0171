/-
  Lists of words in memory: the laws' own copies and comparisons of them, and a slice of words that came in.
-/
import Derived.Test.YtmhpnkfibecnmaaDoorValueOf
import Derived.OpenShut
import Derived.ProofKit
namespace Go.Proofs.YtmhpnkfibecnmaaDoor
open Go Go.RowKit
open M
set_option linter.unusedVariables false

def cellsU (xs : List Int) : List Value := xs.map (Value.int .u64)
theorem infoU64 : (Tryd.prog.info? 46).map (fun i => (i.zero, i.size, i.bytes)) = some (some (.int .u64 0), 1, 8) := by kernel_rfl
theorem st_of_own {w : World} {base : Nat} {e : TypeId} {v : Value} {xs : List Int} (h : w.ownsRow base e 1 v xs.length (cellsU xs)) : StAt w v xs := by
  rcases h.2 with ⟨h1, h2⟩ | ⟨g, cap, cur, h1, h2, h3, _⟩
  · exact Or.inl ⟨List.length_eq_zero_iff.1 h2, none, 0, h1⟩
  · subst h1
    have hlt : g < w.heap.size := by
      by_cases hg' : g < w.heap.size
      · exact hg'
      · rw [Array.getElem?_eq_none (by omega)] at h3
        cases h3
    refine Or.inr ⟨g, 0, cap, rfl, hlt, fun i x hx => ?_⟩
    have hi : i < xs.length := (List.getElem?_eq_some_iff.1 hx).1
    rw [Nat.zero_add, h.cellAt i (by omega)]
    simp [cellsU, hx]
theorem setU_zero (t : List Int) (j : Nat) (x : Int) (hx : t[j]? = some x) : (cellsU (t.take j ++ List.replicate (t.length - j) 0)).set j (.int .u64 x) = cellsU (t.take (j + 1) ++ List.replicate (t.length - (j + 1)) 0) := by
  have hj : j < t.length := (List.getElem?_eq_some_iff.1 hx).1
  have e : t.take (j + 1) = t.take j ++ [x] := by
    rw [List.take_add_one, hx]
    rfl
  have hl : (t.take j).length = j := List.length_take_of_le (by omega)
  obtain ⟨m, hm⟩ : ∃ m, t.length - j = m + 1 := ⟨t.length - j - 1, by omega⟩
  have hm' : t.length - (j + 1) = m := by omega
  unfold cellsU
  rw [e, hm, hm', List.replicate_succ, List.append_assoc, List.map_append, List.set_append_right _ _ (by rw [List.length_map]; omega), List.length_map, hl, Nat.sub_self, List.map_append]
  rfl
theorem takeWord_all {s t : List Int} {j : Nat} {x y : Int} (hx : s[j]? = some x) (hy : t[j]? = some y) (h : s.take j = t.take j) (hne : x = y) : s.take (j + 1) = t.take (j + 1) := by
  rw [List.take_add_one, List.take_add_one, hx, hy, h, hne]
open Go.ChangeShapes Go.WideShapes Go.ChangeAt in
theorem stAt_of {H : Type} {enc : TypeId × Value → H} {W : World} {a : Option Addr} {len cap : Nat} {d : DataW H} {p : List MemPlace}
    (h : DataW.Trod enc Tryd.prog W 0 (fun _ => true) true 28 (.slice a len cap) d p) : ∃ st : List Int, st.length = len ∧ len ≤ 9223372036854775807 ∧ (∀ s ∈ st, 0 ≤ s ∧ s ≤ 18446744073709551615) ∧ StAt W (.slice a len cap) st := by
  obtain ⟨fuel, hf⟩ := h
  rcases open_ints Tryd.underlying28 Tryd.underlying46 (by kernel_rfl) hf with ⟨hcs, _⟩ | ⟨x, l, c, zs, hcs, _, hl, hm, hz, _, hcell, hwz⟩
  · simp [Value.cells] at hcs
    obtain ⟨rfl, rfl, rfl⟩ := hcs
    exact ⟨[], rfl, by omega, by simp, Or.inl ⟨rfl, none, 0, rfl⟩⟩
  · simp [Value.cells] at hcs
    obtain ⟨rfl, rfl, rfl⟩ := hcs
    have hm' := hm
    unfold maxLen at hm'
    have hz' : zs.length = cap := by simpa using hz
    have hlen : (zs.take len).length = len := List.length_take_of_le (by omega)
    refine ⟨zs.take len, hlen, by omega, fun s hs => bounds_u64 (hwz s (List.mem_of_mem_take hs)), ?_⟩
    by_cases h0 : len = 0
    · subst h0
      exact Or.inl ⟨rfl, _, _, rfl⟩
    · obtain ⟨b, off, spot⟩ := x
      have hc := hcell 0 (by omega)
      have hspot : spot = none := by simpa [Addr.add] using World.cell?_spot hc
      subst hspot
      refine Or.inr ⟨b, off, cap, by rw [hlen], ?_, fun i s hs => ?_⟩
      · have h1 : W.cell? ⟨b, off, none⟩ = some (.int .u64 (zs.getD 0 0)) := by simpa [Addr.add] using hc
        by_cases hb : b < W.heap.size
        · exact hb
        · have e : W.heap[b]? = none := Array.getElem?_eq_none (by omega)
          simp [World.cell?, e] at h1
      · have hi : i < len := by
          have := (List.getElem?_eq_some_iff.1 hs).1
          omega
        have hci := hcell i (by omega)
        have hs' : zs[i]? = some s := by
          rw [List.getElem?_take_of_lt hi] at hs
          exact hs
        have e1 : zs.getD i 0 = s := by simp [List.getD, hs']
        rw [e1] at hci
        by_cases hi0 : i = 0
        · subst hi0
          simpa [Addr.add] using hci
        · simpa [Addr.add, hi0] using hci
end Go.Proofs.YtmhpnkfibecnmaaDoor
