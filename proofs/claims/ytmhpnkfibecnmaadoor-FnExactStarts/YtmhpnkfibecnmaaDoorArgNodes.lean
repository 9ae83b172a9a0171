/-
  A slice of nodes that came in, as the walks take it.
-/
import Derived.Test.YtmhpnkfibecnmaaDoorNodes
import Derived.Deep.Slices
import Derived.OpenShut
import Derived.ProofKit
namespace Go.Proofs.YtmhpnkfibecnmaaDoor
open Go Go.ChangeShapes Go.WideShapes Go.ChangeAt Go.RowKit
open M
set_option linter.unusedVariables false

theorem cellsNode : Tryd.prog.cellsOf 165 = 2 := by kernel_rfl
theorem cellsInt : Tryd.prog.cellsOf 3 = 1 := by kernel_rfl
theorem cellsU64 : Tryd.prog.cellsOf 46 = 1 := by kernel_rfl
theorem two_cells {w : World} {a : Addr} {cs : List Value} (h : w.cells? 0 a 2 = some cs) : ∃ c0 c1, cs = [c0, c1] ∧ w.cell? a = some c0 ∧ w.cell? (a.add 1) = some c1 := by
  obtain ⟨_, hl, hc⟩ := World.cells?_some h
  match cs, hl with
  | [c0, c1], _ =>
    refine ⟨c0, c1, rfl, ?_, ?_⟩
    · have h0 := hc 0 (by omega)
      simpa [Addr.add] using h0
    · have h1 := hc 1 (by omega)
      simpa using h1
theorem node_of {H : Type} {enc : TypeId × Value → H} {W : World} {n : Nat} {c0 c1 : Value} {x : DataW H × List MemPlace} (h : DataW.trod enc Tryd.prog W 0 (fun _ => true) true n 165 [c0, c1] = some x) :
    ∃ nd : Nd, c0 = .int .i64 nd.1 ∧ c1 = .int .u64 nd.2 ∧ NdOk nd := by
  obtain ⟨y0, y1, m, _, _, h0, h1⟩ := trod_struct2 Tryd.underlying165 h
  simp only [cellsInt, cellsU64] at h0 h1
  obtain ⟨a, e0, _, wa⟩ := DataW.trod_int Tryd.underlying3 h0
  obtain ⟨b, e1, _, wb⟩ := DataW.trod_int Tryd.underlying46 h1
  simp at e0 e1
  have ba := bounds_i64 wa
  have bb := bounds_u64 wb
  exact ⟨(a, b), e0, e1, ba.1, ba.2, bb.1, bb.2⟩
theorem nodesAt_of {H : Type} {enc : TypeId × Value → H} {W : World} {a : Option Addr} {len cap : Nat} {d : DataW H} {p : List MemPlace}
    (h : DataW.Trod enc Tryd.prog W 0 (fun _ => true) true 66 (.slice a len cap) d p) : ∃ t : List Nd, NodesAt W (.slice a len cap) t := by
  obtain ⟨fuel, hf⟩ := h
  rcases Deep.open_slice Tryd.underlying66 hf with ⟨hcs, _⟩ | ⟨x, l, c, m, n, D, Pl, hcs, _, hl, hm, hmm, _, hel⟩
  · simp [Value.cells] at hcs
    obtain ⟨rfl, rfl, rfl⟩ := hcs
    exact ⟨[], by simp, by simp, Or.inl ⟨rfl, none, 0, rfl⟩⟩
  · simp [Value.cells] at hcs
    obtain ⟨rfl, rfl, rfl⟩ := hcs
    have hmx := hm
    unfold maxLen at hmx
    simp only [if_true] at hmm
    subst hmm
    rw [cellsNode] at hel
    have each : ∀ i, i < len → ∃ nd : Nd, W.cell? (x.add (i * 2)) = some (.int .i64 nd.1) ∧ W.cell? (x.add (i * 2 + 1)) = some (.int .u64 nd.2) ∧ NdOk nd := by
      intro i hi
      obtain ⟨cs', hc, ht⟩ := hel i (by omega)
      obtain ⟨c0, c1, rfl, k0, k1⟩ := two_cells hc
      obtain ⟨nd, rfl, rfl, ok⟩ := node_of ht
      rw [Deep.add_add] at k1
      exact ⟨nd, k0, k1, ok⟩
    obtain ⟨f, hf⟩ := Deep.choose_lt each
    refine ⟨(List.range len).map f, ?_, by simpa using (by omega), ?_⟩
    · intro y hy
      obtain ⟨i, hi, rfl⟩ := List.mem_map.1 hy
      exact (hf i (List.mem_range.1 hi)).2.2
    · by_cases h0 : len = 0
      · subst h0
        exact Or.inl ⟨rfl, _, _, rfl⟩
      · obtain ⟨b, off, spot⟩ := x
        have hc := (hf 0 (by omega)).1
        have hspot : spot = none := by simpa [Addr.add] using World.cell?_spot hc
        subst hspot
        refine Or.inr ⟨b, off, _, by rw [List.length_map, List.length_range], ?_, ?_⟩
        · have h1 : W.cell? ⟨b, off, none⟩ = some (.int .i64 (f 0).1) := by simpa [Addr.add] using hc
          by_cases hb : b < W.heap.size
          · exact hb
          · have e : W.heap[b]? = none := Array.getElem?_eq_none (by omega)
            simp [World.cell?, e] at h1
        · intro i y hy
          have hi : i < len := by
            have := (List.getElem?_eq_some_iff.1 hy).1
            simpa using this
          have hy' : y = f i := by
            simp [hi] at hy
            exact hy.symm
          subst hy'
          obtain ⟨k0, k1, _⟩ := hf i hi
          constructor
          · by_cases hi0 : i = 0
            · subst hi0
              simpa [Addr.add] using k0
            · simpa [Addr.add, show ¬ i * 2 = 0 from by omega] using k0
          · simpa [Addr.add, Nat.add_assoc] using k1
end Go.Proofs.YtmhpnkfibecnmaaDoor
