/-
  Circuits, lists of numbers and of bools that came in, as the walks take them.
-/
import Derived.Test.YtmhpnkfibecnmaaDoorOwn3
import Derived.Deep.Slices
import Derived.Deep.Strs
import Derived.OpenShut
import Derived.ProofKit
namespace Go.Proofs.YtmhpnkfibecnmaaDoor
open Go Go.ChangeShapes Go.WideShapes Go.ChangeAt Go.RowKit
open M
set_option linter.unusedVariables false

theorem cellsInt4 : Tryd.prog.cellsOf 3 = 1 := by kernel_rfl
theorem cellsBool4 : Tryd.prog.cellsOf 4 = 1 := by kernel_rfl
theorem cellsInts4 : Tryd.prog.cellsOf 29 = 1 := by kernel_rfl
theorem three_cells {w : World} {a : Addr} {cs : List Value} (h : w.cells? 0 a 3 = some cs) : ∃ c0 c1 c2, cs = [c0, c1, c2] ∧ w.cell? a = some c0 ∧ w.cell? (a.add 1) = some c1 ∧ w.cell? (a.add 2) = some c2 := by
  obtain ⟨_, hl, hc⟩ := World.cells?_some h
  match cs, hl with
  | [c0, c1, c2], _ =>
    refine ⟨c0, c1, c2, rfl, ?_, ?_, ?_⟩
    · have h0 := hc 0 (by omega)
      simpa [Addr.add] using h0
    · have h1 := hc 1 (by omega)
      simpa using h1
    · have h2 := hc 2 (by omega)
      simpa using h2
theorem one_cell4 {w : World} {a : Addr} {cs : List Value} (h : w.cells? 0 a 1 = some cs) : ∃ c0, cs = [c0] ∧ w.cell? a = some c0 := by
  obtain ⟨_, hl, hc⟩ := World.cells?_some h
  match cs, hl with
  | [c0], _ =>
    refine ⟨c0, rfl, ?_⟩
    have h0 := hc 0 (by omega)
    simpa [Addr.add] using h0
theorem intsAt4 {H : Type} {enc : TypeId × Value → H} {W : World} {m0 : Nat} {v : Value} {y : DataW H × List MemPlace}
    (hf : DataW.trod enc Tryd.prog W 0 (fun _ => true) true m0 29 [v] = some y) : ∃ t : List Int, IntsAt W v t := by
  rcases Deep.open_slice Tryd.underlying29 hf with ⟨hcs, _⟩ | ⟨x, len, cap, m, n, D, Pl, hcs, _, hl, hm, hmm, _, hel⟩
  · simp at hcs
    subst hcs
    exact ⟨[], by simp, Or.inl ⟨rfl, none, 0, rfl⟩⟩
  · simp at hcs
    subst hcs
    have hmx := hm
    unfold maxLen at hmx
    simp only [if_true] at hmm
    subst hmm
    rw [cellsInt4] at hel
    have each : ∀ i, i < len → ∃ nd : Int, W.cell? (x.add (i * 1)) = some (.int .i64 nd) := by
      intro i hi
      obtain ⟨cs', hc, ht⟩ := hel i (by omega)
      obtain ⟨c0, rfl, k0⟩ := one_cell4 hc
      obtain ⟨a, e0, _, wa⟩ := DataW.trod_int Tryd.underlying3 ht
      simp at e0
      subst e0
      exact ⟨a, k0⟩
    obtain ⟨f, hf⟩ := Deep.choose_lt each
    refine ⟨(List.range len).map f, by simpa using (by omega), ?_⟩
    by_cases h0 : len = 0
    · subst h0
      exact Or.inl ⟨rfl, _, _, rfl⟩
    · obtain ⟨b, off, spot⟩ := x
      have hc := hf 0 (by omega)
      have hspot : spot = none := by simpa [Addr.add] using World.cell?_spot hc
      subst hspot
      refine Or.inr ⟨b, off, _, by rw [List.length_map, List.length_range], ?_, ?_⟩
      · have h1 : W.cell? ⟨b, off, none⟩ = some (.int .i64 (f 0)) := by simpa [Addr.add] using hc
        by_cases hb : b < W.heap.size
        · exact hb
        · have e : W.heap[b]? = none := Array.getElem?_eq_none (by omega)
          simp [World.cell?, e] at h1
      · intro i y hy
        have hi : i < len := by
          have := (List.getElem?_eq_some_iff.1 hy).1
          simpa using this
        have hy' : y = f i := by
          simp [hi] at hy
          exact hy.symm
        subst hy'
        have k0 := hf i hi
        by_cases hi0 : i = 0
        · subst hi0
          simpa [Addr.add] using k0
        · simpa [Addr.add, show ¬ i * 1 = 0 from by omega, hi0] using k0
theorem boolsAt4 {H : Type} {enc : TypeId × Value → H} {W : World} {m0 : Nat} {v : Value} {y : DataW H × List MemPlace}
    (hf : DataW.trod enc Tryd.prog W 0 (fun _ => true) true m0 33 [v] = some y) : ∃ t : List Bool, BoolsAt W v t := by
  rcases Deep.open_slice Tryd.underlying33 hf with ⟨hcs, _⟩ | ⟨x, len, cap, m, n, D, Pl, hcs, _, hl, hm, hmm, _, hel⟩
  · simp at hcs
    subst hcs
    exact ⟨[], by simp, Or.inl ⟨rfl, none, 0, rfl⟩⟩
  · simp at hcs
    subst hcs
    have hmx := hm
    unfold maxLen at hmx
    simp only [if_true] at hmm
    subst hmm
    rw [cellsBool4] at hel
    have each : ∀ i, i < len → ∃ nd : Bool, W.cell? (x.add (i * 1)) = some (.bool nd) := by
      intro i hi
      obtain ⟨cs', hc, ht⟩ := hel i (by omega)
      obtain ⟨c0, rfl, k0⟩ := one_cell4 hc
      obtain ⟨a, e0, _⟩ := DataW.trod_bool Tryd.underlying4 ht
      simp at e0
      subst e0
      exact ⟨a, k0⟩
    obtain ⟨f, hf⟩ := Deep.choose_lt each
    refine ⟨(List.range len).map f, by simpa using (by omega), ?_⟩
    by_cases h0 : len = 0
    · subst h0
      exact Or.inl ⟨rfl, _, _, rfl⟩
    · obtain ⟨b, off, spot⟩ := x
      have hc := hf 0 (by omega)
      have hspot : spot = none := by simpa [Addr.add] using World.cell?_spot hc
      subst hspot
      refine Or.inr ⟨b, off, _, by rw [List.length_map, List.length_range], ?_, ?_⟩
      · have h1 : W.cell? ⟨b, off, none⟩ = some (.bool (f 0)) := by simpa [Addr.add] using hc
        by_cases hb : b < W.heap.size
        · exact hb
        · have e : W.heap[b]? = none := Array.getElem?_eq_none (by omega)
          simp [World.cell?, e] at h1
      · intro i y hy
        have hi : i < len := by
          have := (List.getElem?_eq_some_iff.1 hy).1
          simpa using this
        have hy' : y = f i := by
          simp [hi] at hy
          exact hy.symm
        subst hy'
        have k0 := hf i hi
        by_cases hi0 : i = 0
        · subst hi0
          simpa [Addr.add] using k0
        · simpa [Addr.add, show ¬ i * 1 = 0 from by omega, hi0] using k0
theorem intsAt_arg {H : Type} {enc : TypeId × Value → H} {W : World} {a : Option Addr} {len cap : Nat} {d : DataW H} {p : List MemPlace} (h : DataW.Trod enc Tryd.prog W 0 (fun _ => true) true 29 (.slice a len cap) d p) : ∃ t : List Int, IntsAt W (.slice a len cap) t := by
  obtain ⟨fuel, hf⟩ := h
  exact intsAt4 hf
theorem boolsAt_arg {H : Type} {enc : TypeId × Value → H} {W : World} {a : Option Addr} {len cap : Nat} {d : DataW H} {p : List MemPlace} (h : DataW.Trod enc Tryd.prog W 0 (fun _ => true) true 33 (.slice a len cap) d p) : ∃ t : List Bool, BoolsAt W (.slice a len cap) t := by
  obtain ⟨fuel, hf⟩ := h
  exact boolsAt4 hf
end Go.Proofs.YtmhpnkfibecnmaaDoor
