/-
  Circuits, lists of numbers and of bools that came in, as the walks take them.
-/
import Derived.Test.YtmjeaceabjinfaaOwn3
import Derived.Deep.Slices
import Derived.Deep.Strs
import Derived.OpenShut
import Derived.ProofKit
namespace Go.Proofs.Ytmjeaceabjinfaa
open Go Go.ChangeShapes Go.WideShapes Go.ChangeAt Go.RowKit
open M
set_option linter.unusedVariables false

theorem cellsGate : Try.prog.cellsOf 169 = 3 := by kernel_rfl
theorem cellsInt4 : Try.prog.cellsOf 3 = 1 := by kernel_rfl
theorem cellsBool4 : Try.prog.cellsOf 4 = 1 := by kernel_rfl
theorem cellsGates4 : Try.prog.cellsOf 87 = 1 := by kernel_rfl
theorem cellsInts4 : Try.prog.cellsOf 25 = 1 := by kernel_rfl
theorem three_cells {w : World} {a : Addr} {cs : List Value} (h : w.cells? 0 a 3 = some cs) : ∃ c0 c1 c2, cs = [c0, c1, c2] ∧ w.cell? a = some c0 ∧ w.cell? (a.add 1) = some c1 ∧ w.cell? (a.add 2) = some c2 := by
  obtain ⟨_, hl, hc⟩ := World.cells?_some h
  match cs, hl with
  | [c0, c1, c2], _ =>
    refine ⟨c0, c1, c2, rfl, ?_, ?_, ?_⟩
    · have h0 := hc 0 (by omega)
      simpa [Addr.add] using h0
    · have h1 := hc 1 (by omega)
      simpa using h1
    · have h2 := hc 2 (by omega)
      simpa using h2
theorem one_cell4 {w : World} {a : Addr} {cs : List Value} (h : w.cells? 0 a 1 = some cs) : ∃ c0, cs = [c0] ∧ w.cell? a = some c0 := by
  obtain ⟨_, hl, hc⟩ := World.cells?_some h
  match cs, hl with
  | [c0], _ =>
    refine ⟨c0, rfl, ?_⟩
    have h0 := hc 0 (by omega)
    simpa [Addr.add] using h0
theorem gate_of {H : Type} {enc : TypeId × Value → H} {W : World} {n : Nat} {c0 c1 c2 : Value} {x : DataW H × List MemPlace} (h : DataW.trod enc Try.prog W 0 (fun _ => true) true n 169 [c0, c1, c2] = some x) :
    ∃ g : Gt, c0 = .int .i64 g.1 ∧ c1 = .int .i64 g.2.1 ∧ c2 = .int .i64 g.2.2 ∧ GtOk g := by
  obtain ⟨y0, y1, y2, m, _, _, h0, h1, h2⟩ := Deep.trod_struct3 Try.underlying169 h
  simp only [cellsInt4] at h0 h1 h2
  obtain ⟨a, e0, _, wa⟩ := DataW.trod_int Try.underlying3 h0
  obtain ⟨b, e1, _, wb⟩ := DataW.trod_int Try.underlying3 h1
  obtain ⟨c, e2, _, wc⟩ := DataW.trod_int Try.underlying3 h2
  simp at e0 e1 e2
  have ba := bounds_i64 wa
  have bb := bounds_i64 wb
  have bc := bounds_i64 wc
  exact ⟨(a, b, c), e0, e1, e2, ba, bb, bc⟩
theorem gatesAt_of {H : Type} {enc : TypeId × Value → H} {W : World} {m0 : Nat} {v : Value} {y : DataW H × List MemPlace}
    (hf : DataW.trod enc Try.prog W 0 (fun _ => true) true m0 87 [v] = some y) : ∃ t : List Gt, GatesAt W v t := by
  rcases Deep.open_slice Try.underlying87 hf with ⟨hcs, _⟩ | ⟨x, len, cap, m, n, D, Pl, hcs, _, hl, hm, hmm, _, hel⟩
  · simp at hcs
    subst hcs
    exact ⟨[], by simp, by simp, Or.inl ⟨rfl, none, 0, rfl⟩⟩
  · simp at hcs
    subst hcs
    have hmx := hm
    unfold maxLen at hmx
    simp only [if_true] at hmm
    subst hmm
    rw [cellsGate] at hel
    have each : ∀ i, i < len → ∃ nd : Gt, W.cell? (x.add (i * 3)) = some (.int .i64 nd.1) ∧ W.cell? (x.add (i * 3 + 1)) = some (.int .i64 nd.2.1) ∧ W.cell? (x.add (i * 3 + 2)) = some (.int .i64 nd.2.2) ∧ GtOk nd := by
      intro i hi
      obtain ⟨cs', hc, ht⟩ := hel i (by omega)
      obtain ⟨c0, c1, c2, rfl, k0, k1, k2⟩ := three_cells hc
      obtain ⟨nd, rfl, rfl, rfl, ok⟩ := gate_of ht
      rw [Deep.add_add] at k1 k2
      exact ⟨nd, k0, k1, k2, ok⟩
    obtain ⟨f, hf⟩ := Deep.choose_lt each
    refine ⟨(List.range len).map f, ?_, by simpa using (by omega), ?_⟩
    · intro y hy
      obtain ⟨i, hi, rfl⟩ := List.mem_map.1 hy
      exact (hf i (List.mem_range.1 hi)).2.2.2
    · by_cases h0 : len = 0
      · subst h0
        exact Or.inl ⟨rfl, _, _, rfl⟩
      · obtain ⟨b, off, spot⟩ := x
        have hc := (hf 0 (by omega)).1
        have hspot : spot = none := by simpa [Addr.add] using World.cell?_spot hc
        subst hspot
        refine Or.inr ⟨b, off, _, by rw [List.length_map, List.length_range], ?_, ?_⟩
        · have h1 : W.cell? ⟨b, off, none⟩ = some (.int .i64 (f 0).1) := by simpa [Addr.add] using hc
          by_cases hb : b < W.heap.size
          · exact hb
          · have e : W.heap[b]? = none := Array.getElem?_eq_none (by omega)
            simp [World.cell?, e] at h1
        · intro i y hy
          have hi : i < len := by
            have := (List.getElem?_eq_some_iff.1 hy).1
            simpa using this
          have hy' : y = f i := by
            simp [hi] at hy
            exact hy.symm
          subst hy'
          obtain ⟨k0, k1, k2, _⟩ := hf i hi
          refine ⟨?_, ?_, ?_⟩
          · by_cases hi0 : i = 0
            · subst hi0
              simpa [Addr.add] using k0
            · simpa [Addr.add, show ¬ i * 3 = 0 from by omega] using k0
          · simpa [Addr.add, Nat.add_assoc] using k1
          · simpa [Addr.add, Nat.add_assoc] using k2
theorem intsAt4 {H : Type} {enc : TypeId × Value → H} {W : World} {m0 : Nat} {v : Value} {y : DataW H × List MemPlace}
    (hf : DataW.trod enc Try.prog W 0 (fun _ => true) true m0 25 [v] = some y) : ∃ t : List Int, IntsAt W v t := by
  rcases Deep.open_slice Try.underlying25 hf with ⟨hcs, _⟩ | ⟨x, len, cap, m, n, D, Pl, hcs, _, hl, hm, hmm, _, hel⟩
  · simp at hcs
    subst hcs
    exact ⟨[], by simp, Or.inl ⟨rfl, none, 0, rfl⟩⟩
  · simp at hcs
    subst hcs
    have hmx := hm
    unfold maxLen at hmx
    simp only [if_true] at hmm
    subst hmm
    rw [cellsInt4] at hel
    have each : ∀ i, i < len → ∃ nd : Int, W.cell? (x.add (i * 1)) = some (.int .i64 nd) := by
      intro i hi
      obtain ⟨cs', hc, ht⟩ := hel i (by omega)
      obtain ⟨c0, rfl, k0⟩ := one_cell4 hc
      obtain ⟨a, e0, _, wa⟩ := DataW.trod_int Try.underlying3 ht
      simp at e0
      subst e0
      exact ⟨a, k0⟩
    obtain ⟨f, hf⟩ := Deep.choose_lt each
    refine ⟨(List.range len).map f, by simpa using (by omega), ?_⟩
    by_cases h0 : len = 0
    · subst h0
      exact Or.inl ⟨rfl, _, _, rfl⟩
    · obtain ⟨b, off, spot⟩ := x
      have hc := hf 0 (by omega)
      have hspot : spot = none := by simpa [Addr.add] using World.cell?_spot hc
      subst hspot
      refine Or.inr ⟨b, off, _, by rw [List.length_map, List.length_range], ?_, ?_⟩
      · have h1 : W.cell? ⟨b, off, none⟩ = some (.int .i64 (f 0)) := by simpa [Addr.add] using hc
        by_cases hb : b < W.heap.size
        · exact hb
        · have e : W.heap[b]? = none := Array.getElem?_eq_none (by omega)
          simp [World.cell?, e] at h1
      · intro i y hy
        have hi : i < len := by
          have := (List.getElem?_eq_some_iff.1 hy).1
          simpa using this
        have hy' : y = f i := by
          simp [hi] at hy
          exact hy.symm
        subst hy'
        have k0 := hf i hi
        by_cases hi0 : i = 0
        · subst hi0
          simpa [Addr.add] using k0
        · simpa [Addr.add, show ¬ i * 1 = 0 from by omega, hi0] using k0
theorem boolsAt4 {H : Type} {enc : TypeId × Value → H} {W : World} {m0 : Nat} {v : Value} {y : DataW H × List MemPlace}
    (hf : DataW.trod enc Try.prog W 0 (fun _ => true) true m0 33 [v] = some y) : ∃ t : List Bool, BoolsAt W v t := by
  rcases Deep.open_slice Try.underlying33 hf with ⟨hcs, _⟩ | ⟨x, len, cap, m, n, D, Pl, hcs, _, hl, hm, hmm, _, hel⟩
  · simp at hcs
    subst hcs
    exact ⟨[], by simp, Or.inl ⟨rfl, none, 0, rfl⟩⟩
  · simp at hcs
    subst hcs
    have hmx := hm
    unfold maxLen at hmx
    simp only [if_true] at hmm
    subst hmm
    rw [cellsBool4] at hel
    have each : ∀ i, i < len → ∃ nd : Bool, W.cell? (x.add (i * 1)) = some (.bool nd) := by
      intro i hi
      obtain ⟨cs', hc, ht⟩ := hel i (by omega)
      obtain ⟨c0, rfl, k0⟩ := one_cell4 hc
      obtain ⟨a, e0, _⟩ := DataW.trod_bool Try.underlying4 ht
      simp at e0
      subst e0
      exact ⟨a, k0⟩
    obtain ⟨f, hf⟩ := Deep.choose_lt each
    refine ⟨(List.range len).map f, by simpa using (by omega), ?_⟩
    by_cases h0 : len = 0
    · subst h0
      exact Or.inl ⟨rfl, _, _, rfl⟩
    · obtain ⟨b, off, spot⟩ := x
      have hc := hf 0 (by omega)
      have hspot : spot = none := by simpa [Addr.add] using World.cell?_spot hc
      subst hspot
      refine Or.inr ⟨b, off, _, by rw [List.length_map, List.length_range], ?_, ?_⟩
      · have h1 : W.cell? ⟨b, off, none⟩ = some (.bool (f 0)) := by simpa [Addr.add] using hc
        by_cases hb : b < W.heap.size
        · exact hb
        · have e : W.heap[b]? = none := Array.getElem?_eq_none (by omega)
          simp [World.cell?, e] at h1
      · intro i y hy
        have hi : i < len := by
          have := (List.getElem?_eq_some_iff.1 hy).1
          simpa using this
        have hy' : y = f i := by
          simp [hi] at hy
          exact hy.symm
        subst hy'
        have k0 := hf i hi
        by_cases hi0 : i = 0
        · subst hi0
          simpa [Addr.add] using k0
        · simpa [Addr.add, show ¬ i * 1 = 0 from by omega, hi0] using k0
set_option maxRecDepth 100000 in
theorem circAt_of {H : Type} {enc : TypeId × Value → H} {W : World} {base : Nat} {v : Value} {d : DataW H} {p : List MemPlace} (hv : Value.okWide Try.prog W .any base 89 v)
    (h : DataW.Trod enc Try.prog W 0 (fun _ => true) true 89 v d p) : ∃ c : Ci, AtCirc W v c := by
  obtain ⟨cs, rfl, hsz⟩ := okWide_struct Try.underlying89 hv
  obtain ⟨fuel, hf⟩ := h
  obtain ⟨y0, y1, y2, m, _, hl, h0, h1, h2⟩ := Deep.trod_struct3 Try.underlying89 hf
  simp only [cellsInt4, cellsGates4, cellsInts4] at h0 h1 h2
  have hsz3 : cs.size = 3 := hsz.trans (by kernel_rfl)
  obtain ⟨l⟩ := cs
  match l, hsz3 with
  | [c0, c1, c2], _ =>
    obtain ⟨a, e0, _, wa⟩ := DataW.trod_int Try.underlying3 h0
    simp [Value.cells] at e0 h1 h2
    subst e0
    obtain ⟨t, ht⟩ := gatesAt_of h1
    obtain ⟨o, ho⟩ := intsAt4 h2
    exact ⟨(a, t, o), bounds_i64 wa, c1, c2, rfl, ht, ho⟩
theorem intsAt_arg {H : Type} {enc : TypeId × Value → H} {W : World} {a : Option Addr} {len cap : Nat} {d : DataW H} {p : List MemPlace} (h : DataW.Trod enc Try.prog W 0 (fun _ => true) true 25 (.slice a len cap) d p) : ∃ t : List Int, IntsAt W (.slice a len cap) t := by
  obtain ⟨fuel, hf⟩ := h
  exact intsAt4 hf
theorem boolsAt_arg {H : Type} {enc : TypeId × Value → H} {W : World} {a : Option Addr} {len cap : Nat} {d : DataW H} {p : List MemPlace} (h : DataW.Trod enc Try.prog W 0 (fun _ => true) true 33 (.slice a len cap) d p) : ∃ t : List Bool, BoolsAt W (.slice a len cap) t := by
  obtain ⟨fuel, hf⟩ := h
  exact boolsAt4 hf
end Go.Proofs.Ytmjeaceabjinfaa
