/-
  Lists of lists of numbers in memory: the laws' sizes, copies, comparisons and marks of them, and one that came in.
-/
import Derived.Test.YtmhpnkfibecnmaaDoorIntS
import Derived.Test.YtmhpnkfibecnmaaDoorArgC
import Derived.Test.YtmhpnkfibecnmaaDoorOwn
import Derived.Deep.RegionWith
namespace Go.Proofs.YtmhpnkfibecnmaaDoor
open Go Go.RowKit
open M
set_option linter.unusedVariables false

/-- a slice of slices of numbers -/
def IntsSS (w : World) (v : Value) (bs : List (List Int)) : Prop :=
  bs.length ≤ 9223372036854775807 ∧ ((bs = [] ∧ ∃ (a : Option Addr) (cap : Nat), v = .slice a 0 cap) ∨
  ∃ b off cap : Nat, v = .slice (some ⟨b, off, none⟩) bs.length cap ∧ b < w.heap.size ∧ ∀ (i : Nat) (t : List Int), bs[i]? = some t → ∃ u : Value, w.cell? ⟨b, off + i, none⟩ = some u ∧ IntsAt w u t)
theorem IntsSS.below {w w' : World} {v : Value} {bs : List (List Int)} (h : IntsSS w v bs) (hb : Below w.heap.size w w') : IntsSS w' v bs := by
  obtain ⟨h1, h2⟩ := h
  refine ⟨h1, ?_⟩
  rcases h2 with h2 | ⟨b, off, cap, hv, hlt, hc⟩
  · exact Or.inl h2
  · refine Or.inr ⟨b, off, cap, hv, Nat.lt_of_lt_of_le hlt hb.size, fun i t ht => ?_⟩
    obtain ⟨u, h3, h4⟩ := hc i t ht
    refine ⟨u, ?_, h4.below hb⟩
    rw [hb.cell (p := ⟨b, off + i, none⟩) hlt]
    exact h3
theorem IntsSS.shape {w : World} {v : Value} {bs : List (List Int)} (h : IntsSS w v bs) : ∃ (a : Option Addr) (cap : Nat), v = .slice a bs.length cap := by
  rcases h.2 with ⟨rfl, a, cap, h⟩ | ⟨b, off, cap, h, _⟩
  · exact ⟨a, cap, h⟩
  · exact ⟨_, cap, h⟩
def OwnInts2 (w : World) (B : Nat) (v : Value) (t : List Int) : Prop := w.ownsRow B 3 1 v t.length (cellsI t)
theorem OwnInts2.low {w : World} {B C : Nat} {v : Value} {t : List Int} (h : OwnInts2 w B v t) (hc : C ≤ B) : OwnInts2 w C v t := by
  obtain ⟨h1, h2⟩ := h
  refine ⟨h1, ?_⟩
  rcases h2 with h2 | ⟨g, cp, cur, hv, hg, r⟩
  · exact Or.inl h2
  · exact Or.inr ⟨g, cp, cur, hv, by omega, r⟩

/-- how many nodes lie in lists -/
def sumI : List (List Int) → Nat
  | [] => 0
  | t :: r => t.length + sumI r
theorem sumI_append : ∀ a b : List (List Int), sumI (a ++ b) = sumI a + sumI b
  | [], b => by simp [sumI]
  | t :: r, b => by
    rw [List.cons_append]
    simp only [sumI]
    rw [sumI_append r b]
    omega
theorem sumI_take (bs : List (List Int)) (j : Nat) : sumI (bs.take j) ≤ sumI bs := by
  have h : sumI (bs.take j ++ bs.drop j) = sumI bs := by rw [List.take_append_drop]
  rw [sumI_append] at h
  omega
theorem sumI_snoc (bs : List (List Int)) (j : Nat) (u : List Int) (hu : bs[j]? = some u) : sumI (bs.take (j + 1)) = sumI (bs.take j) + u.length := by
  rw [List.take_add_one, hu]
  show sumI (bs.take j ++ [u]) = _
  rw [sumI_append]
  simp [sumI]
theorem infoInts2 : (Tryd.prog.info? 29).map (fun i => (i.zero, i.size, i.bytes)) = some (some (.slice none 0 0), 1, 24) := by kernel_rfl
/-- nodes are kept where a row of lists grows -/
theorem ints_apart2 {w w7 : World} {B B' n : Nat} {v u : Value} {us : List Value} {b : List Int} (hv : w.ownsRow B 29 1 v n us) (hu : OwnInts2 w B' u b) (grow : w.grownBy w7 v.ownBlock) : OwnInts2 w7 B' u b := by
  obtain ⟨h1, h2⟩ := hu
  refine ⟨h1, ?_⟩
  rcases h2 with h2 | ⟨g, cap, cur, he, hg, hh, r⟩
  · exact Or.inl h2
  · refine Or.inr ⟨g, cap, cur, he, hg, ?_, r⟩
    rw [grow.block g (Array.getElem?_eq_some_iff.1 hh).1 ?_]
    · exact hh
    · intro e
      rcases hv.2 with ⟨rfl, _⟩ | ⟨g', cap', cur', rfl, _, hh', _⟩
      · cases e
      · have e2 : g = g' := Option.some.inj e
        rw [← e2, hh] at hh'
        simp at hh'
/-- what is left of a size behind lists of numbers, less than 0 where they are too many -/
def leftIS (left : Int) (bs : List (List Int)) : Int := if left - bs.length < sumI bs then -1 else left - bs.length - sumI bs
/-- some row of numbers, whatever they are -/
def AnyInts (w : World) (B : Nat) (u : Value) (n : Nat) : Prop := ∃ xs, w.ownsRow B 3 1 u n xs
/-- marks in one row leave every row a row -/
theorem anyI_kept {w w' : World} {B : Nat} {u x : Value} {n m : Nat} {ys : List Value} (h : AnyInts w B u n) (hx : AnyInts w B x m) (hx' : w'.ownsRow B 3 1 x m ys) (hg : w.grownBy w' x.ownBlock) : AnyInts w' B u n := by
  obtain ⟨xs, h1, h2⟩ := h
  rcases h2 with ⟨rfl, h0⟩ | ⟨g, cap, cur, rfl, hB, hh, hc, hm, hs, ht⟩
  · exact ⟨[], by subst h0; rfl, Or.inl ⟨rfl, h0⟩⟩
  · by_cases e : some g = x.ownBlock
    · obtain ⟨zs, _, hz⟩ := hx
      rcases hz with ⟨rfl, _⟩ | ⟨g1, cap1, cur1, rfl, _, hh1, _, _, hs1, _⟩
      · cases e
      · obtain rfl : g = g1 := Option.some.inj e
        rw [hh] at hh1
        simp at hh1
        subst hh1
        rcases hx'.2 with ⟨h9, _⟩ | ⟨g2, cap2, cur2, h9, _, hh2, _, _, hs2, _⟩
        · cases h9
        · simp at h9
          obtain ⟨rfl, rfl⟩ := h9
          refine ⟨cur2.toList.take (n * 1), ?_, Or.inr ⟨g, cap, cur2, rfl, hB, hh2, hc, hm, by omega, rfl⟩⟩
          simp
          omega
    · refine ⟨xs, h1, Or.inr ⟨g, cap, cur, rfl, hB, ?_, hc, hm, hs, ht⟩⟩
      rw [hg.block g (Array.getElem?_eq_some_iff.1 hh).1 e]
      exact hh

/-- lists of numbers in a row, all of it owned from B on, whatever they are -/
def ISO (w : World) (B : Nat) (v : Value) (us : List Value) (bs : List (List Int)) : Prop :=
  w.ownsRow B 29 1 v us.length us ∧ us.length = bs.length ∧ ∀ (i : Nat) (u : Value) (b : List Int), us[i]? = some u → bs[i]? = some b → OwnInts2 w B u b
theorem ISO.below {w w' : World} {B : Nat} {v : Value} {us : List Value} {bs : List (List Int)} (h : ISO w B v us bs) (hb : Below w.heap.size w w') : ISO w' B v us bs :=
  ⟨owns_below h.1 hb, h.2.1, fun i u x hu hx => owns_below (h.2.2 i u x hu hx) hb⟩
theorem ISO.ss {w : World} {B : Nat} {v : Value} {us : List Value} {bs : List (List Int)} (h : ISO w B v us bs) (hl : bs.length ≤ 1048576) (hok : ∀ b ∈ bs, b.length ≤ 1048576) : IntsSS w v bs := by
  refine ⟨by omega, ?_⟩
  rcases h.1.2 with ⟨rfl, h0⟩ | ⟨g, cap, cur, rfl, hg, hh, _⟩
  · exact Or.inl ⟨List.length_eq_zero_iff.1 (by rw [← h.2.1]; exact h0), none, 0, rfl⟩
  · refine Or.inr ⟨g, 0, cap, by rw [h.2.1], (Array.getElem?_eq_some_iff.1 hh).1, fun i t ht => ?_⟩
    have hi : i < us.length := by
      rw [h.2.1]
      exact (List.getElem?_eq_some_iff.1 ht).1
    obtain ⟨u, hu⟩ : ∃ u, us[i]? = some u := ⟨us[i], List.getElem?_eq_getElem hi⟩
    have p1 := h.2.2 i u t hu ht
    have p3 := hok t (List.mem_of_getElem? ht)
    refine ⟨u, ?_, ints_of_own (by omega) p1⟩
    rw [Nat.zero_add, h.1.cellAt i (by omega)]
    exact hu
/-- what lies from C on is as before -/
def HighI (C : Nat) (w w' : World) : Prop := w.heap.size ≤ w'.heap.size ∧ ∀ k, C ≤ k → k < w.heap.size → w'.heap[k]? = w.heap[k]?
theorem HighI.refl (C : Nat) (w : World) : HighI C w w := ⟨Nat.le_refl _, fun _ _ _ => rfl⟩
theorem HighI.grown {C : Nat} {w w1 w2 : World} {row : Option Nat} (h : HighI C w w1) (hg : w1.grownBy w2 row) (hr : ∀ k, row = some k → k < C) : HighI C w w2 := by
  refine ⟨Nat.le_trans h.1 hg.size, fun k hk hs => ?_⟩
  rw [hg.block k (by have := h.1; omega) (fun e => by have := hr k e.symm; omega)]
  exact h.2 k hk hs
theorem own_highI {w w' : World} {C : Nat} {e : TypeId} {s : Nat} {v : Value} {n : Nat} {xs : List Value} (h : w.ownsRow C e s v n xs) (hh : HighI C w w') : w'.ownsRow C e s v n xs := by
  obtain ⟨h1, h2⟩ := h
  refine ⟨h1, ?_⟩
  rcases h2 with h2 | ⟨g, cap, cur, hv, hB, hg, r⟩
  · exact Or.inl h2
  · refine Or.inr ⟨g, cap, cur, hv, hB, ?_, r⟩
    rw [hh.2 g hB (Array.getElem?_eq_some_iff.1 hg).1]
    exact hg
theorem ISO.other {w w' : World} {B : Nat} {v : Value} {us : List Value} {bs : List (List Int)} {row : Option Nat} (h : ISO w B v us bs) (hg : w.grownBy w' row) (hr : ∀ k, row = some k → k < B) : ISO w' B v us bs :=
  ⟨own_other h.1 hg hr, h.2.1, fun i u x hu hx => own_other (h.2.2 i u x hu hx) hg hr⟩
/-- all of it lies below the heap's end -/
theorem ISO.under {w : World} {B : Nat} {v : Value} {us : List Value} {bs : List (List Int)} (h : ISO w B v us bs) (i : Nat) (u : Value) (k : Nat) (hu : us[i]? = some u) (hk : u.ownBlock = some k) : k < w.heap.size := by
  have hi : i < bs.length := by
    rw [← h.2.1]
    exact (List.getElem?_eq_some_iff.1 hu).1
  exact (own_block (h.2.2 i u bs[i] hu (List.getElem?_eq_getElem hi)) hk).2
theorem made_nilI : ∀ n : Nat, (madeCells #[Value.slice none 0 0] n).toList = List.replicate n (.slice none 0 0)
  | 0 => by simp [madeCells]
  | n + 1 => by
    have ih := made_nilI n
    unfold madeCells at *
    rw [Array.toList_map, Array.toList_range] at *
    rw [List.range_succ, List.map_append, ih, List.replicate_succ']
    simp [Nat.mod_one]
theorem set_nilI (us : List Value) (n : Nat) (x : Value) (h : us.length < n) : (us ++ List.replicate (n - us.length) (Value.slice none 0 0)).set us.length x = (us ++ [x]) ++ List.replicate (n - (us.length + 1)) (.slice none 0 0) := by
  obtain ⟨m, hm⟩ : ∃ m, n - us.length = m + 1 := ⟨n - us.length - 1, by omega⟩
  have hm' : n - (us.length + 1) = m := by omega
  rw [hm, hm', List.replicate_succ, List.append_assoc, List.set_append_right _ _ (by omega), Nat.sub_self]
  rfl
section
open Go.ChangeShapes Go.WideShapes Go.ChangeAt

theorem cellsInts2 : Tryd.prog.cellsOf 29 = 1 := by kernel_rfl
theorem intsAt_cell {H : Type} {enc : TypeId × Value → H} {W : World} {u : Value} {n : Nat} {x : DataW H × List MemPlace}
    (h : DataW.trod enc Tryd.prog W 0 (fun _ => true) true n 29 [u] = some x) : ∃ t : List Int, IntsAt W u t := by
  rcases Deep.open_slice Tryd.underlying29 h with ⟨hcs, _⟩ | ⟨a, l, c, m, n', D, Pl, hcs, _⟩
  · simp at hcs
    subst hcs
    exact intsAt_arg (d := x.1) (p := x.2) ⟨n, h⟩
  · simp at hcs
    subst hcs
    exact intsAt_arg (d := x.1) (p := x.2) ⟨n, h⟩
end
end Go.Proofs.YtmhpnkfibecnmaaDoor
