/-
  The walks of the exact laws of GoodTerm and KindOf, out of what the program's own two functions do.
-/
import Derived.Test.YtkmgcgmeibhnmaaDoorNodes
namespace Go.Proofs.YtkmgcgmeibhnmaaDoor
open Go Go.RowKit
open M
set_option linter.unusedVariables false

theorem Tab.below {w w' : World} (h : Tab w) (hb : Below w.heap.size w w') (h0 : 0 < w.heap.size) : Tab w' := by
  intro k hk
  rw [hb.cell (p := ⟨0, k, none⟩) h0]
  exact h k hk
theorem Tab.some {w : World} (h : Tab w) : 0 < w.heap.size := by
  have h0 := h 0 (by omega)
  by_cases hb : 0 < w.heap.size
  · exact hb
  · have e : w.heap[0]? = none := Array.getElem?_eq_none (by omega)
    simp [World.cell?, e] at h0
theorem Below.step {B : Nat} {u v w : World} (h : Below B u v) (hB : B ≤ v.heap.size) (k : Below v.heap.size v w) : Below B u w := h.trans (k.mono hB)
/-- what the program's GoodTerm and KindOf are to do -/
def DoesGoodTerm : Prop := ∀ (wide vars : Int) (v : Value) (t : List Nd) (w : World), Tab w → NodesAt w v t → t.length ≤ 1048576 →
  Calls Tryd.prog 19 #[.int .i64 wide, .int .i64 vars, v] w fun e w' => e = .returned (.bool (decide (0 < kindL wide vars t))) ∧ Below w.heap.size w w'
def DoesKindOf : Prop := ∀ (wide vars : Int) (v : Value) (t : List Nd) (w : World), Tab w → NodesAt w v t → t.length ≤ 1048576 →
  Calls Tryd.prog 29 #[.int .i64 wide, .int .i64 vars, v] w fun e w' => e = .returned (.tuple #[.int .i64 (kindL wide vars t), .bool (decide (0 < kindL wide vars t))]) ∧ Below w.heap.size w w'

set_option maxRecDepth 100000 in
set_option maxHeartbeats 1000000 in
theorem goodTerm_law (hI : DoesGoodTerm) (wide vars : Int) (v : Value) (t : List Nd) (w : World) (hT : Tab w) (h : NodesAt w v t) :
    Calls Tryd.prog 6 #[.int .i64 wide, .int .i64 vars, v] w fun e w' => e = .returned (.bool true) ∧ Below w.heap.size w w' := by
  have hlen := h.2.1
  by_cases hl : t.length ≤ 1048576
  · have g0 : Calls Tryd.prog 41 #[v, .int .i64 1048576] w fun e w' => e = .returned (.int .i64 (1048576 - (t.length : Int))) ∧ w' = w := by
      obtain ⟨a, cap, rfl⟩ := h.shape
      have g := szNodeS_any a t.length cap 1048576 hlen (by omega) (by omega) w
      rw [if_neg (by omega)] at g
      exact g
    have gT := fun (w1 : World) (hb : Below w.heap.size w w1) => toNodeS_any v t hl w1 (h.below hb)
    have gS := fun (v1 : Value) (w1 : World) (hN : NodesAt w1 v1 t) => goodTerm_any wide vars v1 t w1 hN
    have gI := fun (v1 : Value) (w1 : World) (hb : Below w.heap.size w w1) (hN : NodesAt w1 v1 t) => hI wide vars v1 t w1 (hT.below hb hT.some) hN hl
    have hnode := fun (w1 : World) (B : Nat) (v1 : Value) (ho : w1.ownsRow B 91 2 v1 t.length (flat t)) => nodes_of_own h.1 hlen ho
    have HN : Hid (∀ (w1 : World) (B : Nat) (v1 : Value), w1.ownsRow B 91 2 v1 t.length (flat t) → NodesAt w1 v1 t) := hnode
    have GT : Hid _ := gT
    have GS : Hid _ := gS
    have GI : Hid _ := gI
    clear hI hT h gT gS gI hnode
    generalize decide (0 < kindL wide vars t) = z at *
    go_enter Tryd.func6, Tryd.ntmps6
    go_wp2_with fail
    refine g0.mono ?_
    rintro e w' ⟨rfl, rfl⟩
    clear g0
    have g1 := GT.out w' (Below.refl _ _)
    go_wp2_with fail
    refine g1.mono ?_
    rintro e w1 ⟨v1, rfl, ho1, hb1⟩
    clear g1
    have g2 := GS.out v1 w1 (HN.out _ _ _ ho1)
    clear ho1
    go_wp2_with fail
    refine g2.mono ?_
    rintro e w2 ⟨rfl, hb2'⟩
    have hb2 := Below.step hb1 hb1.size hb2'
    clear g2 hb1 hb2'
    have g3 := GT.out w2 hb2
    go_wp2_with fail
    refine g3.mono ?_
    rintro e w3 ⟨v3, rfl, ho3, hb3'⟩
    have hb3 := Below.step hb2 hb2.size hb3'
    clear g3 hb2 hb3'
    have hn3 := HN.out _ _ _ ho3
    have g4 := GI.out v3 w3 hb3 hn3
    clear ho3
    go_wp2_with fail
    refine g4.mono ?_
    rintro e w4 ⟨rfl, hb4'⟩
    have hb4 := Below.step hb3 hb3.size hb4'
    have hn4 := hn3.below hb4'
    clear g4 hb3 hb4' hn3
    have g5 := GT.out w4 hb4
    go_wp2_with fail
    refine g5.mono ?_
    rintro e w5 ⟨v5, rfl, ho5, hb5'⟩
    have hb5 := Below.step hb4 hb4.size hb5'
    have hn5 := hn4.below hb5'
    clear g5 hb4 hb5' hn4
    have g6 := eqNodeS_any v3 v5 t t w5 hn5 (HN.out _ _ _ ho5)
    rw [decide_eq_true rfl] at g6
    clear ho5 hn5
    go_wp2_with fail
    refine g6.mono ?_
    rintro e w6 ⟨rfl, hb6'⟩
    have HB : Hid (Below w'.heap.size w' w6) := Below.step hb5 hb5.size hb6'
    clear g6 hb5 hb6'
    go_wp2_with fail
    go_ret
    exact ⟨rfl, HB.out⟩
  · have g0 : Calls Tryd.prog 41 #[v, .int .i64 1048576] w fun e w' => e = .returned (.int .i64 (-1)) ∧ w' = w := by
      obtain ⟨a, cap, rfl⟩ := h.shape
      have g := szNodeS_any a t.length cap 1048576 hlen (by omega) (by omega) w
      rw [if_pos (by omega)] at g
      exact g
    clear h hT hI
    go_enter Tryd.func6, Tryd.ntmps6
    go_wp2_with fail
    refine g0.mono ?_
    rintro e w' ⟨rfl, rfl⟩
    clear g0
    go_wp2_with fail
    go_ret
    exact ⟨rfl, Below.refl _ _⟩
set_option maxRecDepth 100000 in
set_option maxHeartbeats 1000000 in
theorem kindOf_law (hI : DoesKindOf) (wide vars : Int) (v : Value) (t : List Nd) (w : World) (hT : Tab w) (h : NodesAt w v t) :
    Calls Tryd.prog 7 #[.int .i64 wide, .int .i64 vars, v] w fun e w' => e = .returned (.bool true) ∧ Below w.heap.size w w' := by
  have hlen := h.2.1
  by_cases hl : t.length ≤ 1048576
  · have g0 : Calls Tryd.prog 41 #[v, .int .i64 1048576] w fun e w' => e = .returned (.int .i64 (1048576 - (t.length : Int))) ∧ w' = w := by
      obtain ⟨a, cap, rfl⟩ := h.shape
      have g := szNodeS_any a t.length cap 1048576 hlen (by omega) (by omega) w
      rw [if_neg (by omega)] at g
      exact g
    have gT := fun (w1 : World) (hb : Below w.heap.size w w1) => toNodeS_any v t hl w1 (h.below hb)
    have gS := fun (v1 : Value) (w1 : World) (hN : NodesAt w1 v1 t) => kindOf_any wide vars v1 t w1 hN
    have gI := fun (v1 : Value) (w1 : World) (hb : Below w.heap.size w w1) (hN : NodesAt w1 v1 t) => hI wide vars v1 t w1 (hT.below hb hT.some) hN hl
    have hnode := fun (w1 : World) (B : Nat) (v1 : Value) (ho : w1.ownsRow B 91 2 v1 t.length (flat t)) => nodes_of_own h.1 hlen ho
    have HN : Hid (∀ (w1 : World) (B : Nat) (v1 : Value), w1.ownsRow B 91 2 v1 t.length (flat t) → NodesAt w1 v1 t) := hnode
    have GT : Hid _ := gT
    have GS : Hid _ := gS
    have GI : Hid _ := gI
    clear hI hT h gT gS gI hnode
    generalize decide (0 < kindL wide vars t) = z at *
    generalize kindL wide vars t = kk at *
    go_enter Tryd.func7, Tryd.ntmps7
    go_wp2_with fail
    refine g0.mono ?_
    rintro e w' ⟨rfl, rfl⟩
    clear g0
    have g1 := GT.out w' (Below.refl _ _)
    go_wp2_with fail
    refine g1.mono ?_
    rintro e w1 ⟨v1, rfl, ho1, hb1⟩
    clear g1
    have g2 := GS.out v1 w1 (HN.out _ _ _ ho1)
    clear ho1
    go_wp2_with fail
    refine g2.mono ?_
    rintro e w2 ⟨rfl, hb2'⟩
    have hb2 := Below.step hb1 hb1.size hb2'
    clear g2 hb1 hb2'
    have g3 := GT.out w2 hb2
    go_wp2_with fail
    refine g3.mono ?_
    rintro e w3 ⟨v3, rfl, ho3, hb3'⟩
    have hb3 := Below.step hb2 hb2.size hb3'
    clear g3 hb2 hb3'
    have hn3 := HN.out _ _ _ ho3
    have g4 := GI.out v3 w3 hb3 hn3
    clear ho3
    go_wp2_with fail
    refine g4.mono ?_
    rintro e w4 ⟨rfl, hb4'⟩
    have hb4 := Below.step hb3 hb3.size hb4'
    have hn4 := hn3.below hb4'
    clear g4 hb3 hb4' hn3
    have g5 := GT.out w4 hb4
    go_wp2_with fail
    refine g5.mono ?_
    rintro e w5 ⟨v5, rfl, ho5, hb5'⟩
    have hb5 := Below.step hb4 hb4.size hb5'
    have hn5 := hn4.below hb5'
    clear g5 hb4 hb5' hn4
    have g6 := eqNodeS_any v3 v5 t t w5 hn5 (HN.out _ _ _ ho5)
    rw [decide_eq_true rfl] at g6
    clear ho5 hn5
    go_wp2_with fail
    refine g6.mono ?_
    rintro e w6 ⟨rfl, hb6'⟩
    have HB : Hid (Below w'.heap.size w' w6) := Below.step hb5 hb5.size hb6'
    clear g6 hb5 hb6'
    go_wp2_with fail
    go_ret
    exact ⟨rfl, HB.out⟩
  · have g0 : Calls Tryd.prog 41 #[v, .int .i64 1048576] w fun e w' => e = .returned (.int .i64 (-1)) ∧ w' = w := by
      obtain ⟨a, cap, rfl⟩ := h.shape
      have g := szNodeS_any a t.length cap 1048576 hlen (by omega) (by omega) w
      rw [if_pos (by omega)] at g
      exact g
    clear h hT hI
    go_enter Tryd.func7, Tryd.ntmps7
    go_wp2_with fail
    refine g0.mono ?_
    rintro e w' ⟨rfl, rfl⟩
    clear g0
    go_wp2_with fail
    go_ret
    exact ⟨rfl, Below.refl _ _⟩
end Go.Proofs.YtkmgcgmeibhnmaaDoor
