/-
  A good lasso or none: the program's ifGood, the model's l9Made.
-/
import Derived.Test.YthamdefkcjfjpaaSLasso
import Derived.Test.YthamdefkcjfjpaaIGoodL
import Derived.Test.YthamdefkcjfjpaaRw9
namespace Go.Proofs.Ythamdefkcjfjpaa
open Go Go.RowKit
open M
set_option linter.unusedVariables false
set_option linter.unusedSimpArgs false

set_option maxRecDepth 100000 in
set_option maxHeartbeats 2000000 in
theorem ifGood_any (v : Value) (l : La) (w : World) (h : AtLa w v l) :
    Calls Try.prog 60 #[v] w fun e w' => e = .returned (.tuple #[bif goodLa l then v else .agg #[.slice none 0 0, .slice none 0 0], .bool (goodLa l)]) ∧ Below w.heap.size w w' := by
  have HG : Hid (∀ w1 : World, Below w.heap.size w w1 → Calls Try.prog 20 #[v] w1 fun e w' => e = .returned (.bool (goodLa l)) ∧ Below w1.heap.size w1 w') := fun w1 hb => iGoodLasso_any v l w1 (h.below hb)
  obtain ⟨ga, gn, gc, oa, on, oc, rfl⟩ := h.shape
  have hb2 : Below w.heap.size w ((w.alloc (.cells #[.slice ga gn gc, .slice oa on oc] 26)).alloc (.cells #[.slice none 0 0, .slice none 0 0] 26)) := ((Below.refl _ _).alloc (Nat.le_refl _) _).alloc (by rw [World.size_alloc]; omega) _
  have HB0 : Hid _ := hb2
  have x0 := (box2_alloc w 26 (.slice ga gn gc) (.slice oa on oc)).alloc (.cells #[.slice none 0 0, .slice none 0 0] 26)
  have y0 := box2_alloc (w.alloc (.cells #[.slice ga gn gc, .slice oa on oc] 26)) 26 (.slice none 0 0) (.slice none 0 0)
  simp only [World.size_alloc] at y0
  have HX0 : Hid _ := x0
  have HY0 : Hid _ := y0
  have hz0 : ((w.alloc (.cells #[.slice ga gn gc, .slice oa on oc] 26)).alloc (.cells #[.slice none 0 0, .slice none 0 0] 26)).heap.size = w.heap.size + 2 := by rw [World.size_alloc, World.size_alloc]
  obtain ⟨a0, a1⟩ := x0.cells
  have ah := x0.heap
  have al := x0.lt
  have g := HG.out _ HB0.out
  clear h HG hb2 x0 y0
  generalize goodLa l = GB at *
  cases GB with
  | false =>
    go_enter Try.func60, Try.ntmps60
    go_wp2_with fail
    refine g.mono ?_
    clear a0 a1 ah al
    generalize (w.alloc (.cells #[.slice ga gn gc, .slice oa on oc] 26)).alloc (.cells #[.slice none 0 0, .slice none 0 0] 26) = w0 at *
    rintro e w1 ⟨rfl, hs⟩
    have HB1 : Hid (Below w.heap.size w w1) := HB0.out.trans (hs.mono (by omega))
    have y1 := HY0.out.below hs (by omega)
    clear g hs
    obtain ⟨k0, k1⟩ := y1.cells
    have kh := y1.heap
    have kl := y1.lt
    have kf0 := y1.frozen 0
    have kf1 := y1.frozen 1
    have y9 := (y1.set0 (.slice none 0 0)).set1 (.slice none 0 0)
    have hyh := y9.heap
    have HBE : Hid (Below w.heap.size w ((w1.setCell ⟨w.heap.size + 1, 0, none⟩ (.slice none 0 0)).setCell ⟨w.heap.size + 1, 1, none⟩ (.slice none 0 0))) := (HB1.out.setCell (by show w.heap.size ≤ w.heap.size + 1; omega) _).setCell (by show w.heap.size ≤ w.heap.size + 1; omega) _
    clear HX0 HY0 y9 y1
    go_wp2_with fail
    refine bodyPost_ret (results_la rfl _ _ (w.heap.size + 1) 26 _ (0, 0) _ rfl hyh Try.underlying26 rfl (by kernel_rfl)) rfl ?_
    exact ⟨rfl, HBE.out⟩
  | true =>
    go_enter Try.func60, Try.ntmps60
    go_wp2_with fail
    refine g.mono ?_
    clear a0 a1 ah al
    generalize (w.alloc (.cells #[.slice ga gn gc, .slice oa on oc] 26)).alloc (.cells #[.slice none 0 0, .slice none 0 0] 26) = w0 at *
    rintro e w1 ⟨rfl, hs⟩
    have HB1 : Hid (Below w.heap.size w w1) := HB0.out.trans (hs.mono (by omega))
    have y1 := HY0.out.below hs (by omega)
    have x1 := HX0.out.below hs (by omega)
    obtain ⟨a0, a1⟩ := x1.cells
    have ah := x1.heap
    have al := x1.lt
    clear g hs
    obtain ⟨k0, k1⟩ := y1.cells
    have kh := y1.heap
    have kl := y1.lt
    have kf0 := y1.frozen 0
    have kf1 := y1.frozen 1
    have y9 := (y1.set0 (.slice ga gn gc)).set1 (.slice oa on oc)
    have hyh := y9.heap
    have HBE : Hid (Below w.heap.size w ((w1.setCell ⟨w.heap.size + 1, 0, none⟩ (.slice ga gn gc)).setCell ⟨w.heap.size + 1, 1, none⟩ (.slice oa on oc))) := (HB1.out.setCell (by show w.heap.size ≤ w.heap.size + 1; omega) _).setCell (by show w.heap.size ≤ w.heap.size + 1; omega) _
    clear HX0 HY0 x1 y1 y9
    go_wp2_with fail
    refine bodyPost_ret (results_la rfl _ _ (w.heap.size + 1) 26 _ (0, 0) _ rfl hyh Try.underlying26 rfl (by kernel_rfl)) rfl ?_
    exact ⟨rfl, HBE.out⟩
set_option maxRecDepth 100000 in
set_option maxHeartbeats 2000000 in
theorem l9Made_any (v : Value) (l : La) (w : World) (h : AtLa w v l) :
    Calls Try.prog 62 #[v] w fun e w' => e = .returned (.tuple #[bif goodLa l then v else .agg #[.slice none 0 0, .slice none 0 0], .bool (goodLa l)]) ∧ Below w.heap.size w w' := by
  have HG : Hid (∀ w1 : World, Below w.heap.size w w1 → Calls Try.prog 21 #[v] w1 fun e w' => e = .returned (.bool (goodLa l)) ∧ Below w1.heap.size w1 w') := fun w1 hb => sGoodLasso_any v l w1 (h.below hb)
  obtain ⟨ga, gn, gc, oa, on, oc, rfl⟩ := h.shape
  have hb2 : Below w.heap.size w ((w.alloc (.cells #[.slice ga gn gc, .slice oa on oc] 26)).alloc (.cells #[.slice none 0 0, .slice none 0 0] 26)) := ((Below.refl _ _).alloc (Nat.le_refl _) _).alloc (by rw [World.size_alloc]; omega) _
  have HB0 : Hid _ := hb2
  have x0 := (box2_alloc w 26 (.slice ga gn gc) (.slice oa on oc)).alloc (.cells #[.slice none 0 0, .slice none 0 0] 26)
  have y0 := box2_alloc (w.alloc (.cells #[.slice ga gn gc, .slice oa on oc] 26)) 26 (.slice none 0 0) (.slice none 0 0)
  simp only [World.size_alloc] at y0
  have HX0 : Hid _ := x0
  have HY0 : Hid _ := y0
  have hz0 : ((w.alloc (.cells #[.slice ga gn gc, .slice oa on oc] 26)).alloc (.cells #[.slice none 0 0, .slice none 0 0] 26)).heap.size = w.heap.size + 2 := by rw [World.size_alloc, World.size_alloc]
  obtain ⟨a0, a1⟩ := x0.cells
  have ah := x0.heap
  have al := x0.lt
  have g := HG.out _ HB0.out
  clear h HG hb2 x0 y0
  generalize goodLa l = GB at *
  cases GB with
  | false =>
    go_enter Try.func62, Try.ntmps62
    go_wp2_with fail
    refine g.mono ?_
    clear a0 a1 ah al
    generalize (w.alloc (.cells #[.slice ga gn gc, .slice oa on oc] 26)).alloc (.cells #[.slice none 0 0, .slice none 0 0] 26) = w0 at *
    rintro e w1 ⟨rfl, hs⟩
    have HB1 : Hid (Below w.heap.size w w1) := HB0.out.trans (hs.mono (by omega))
    have y1 := HY0.out.below hs (by omega)
    clear g hs
    obtain ⟨k0, k1⟩ := y1.cells
    have kh := y1.heap
    have kl := y1.lt
    have kf0 := y1.frozen 0
    have kf1 := y1.frozen 1
    have y9 := (y1.set0 (.slice none 0 0)).set1 (.slice none 0 0)
    have hyh := y9.heap
    have HBE : Hid (Below w.heap.size w ((w1.setCell ⟨w.heap.size + 1, 0, none⟩ (.slice none 0 0)).setCell ⟨w.heap.size + 1, 1, none⟩ (.slice none 0 0))) := (HB1.out.setCell (by show w.heap.size ≤ w.heap.size + 1; omega) _).setCell (by show w.heap.size ≤ w.heap.size + 1; omega) _
    clear HX0 HY0 y9 y1
    go_wp2_with fail
    refine bodyPost_ret (results_la rfl _ _ (w.heap.size + 1) 26 _ (0, 0) _ rfl hyh Try.underlying26 rfl (by kernel_rfl)) rfl ?_
    exact ⟨rfl, HBE.out⟩
  | true =>
    go_enter Try.func62, Try.ntmps62
    go_wp2_with fail
    refine g.mono ?_
    clear a0 a1 ah al
    generalize (w.alloc (.cells #[.slice ga gn gc, .slice oa on oc] 26)).alloc (.cells #[.slice none 0 0, .slice none 0 0] 26) = w0 at *
    rintro e w1 ⟨rfl, hs⟩
    have HB1 : Hid (Below w.heap.size w w1) := HB0.out.trans (hs.mono (by omega))
    have y1 := HY0.out.below hs (by omega)
    have x1 := HX0.out.below hs (by omega)
    obtain ⟨a0, a1⟩ := x1.cells
    have ah := x1.heap
    have al := x1.lt
    clear g hs
    obtain ⟨k0, k1⟩ := y1.cells
    have kh := y1.heap
    have kl := y1.lt
    have kf0 := y1.frozen 0
    have kf1 := y1.frozen 1
    have y9 := (y1.set0 (.slice ga gn gc)).set1 (.slice oa on oc)
    have hyh := y9.heap
    have HBE : Hid (Below w.heap.size w ((w1.setCell ⟨w.heap.size + 1, 0, none⟩ (.slice ga gn gc)).setCell ⟨w.heap.size + 1, 1, none⟩ (.slice oa on oc))) := (HB1.out.setCell (by show w.heap.size ≤ w.heap.size + 1; omega) _).setCell (by show w.heap.size ≤ w.heap.size + 1; omega) _
    clear HX0 HY0 x1 y1 y9
    go_wp2_with fail
    refine bodyPost_ret (results_la rfl _ _ (w.heap.size + 1) 26 _ (0, 0) _ rfl hyh Try.underlying26 rfl (by kernel_rfl)) rfl ?_
    exact ⟨rfl, HBE.out⟩
end Go.Proofs.Ythamdefkcjfjpaa
