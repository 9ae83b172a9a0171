/-
  The laws' copies of circuits.
-/
import Derived.Test.YtmjeaceabjinfaaOwn
import Derived.Laws.Rows
namespace Go.Proofs.Ytmjeaceabjinfaa
open Go Go.RowKit
open M
set_option linter.unusedVariables false

/-- a block of three cells -/
structure Box3 (w : World) (b : Nat) (e : TypeId) (x y z : Value) : Prop where
  heap : w.heap[b]? = some (.cells #[x, y, z] e (0, 0))
theorem Box3.lt {w : World} {b : Nat} {e : TypeId} {x y z : Value} (h : Box3 w b e x y z) : b < w.heap.size := by
  by_cases hb : b < w.heap.size
  · exact hb
  · have h1 := h.heap
    rw [Array.getElem?_eq_none (by omega)] at h1
    cases h1
theorem Box3.cells {w : World} {b : Nat} {e : TypeId} {x y z : Value} (h : Box3 w b e x y z) : w.cell? ⟨b, 0, none⟩ = some x ∧ w.cell? ⟨b, 1, none⟩ = some y ∧ w.cell? ⟨b, 2, none⟩ = some z := by
  simp [World.cell?, h.heap]
theorem Box3.below {w w' : World} {B b : Nat} {e : TypeId} {x y z : Value} (h : Box3 w b e x y z) (hb : Below B w w') (hB : b < B) : Box3 w' b e x y z := ⟨by rw [hb.block b hB]; exact h.heap⟩
theorem Box3.frozen {w : World} {b : Nat} {e : TypeId} {x y z : Value} (h : Box3 w b e x y z) (o : Nat) : w.frozen? ⟨b, o, none⟩ = false := by
  simp [World.frozen?, h.heap]
theorem box3_alloc (w : World) (e : TypeId) (x y z : Value) : Box3 (w.alloc (.cells #[x, y, z] e)) w.heap.size e x y z := ⟨by show (w.heap.push _)[w.heap.size]? = _; simp⟩
theorem Box3.alloc {w : World} {b : Nat} {e : TypeId} {x y z : Value} (h : Box3 w b e x y z) (o : Obj) : Box3 (w.alloc o) b e x y z := h.below ((Below.refl w.heap.size w).alloc (Nat.le_refl _) o) h.lt
theorem own_shape {w : World} {B : Nat} {e : TypeId} {s : Nat} {v : Value} {n : Nat} {xs : List Value} (h : w.ownsRow B e s v n xs) : ∃ a cap, v = .slice a n cap := by
  rcases h.2 with ⟨h1, h2⟩ | ⟨g, cap, cur, h1, _⟩
  · exact ⟨none, 0, by rw [h1, h2]⟩
  · exact ⟨_, cap, h1⟩
theorem heap_set3 {w : World} {b o : Nat} {e : TypeId} {x y z v : Value} (h : Box3 w b e x y z) : (w.setCell ⟨b, o, none⟩ v).heap[b]? = some (.cells (#[x, y, z].setIfInBounds o v) e (0, 0)) := by
  have hl := h.lt
  have hh := h.heap
  simp [World.setCell, Array.getElem?_modify, hh]
theorem Box3.set0 {w : World} {b : Nat} {e : TypeId} {x y z : Value} (h : Box3 w b e x y z) (v : Value) : Box3 (w.setCell ⟨b, 0, none⟩ v) b e v y z := ⟨heap_set3 h⟩
theorem Box3.set1 {w : World} {b : Nat} {e : TypeId} {x y z : Value} (h : Box3 w b e x y z) (v : Value) : Box3 (w.setCell ⟨b, 1, none⟩ v) b e x v z := ⟨heap_set3 h⟩
theorem Box3.set2 {w : World} {b : Nat} {e : TypeId} {x y z : Value} (h : Box3 w b e x y z) (v : Value) : Box3 (w.setCell ⟨b, 2, none⟩ v) b e x y v := ⟨heap_set3 h⟩
theorem Box3.other {w : World} {b b' o : Nat} {e : TypeId} {x y z : Value} (h : Box3 w b e x y z) (hb : b ≠ b') (v : Value) : Box3 (w.setCell ⟨b', o, none⟩ v) b e x y z := ⟨by rw [Below.heap_setCell _ _ _ _ hb]; exact h.heap⟩
theorem RowIn.set {w : World} {lo hi b o : Nat} {e : TypeId} {size : Nat} {v x : Value} {n : Nat} {xs : List Value} (h : RowIn w lo hi e size v n xs) (hb : b < lo ∨ hi ≤ b) : RowIn (w.setCell ⟨b, o, none⟩ x) lo hi e size v n xs :=
  h.same (by simp [World.setCell]) (fun i h1 h2 => Below.heap_setCell _ _ _ _ (by show i ≠ b; omega))
theorem RowIn.belowR {w w' : World} {lo hi B : Nat} {e : TypeId} {size : Nat} {v : Value} {n : Nat} {xs : List Value} (h : RowIn w lo hi e size v n xs) (hb : Below B w w') (hB : hi ≤ B) : RowIn w' lo hi e size v n xs :=
  h.same hb.size (fun i h1 h2 => hb.block i (by omega))
set_option maxRecDepth 100000 in
theorem toCircuit_any (v : Value) (c : Ci) (ok : CiOk c) (w : World) (h : AtCirc w v c) :
    Calls Try.prog 71 #[v] w fun e w' => ∃ v', e = .returned v' ∧ OwnCirc w' w.heap.size w'.heap.size v' c ∧ Below w.heap.size w w' := by
  obtain ⟨h0, g, o, rfl, h1, h2⟩ := h
  obtain ⟨k0, k1, k2, k3⟩ := ok
  have G1 : Hid (∀ w1 : World, Below w.heap.size w w1 → _) := fun w1 hb => toGateS_any g c.2.1 k2 w1 (h1.below hb)
  have G2 : Hid (∀ w1 : World, Below w.heap.size w w1 → _) := fun w1 hb => toIntS_any o c.2.2 k3 w1 (h2.below hb)
  obtain ⟨ins, gs, os⟩ := c
  simp only at *
  clear h1 h2 h0
  go_enter Try.func71, Try.ntmps71
  go_wp2_with fail
  have hb0 : Below w.heap.size w (((w.alloc (.cells #[.int .i64 ins, g, o] 89)).alloc (.cells #[.int .i64 0, .slice none 0 0, .slice none 0 0] 27)).alloc (.cells #[.int .i64 ins, .slice none 0 0, .slice none 0 0] 27)) := (((Below.refl _ _).alloc (Nat.le_refl _) _).alloc (by simp) _).alloc (by simp; omega) _
  have x0 := box3_alloc w 89 (.int .i64 ins) g o
  have x1 := box3_alloc (w.alloc (.cells #[.int .i64 ins, g, o] 89)) 27 (.int .i64 0) (.slice none 0 0) (.slice none 0 0)
  have x2 := box3_alloc ((w.alloc (.cells #[.int .i64 ins, g, o] 89)).alloc (.cells #[.int .i64 0, .slice none 0 0, .slice none 0 0] 27)) 27 (.int .i64 ins) (.slice none 0 0) (.slice none 0 0)
  have y0 := (x0.alloc (.cells #[.int .i64 0, .slice none 0 0, .slice none 0 0] 27)).alloc (.cells #[.int .i64 ins, .slice none 0 0, .slice none 0 0] 27)
  have y1 := x1.alloc (.cells #[.int .i64 ins, .slice none 0 0, .slice none 0 0] 27)
  simp only [World.size_alloc] at x2 y1
  have g1 := G1.out _ hb0
  have hsz : (((w.alloc (.cells #[.int .i64 ins, g, o] 89)).alloc (.cells #[.int .i64 0, .slice none 0 0, .slice none 0 0] 27)).alloc (.cells #[.int .i64 ins, .slice none 0 0, .slice none 0 0] 27)).heap.size = w.heap.size + 1 + 1 + 1 := by simp only [World.size_alloc]
  refine g1.mono ?_
  generalize (((w.alloc (.cells #[.int .i64 ins, g, o] 89)).alloc (.cells #[.int .i64 0, .slice none 0 0, .slice none 0 0] 27)).alloc (.cells #[.int .i64 ins, .slice none 0 0, .slice none 0 0] 27)) = wa at *
  rintro e w1 ⟨gv1, rfl, og, hs⟩
  obtain ⟨ga, gc, rfl⟩ := own_shape og
  have z0 := (y0.below hs (by omega)).cells
  have z1 := y1.below hs (by omega)
  have z2 := x2.below hs (by omega)
  obtain ⟨c0, c1, c2⟩ := z0
  obtain ⟨d0, d1, d2⟩ := z2.cells
  have f1 := z2.frozen 1
  have f2 := z2.frozen 2
  clear x0 x1 x2 y0 y1
  have z3 := z2.set1 (.slice ga gs.length gc)
  have z4 := z1.other (o := 1) (b' := w.heap.size + 1 + 1) (by omega) (.slice ga gs.length gc)
  have hb1 : Below w.heap.size w (w1.setCell ⟨w.heap.size + 1 + 1, 1, none⟩ (.slice ga gs.length gc)) := (hb0.trans (hs.mono hb0.size)).setCell (by show w.heap.size ≤ w.heap.size + 1 + 1; omega) _
  have hs1 := hs.size
  have og1 := rowIn_of og
  have og2 : RowIn (w1.setCell ⟨w.heap.size + 1 + 1, 1, none⟩ (.slice ga gs.length gc)) wa.heap.size w1.heap.size 108 3 (.slice ga gs.length gc) gs.length (flat3 gs) := og1.set (by omega)
  have g2 := G2.out _ hb1
  have hsz1 : (w1.setCell ⟨w.heap.size + 1 + 1, 1, none⟩ (.slice ga gs.length gc)).heap.size = w1.heap.size := by simp [World.setCell]
  clear g1 G1 G2 z1 z2 og og1
  go_wp2_with fail
  refine g2.mono ?_
  clear g2
  generalize w1.setCell ⟨w.heap.size + 1 + 1, 1, none⟩ (.slice ga gs.length gc) = wb at *
  rintro e w2 ⟨ov2, rfl, oo, hs2⟩
  obtain ⟨oa, oc, rfl⟩ := own_shape oo
  have z5 := z3.below hs2 (by omega)
  have z6 := z4.below hs2 (by omega)
  have hs2' := hs2.size
  have og3 := og2.same hs2' (fun i h1 h2 => hs2.block i (by omega))
  have hb2 := hb1.trans (hs2.mono hb1.size)
  have oo1 := rowIn_of oo
  obtain ⟨e0, e1, e2⟩ := z5.cells
  have f3 := z5.frozen 2
  have z7 := z5.set2 (.slice oa os.length oc)
  have z8 := z6.other (o := 2) (b' := w.heap.size + 1 + 1) (by omega) (.slice oa os.length oc)
  have f4 := z8.frozen 0
  have f5 := z8.frozen 1
  have f6 := z8.frozen 2
  obtain ⟨r0, r1, r2⟩ := z8.cells
  have hh := z7.heap
  clear oo og2 c0 c1 c2 d0 d1 d2
  go_wp2_with fail
  have z9 := ((z8.set0 (.int .i64 ins)).set1 (.slice ga gs.length gc)).set2 (.slice oa os.length oc)
  refine bodyPost_ret (results_cell_row rfl _ _ (w.heap.size + 1) 27 _ (0, 0) _ rfl z9.heap Try.underlying27 rfl (by kernel_rfl)) rfl ?_
  refine ⟨_, rfl, ⟨_, _, rfl, ?_, ?_⟩, ?_⟩
  · exact ((((og3.set (by omega)).set (by omega)).set (by omega)).set (by omega)).weak (by omega) (by simp [World.setCell]; omega) (Nat.le_refl _)
  · exact ((((oo1.set (by omega)).set (by omega)).set (by omega)).set (by omega)).weak (by omega) (by simp [World.setCell]) (Nat.le_refl _)
  · exact (((hb2.setCell (by show w.heap.size ≤ w.heap.size + 1 + 1; omega) _).setCell (by show w.heap.size ≤ w.heap.size + 1; omega) _).setCell (by show w.heap.size ≤ w.heap.size + 1; omega) _).setCell (by show w.heap.size ≤ w.heap.size + 1; omega) _
end Go.Proofs.Ytmjeaceabjinfaa
