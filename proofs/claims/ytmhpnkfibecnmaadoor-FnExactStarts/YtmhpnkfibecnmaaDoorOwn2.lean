/-
  The laws' copies of circuits.
-/
import Derived.Test.YtmhpnkfibecnmaaDoorOwn
import Derived.Laws.Rows
namespace Go.Proofs.YtmhpnkfibecnmaaDoor
open Go Go.RowKit
open M
set_option linter.unusedVariables false

/-- a block of three cells -/
structure Box3 (w : World) (b : Nat) (e : TypeId) (x y z : Value) : Prop where
  heap : w.heap[b]? = some (.cells #[x, y, z] e (0, 0))
theorem Box3.lt {w : World} {b : Nat} {e : TypeId} {x y z : Value} (h : Box3 w b e x y z) : b < w.heap.size := by
  by_cases hb : b < w.heap.size
  · exact hb
  · have h1 := h.heap
    rw [Array.getElem?_eq_none (by omega)] at h1
    cases h1
theorem Box3.cells {w : World} {b : Nat} {e : TypeId} {x y z : Value} (h : Box3 w b e x y z) : w.cell? ⟨b, 0, none⟩ = some x ∧ w.cell? ⟨b, 1, none⟩ = some y ∧ w.cell? ⟨b, 2, none⟩ = some z := by
  simp [World.cell?, h.heap]
theorem Box3.below {w w' : World} {B b : Nat} {e : TypeId} {x y z : Value} (h : Box3 w b e x y z) (hb : Below B w w') (hB : b < B) : Box3 w' b e x y z := ⟨by rw [hb.block b hB]; exact h.heap⟩
theorem Box3.frozen {w : World} {b : Nat} {e : TypeId} {x y z : Value} (h : Box3 w b e x y z) (o : Nat) : w.frozen? ⟨b, o, none⟩ = false := by
  simp [World.frozen?, h.heap]
theorem box3_alloc (w : World) (e : TypeId) (x y z : Value) : Box3 (w.alloc (.cells #[x, y, z] e)) w.heap.size e x y z := ⟨by show (w.heap.push _)[w.heap.size]? = _; simp⟩
theorem Box3.alloc {w : World} {b : Nat} {e : TypeId} {x y z : Value} (h : Box3 w b e x y z) (o : Obj) : Box3 (w.alloc o) b e x y z := h.below ((Below.refl w.heap.size w).alloc (Nat.le_refl _) o) h.lt
theorem own_shape {w : World} {B : Nat} {e : TypeId} {s : Nat} {v : Value} {n : Nat} {xs : List Value} (h : w.ownsRow B e s v n xs) : ∃ a cap, v = .slice a n cap := by
  rcases h.2 with ⟨h1, h2⟩ | ⟨g, cap, cur, h1, _⟩
  · exact ⟨none, 0, by rw [h1, h2]⟩
  · exact ⟨_, cap, h1⟩
theorem heap_set3 {w : World} {b o : Nat} {e : TypeId} {x y z v : Value} (h : Box3 w b e x y z) : (w.setCell ⟨b, o, none⟩ v).heap[b]? = some (.cells (#[x, y, z].setIfInBounds o v) e (0, 0)) := by
  have hl := h.lt
  have hh := h.heap
  simp [World.setCell, Array.getElem?_modify, hh]
theorem Box3.set0 {w : World} {b : Nat} {e : TypeId} {x y z : Value} (h : Box3 w b e x y z) (v : Value) : Box3 (w.setCell ⟨b, 0, none⟩ v) b e v y z := ⟨heap_set3 h⟩
theorem Box3.set1 {w : World} {b : Nat} {e : TypeId} {x y z : Value} (h : Box3 w b e x y z) (v : Value) : Box3 (w.setCell ⟨b, 1, none⟩ v) b e x v z := ⟨heap_set3 h⟩
theorem Box3.set2 {w : World} {b : Nat} {e : TypeId} {x y z : Value} (h : Box3 w b e x y z) (v : Value) : Box3 (w.setCell ⟨b, 2, none⟩ v) b e x y v := ⟨heap_set3 h⟩
theorem Box3.other {w : World} {b b' o : Nat} {e : TypeId} {x y z : Value} (h : Box3 w b e x y z) (hb : b ≠ b') (v : Value) : Box3 (w.setCell ⟨b', o, none⟩ v) b e x y z := ⟨by rw [Below.heap_setCell _ _ _ _ hb]; exact h.heap⟩
theorem RowIn.set {w : World} {lo hi b o : Nat} {e : TypeId} {size : Nat} {v x : Value} {n : Nat} {xs : List Value} (h : RowIn w lo hi e size v n xs) (hb : b < lo ∨ hi ≤ b) : RowIn (w.setCell ⟨b, o, none⟩ x) lo hi e size v n xs :=
  h.same (by simp [World.setCell]) (fun i h1 h2 => Below.heap_setCell _ _ _ _ (by show i ≠ b; omega))
theorem RowIn.belowR {w w' : World} {lo hi B : Nat} {e : TypeId} {size : Nat} {v : Value} {n : Nat} {xs : List Value} (h : RowIn w lo hi e size v n xs) (hb : Below B w w') (hB : hi ≤ B) : RowIn w' lo hi e size v n xs :=
  h.same hb.size (fun i h1 h2 => hb.block i (by omega))
end Go.Proofs.YtmhpnkfibecnmaaDoor
