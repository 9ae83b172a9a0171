/-
  Rows of pairs of values in memory; changes, commands and programs as such.
-/
import Derived.Test.YtmhpnkfibecnmaaDoorCnf
import Derived.Test.YtmhpnkfibecnmaaDoorOwn5
namespace Go.Proofs.YtmhpnkfibecnmaaDoor
open Go Go.RowKit
open M
set_option linter.unusedVariables false
set_option linter.unusedSimpArgs false

/-- a slice of pairs -/
def PairsAt {α : Type} (V : World → α → Value → Value → Prop) (w : World) (v : Value) (cs : List α) : Prop :=
  cs.length ≤ 9223372036854775807 ∧ ((cs = [] ∧ ∃ (a : Option Addr) (cap : Nat), v = .slice a 0 cap) ∨
  ∃ b off cap : Nat, v = .slice (some ⟨b, off, none⟩) cs.length cap ∧ b < w.heap.size ∧ ∀ (i : Nat) (c : α), cs[i]? = some c → ∃ x y : Value, w.cell? ⟨b, off + i * 2, none⟩ = some x ∧ w.cell? ⟨b, off + i * 2 + 1, none⟩ = some y ∧ V w c x y)
def FrameV {α : Type} (V : World → α → Value → Value → Prop) : Prop := ∀ (w w' : World) (c : α) (x y : Value), V w c x y → Below w.heap.size w w' → V w' c x y
theorem PairsAt.below {α : Type} {V : World → α → Value → Value → Prop} (hV : FrameV V) {w w' : World} {v : Value} {cs : List α} (h : PairsAt V w v cs) (hb : Below w.heap.size w w') : PairsAt V w' v cs := by
  obtain ⟨h1, h2⟩ := h
  refine ⟨h1, ?_⟩
  rcases h2 with h2 | ⟨b, off, cap, hv, hlt, hc⟩
  · exact Or.inl h2
  · refine Or.inr ⟨b, off, cap, hv, Nat.lt_of_lt_of_le hlt hb.size, fun i c hi => ?_⟩
    obtain ⟨x, y, h3, h4, h5⟩ := hc i c hi
    exact ⟨x, y, by rw [hb.cell (p := ⟨b, off + i * 2, none⟩) hlt]; exact h3, by rw [hb.cell (p := ⟨b, off + i * 2 + 1, none⟩) hlt]; exact h4, hV _ _ _ _ _ h5 hb⟩
theorem PairsAt.shape {α : Type} {V : World → α → Value → Value → Prop} {w : World} {v : Value} {cs : List α} (h : PairsAt V w v cs) : ∃ (a : Option Addr) (cap : Nat), v = .slice a cs.length cap := by
  rcases h.2 with ⟨rfl, a, cap, h⟩ | ⟨b, off, cap, h, _⟩
  · exact ⟨a, cap, h⟩
  · exact ⟨_, cap, h⟩
theorem PairsAt.opened {α : Type} {V : World → α → Value → Value → Prop} {w : World} {v : Value} {cs : List α} (h : PairsAt V w v cs) : ∃ a cap, v = .slice a cs.length cap ∧ ∀ (i : Nat) (c : α), cs[i]? = some c → ∃ b off : Nat, a = some ⟨b, off, none⟩ ∧ b < w.heap.size ∧ ∃ x y : Value, w.cell? ⟨b, off + i * 2, none⟩ = some x ∧ w.cell? ⟨b, off + i * 2 + 1, none⟩ = some y ∧ V w c x y := by
  rcases h.2 with ⟨rfl, a, cap, rfl⟩ | ⟨b, off, cap, rfl, hb, hc⟩
  · exact ⟨a, cap, rfl, fun i t ht => by simp at ht⟩
  · exact ⟨_, cap, rfl, fun i t ht => ⟨b, off, rfl, hb, hc i t ht⟩⟩
/-- a change: which variable, by what; a command: when, its changes; a program: wide, variables, start, commands -/
abbrev Ch := Int × List Nd
abbrev Cm := List Nd × List Ch
abbrev Pg := Int × Int × List Nd × List Cm
def ChV (w : World) (c : Ch) (x y : Value) : Prop := Fit c.1 ∧ x = .int .i64 c.1 ∧ NodesAt w y c.2
def CmV (w : World) (c : Cm) (x y : Value) : Prop := NodesAt w x c.1 ∧ PairsAt ChV w y c.2
def AtProg (w : World) (v : Value) (p : Pg) : Prop := Fit p.1 ∧ Fit p.2.1 ∧ ∃ s c, v = .agg #[.int .i64 p.1, .int .i64 p.2.1, s, c] ∧ NodesAt w s p.2.2.1 ∧ PairsAt CmV w c p.2.2.2
theorem chV_frame : FrameV ChV := fun w w' c x y h hb => ⟨h.1, h.2.1, h.2.2.below hb⟩
theorem cmV_frame : FrameV CmV := fun w w' c x y h hb => ⟨h.1.below hb, h.2.below chV_frame hb⟩
theorem AtProg.below {w w' : World} {v : Value} {p : Pg} (h : AtProg w v p) (hb : Below w.heap.size w w') : AtProg w' v p := by
  obtain ⟨h0, h1, s, c, hv, h2, h3⟩ := h
  exact ⟨h0, h1, s, c, hv, h2.below hb, h3.below cmV_frame hb⟩
theorem AtProg.shape {w : World} {v : Value} {p : Pg} (h : AtProg w v p) : ∃ sa sn sc ca cn cc, v = .agg #[.int .i64 p.1, .int .i64 p.2.1, .slice sa sn sc, .slice ca cn cc] := by
  obtain ⟨h0, h1, s, c, hv, h2, h3⟩ := h
  obtain ⟨a, cap, e⟩ := h2.shape
  obtain ⟨a', cap', e'⟩ := h3.shape
  exact ⟨a, _, cap, a', _, cap', by rw [hv, e, e']⟩
/-- a local of a struct of four cells -/
structure Box4 (w : World) (b : Nat) (e : TypeId) (x y z u : Value) : Prop where
  heap : w.heap[b]? = some (.cells #[x, y, z, u] e (0, 0))
theorem Box4.lt {w : World} {b : Nat} {e : TypeId} {x y z u : Value} (h : Box4 w b e x y z u) : b < w.heap.size := (Array.getElem?_eq_some_iff.1 h.heap).1
theorem Box4.cells {w : World} {b : Nat} {e : TypeId} {x y z u : Value} (h : Box4 w b e x y z u) : w.cell? ⟨b, 0, none⟩ = some x ∧ w.cell? ⟨b, 1, none⟩ = some y ∧ w.cell? ⟨b, 2, none⟩ = some z ∧ w.cell? ⟨b, 3, none⟩ = some u := by
  refine ⟨?_, ?_, ?_, ?_⟩ <;> simp [World.cell?, h.heap]
theorem Box4.below {w w' : World} {B b : Nat} {e : TypeId} {x y z u : Value} (h : Box4 w b e x y z u) (hb : Below B w w') (hB : b < B) : Box4 w' b e x y z u := ⟨by rw [hb.block b hB]; exact h.heap⟩
theorem box4_alloc (w : World) (e : TypeId) (x y z u : Value) : Box4 (w.alloc (.cells #[x, y, z, u] e)) w.heap.size e x y z u := ⟨by show (w.heap.push _)[w.heap.size]? = _; simp⟩
theorem Box4.alloc {w : World} {b : Nat} {e : TypeId} {x y z u : Value} (h : Box4 w b e x y z u) (o : Obj) : Box4 (w.alloc o) b e x y z u := h.below ((Below.refl w.heap.size w).alloc (Nat.le_refl _) o) h.lt
theorem Box4.frozen {w : World} {b : Nat} {e : TypeId} {x y z u : Value} (h : Box4 w b e x y z u) (o : Nat) : w.frozen? ⟨b, o, none⟩ = false := by
  simp [World.frozen?, h.heap]
theorem heap_set4 {w : World} {b o : Nat} {e : TypeId} {x y z u v : Value} (h : Box4 w b e x y z u) : (w.setCell ⟨b, o, none⟩ v).heap[b]? = some (.cells (#[x, y, z, u].setIfInBounds o v) e (0, 0)) := by
  have hl := h.lt
  have hh := h.heap
  simp [World.setCell, Array.getElem?_modify, hh]
theorem Box4.set0 {w : World} {b : Nat} {e : TypeId} {x y z u : Value} (h : Box4 w b e x y z u) (v : Value) : Box4 (w.setCell ⟨b, 0, none⟩ v) b e v y z u := ⟨heap_set4 h⟩
theorem Box4.set1 {w : World} {b : Nat} {e : TypeId} {x y z u : Value} (h : Box4 w b e x y z u) (v : Value) : Box4 (w.setCell ⟨b, 1, none⟩ v) b e x v z u := ⟨heap_set4 h⟩
theorem Box4.set2 {w : World} {b : Nat} {e : TypeId} {x y z u : Value} (h : Box4 w b e x y z u) (v : Value) : Box4 (w.setCell ⟨b, 2, none⟩ v) b e x y v u := ⟨heap_set4 h⟩
theorem Box4.set3 {w : World} {b : Nat} {e : TypeId} {x y z u : Value} (h : Box4 w b e x y z u) (v : Value) : Box4 (w.setCell ⟨b, 3, none⟩ v) b e x y z v := ⟨heap_set4 h⟩
theorem Box4.other {w : World} {b b' o : Nat} {e : TypeId} {x y z u : Value} (h : Box4 w b e x y z u) (hb : b ≠ b') (v : Value) : Box4 (w.setCell ⟨b', o, none⟩ v) b e x y z u := ⟨by rw [Below.heap_setCell _ _ _ _ hb]; exact h.heap⟩
/-- sizes -/
def leftN (l : Int) (n : Nat) : Int := if l < n then -1 else l - n
theorem leftN_no {l : Int} {n : Nat} (h : l < n) : leftN l n = -1 := by unfold leftN; rw [if_pos h]
theorem leftN_yes {l : Int} {n : Nat} (h : (n : Int) ≤ l) : leftN l n = l - n := by unfold leftN; rw [if_neg (by omega)]
def sumBy {α : Type} (f : α → Nat) : List α → Nat
  | [] => 0
  | x :: r => f x + sumBy f r
theorem sumBy_append {α : Type} (f : α → Nat) : ∀ a b : List α, sumBy f (a ++ b) = sumBy f a + sumBy f b
  | [], b => by simp [sumBy]
  | t :: r, b => by
    rw [List.cons_append]
    simp only [sumBy]
    rw [sumBy_append f r b]
    omega
theorem sumBy_take {α : Type} (f : α → Nat) (bs : List α) (j : Nat) : sumBy f (bs.take j) ≤ sumBy f bs := by
  have h : sumBy f (bs.take j ++ bs.drop j) = sumBy f bs := by rw [List.take_append_drop]
  rw [sumBy_append] at h
  omega
theorem sumBy_snoc {α : Type} (f : α → Nat) (bs : List α) (j : Nat) (u : α) (hu : bs[j]? = some u) : sumBy f (bs.take (j + 1)) = sumBy f (bs.take j) + f u := by
  rw [List.take_add_one, hu]
  show sumBy f (bs.take j ++ [u]) = _
  rw [sumBy_append]
  simp [sumBy]
theorem sumBy_mem {α : Type} (f : α → Nat) : ∀ (l : List α) (b : α), b ∈ l → f b ≤ sumBy f l
  | [], _, h => by simp at h
  | x :: l, b, h => by
    simp only [List.mem_cons] at h
    simp only [sumBy]
    rcases h with rfl | h
    · omega
    · have := sumBy_mem f l b h
      omega
def sCh (c : Ch) : Nat := c.2.length
def sChs (cs : List Ch) : Nat := cs.length + sumBy sCh cs
def sCm (c : Cm) : Nat := c.1.length + sChs c.2
def sCms (cs : List Cm) : Nat := cs.length + sumBy sCm cs
def sPg (p : Pg) : Nat := p.2.2.1.length + sCms p.2.2.2
end Go.Proofs.YtmhpnkfibecnmaaDoor
