/-
  Circuits, lists of numbers and lists of bools that a call owns, between two blocks; the laws' copies, comparisons and marks of them.
-/
import Derived.Test.YtmhpnkfibecnmaaDoorGates
import Derived.Test.YtmhpnkfibecnmaaDoorLTurn
namespace Go.Proofs.YtmhpnkfibecnmaaDoor
open Go Go.RowKit
open M
set_option linter.unusedVariables false

/-- of what lay there nothing but what lies between lo and hi has turned -/
structure Touch (lo hi : Nat) (w w' : World) : Prop where
  os : w'.os = w.os
  tape : w'.tape = w.tape
  output : w'.output = w.output
  size : w.heap.size ≤ w'.heap.size
  block : ∀ i, i < w.heap.size → (i < lo ∨ hi ≤ i) → w'.heap[i]? = w.heap[i]?
theorem Touch.refl (lo hi : Nat) (w : World) : Touch lo hi w w := ⟨rfl, rfl, rfl, Nat.le_refl _, fun _ _ _ => rfl⟩
theorem Touch.trans {lo hi : Nat} {u v w : World} (h : Touch lo hi u v) (k : Touch lo hi v w) : Touch lo hi u w :=
  ⟨k.os.trans h.os, k.tape.trans h.tape, k.output.trans h.output, Nat.le_trans h.size k.size, fun i hi' hr => (k.block i (Nat.lt_of_lt_of_le hi' h.size) hr).trans (h.block i hi' hr)⟩
theorem Touch.below {lo hi B : Nat} {u w w' : World} (h : Below B u w) (hB : B ≤ lo) (hs : B ≤ w.heap.size) (k : Touch lo hi w w') : Below B u w' :=
  ⟨k.os.trans h.os, k.tape.trans h.tape, k.output.trans h.output, Nat.le_trans h.size k.size, fun i hi' => (k.block i (by omega) (Or.inl (by omega))).trans (h.block i hi')⟩
theorem touch_of_grown {lo hi : Nat} {w w' : World} {row : Option Nat} (h : w.grownBy w' row) (hr : ∀ k, row = some k → lo ≤ k ∧ k < hi) : Touch lo hi w w' :=
  ⟨h.os, h.tape, h.output, h.size, fun i hi' ho => h.block i hi' (fun e => by have := hr i e.symm; omega)⟩
/-- a row that lies between two blocks -/
def RowIn (w : World) (lo hi : Nat) (e : TypeId) (size : Nat) (v : Value) (n : Nat) (xs : List Value) : Prop := w.ownsRow lo e size v n xs ∧ (∀ k, v.ownBlock = some k → k < hi) ∧ hi ≤ w.heap.size
theorem RowIn.same {w w' : World} {lo hi : Nat} {e : TypeId} {size : Nat} {v : Value} {n : Nat} {xs : List Value} (h : RowIn w lo hi e size v n xs) (hs : w.heap.size ≤ w'.heap.size) (hb : ∀ i, lo ≤ i → i < hi → w'.heap[i]? = w.heap[i]?) : RowIn w' lo hi e size v n xs := by
  obtain ⟨⟨h1, h2⟩, h3, h4⟩ := h
  refine ⟨⟨h1, ?_⟩, h3, by omega⟩
  rcases h2 with h2 | ⟨g, cap, cur, hv, hB, hh, r⟩
  · exact Or.inl h2
  · refine Or.inr ⟨g, cap, cur, hv, hB, ?_, r⟩
    rw [hb g hB (h3 g (by rw [hv]; rfl))]
    exact hh
theorem rowIn_of {w : World} {lo : Nat} {e : TypeId} {size : Nat} {v : Value} {n : Nat} {xs : List Value} (h : w.ownsRow lo e size v n xs) : RowIn w lo w.heap.size e size v n xs := ⟨h, fun k hk => (own_block h hk).2, Nat.le_refl _⟩
theorem RowIn.weak {w : World} {lo lo' hi hi' : Nat} {e : TypeId} {size : Nat} {v : Value} {n : Nat} {xs : List Value} (h : RowIn w lo hi e size v n xs) (h1 : lo' ≤ lo) (h2 : hi ≤ hi') (h3 : hi' ≤ w.heap.size) : RowIn w lo' hi' e size v n xs := by
  obtain ⟨⟨a1, a2⟩, b, c⟩ := h
  refine ⟨⟨a1, ?_⟩, fun k hk => Nat.lt_of_lt_of_le (b k hk) h2, h3⟩
  rcases a2 with a2 | ⟨g, cap, cur, hv, hB, r⟩
  · exact Or.inl a2
  · exact Or.inr ⟨g, cap, cur, hv, Nat.le_trans h1 hB, r⟩
/-- behind a mark of the row itself -/
theorem RowIn.marked {w w' : World} {lo hi : Nat} {e : TypeId} {size : Nat} {v : Value} {n : Nat} {xs ys : List Value} (h : RowIn w lo hi e size v n xs) (h' : w'.ownsRow lo e size v n ys) (hg : w.grownBy w' v.ownBlock) : RowIn w' lo hi e size v n ys := ⟨h', h.2.1, Nat.le_trans h.2.2 hg.size⟩
/-- rows of other types lie apart -/
theorem RowIn.apart {w w' : World} {lo hi lo' hi' : Nat} {e e' : TypeId} {size size' : Nat} {v v' : Value} {n n' : Nat} {xs xs' : List Value} (h : RowIn w lo hi e size v n xs) (h' : RowIn w lo' hi' e' size' v' n' xs') (he : e ≠ e') (hg : w.grownBy w' v'.ownBlock) : RowIn w' lo hi e size v n xs := by
  obtain ⟨⟨h1, h2⟩, h3, h4⟩ := h
  refine ⟨⟨h1, ?_⟩, h3, Nat.le_trans h4 hg.size⟩
  rcases h2 with h2 | ⟨g, cap, cur, hv, hB, hh, r⟩
  · exact Or.inl h2
  · refine Or.inr ⟨g, cap, cur, hv, hB, ?_, r⟩
    have hlt : g < w.heap.size := by
      by_cases hg' : g < w.heap.size
      · exact hg'
      · rw [Array.getElem?_eq_none (by omega)] at hh
        cases hh
    rw [hg.block g hlt ?_]
    · exact hh
    · intro e0
      rcases h'.1.2 with ⟨k1, _⟩ | ⟨g', cap', cur', hv', _, hh', _⟩
      · rw [k1] at e0
        cases e0
      · rw [hv'] at e0
        have e1 : g = g' := Option.some.inj e0
        subst e1
        rw [hh] at hh'
        simp only [Option.some.injEq] at hh'
        injection hh' with _ h8
        exact he h8
/-- a circuit: wires that come in, gates, outs -/
abbrev Ci := Int × List Gt × List Int
def AtCirc (w : World) (v : Value) (c : Ci) : Prop := Fit c.1 ∧ ∃ g o, v = .agg #[.int .i64 c.1, g, o] ∧ GatesAt w g c.2.1 ∧ IntsAt w o c.2.2
def lenCirc (c : Ci) : Int := 3 * c.2.1.length + c.2.2.length
def OwnIS (w : World) (lo hi : Nat) (v : Value) (t : List Int) : Prop := RowIn w lo hi 3 1 v t.length (cellsI t)
def MarkIS (w : World) (lo hi : Nat) (v : Value) (t : List Int) (k : Int) : Prop := RowIn w lo hi 3 1 v t.length (marks k t.length)
def OwnBS (w : World) (lo hi : Nat) (v : Value) (t : List Bool) : Prop := RowIn w lo hi 4 1 v t.length (cellsB t)
def MarkBS (w : World) (lo hi : Nat) (v : Value) (t : List Bool) (k : Int) : Prop := RowIn w lo hi 4 1 v t.length (marksB k t.length)
theorem AtCirc.below {w w' : World} {v : Value} {c : Ci} (h : AtCirc w v c) (hb : Below w.heap.size w w') : AtCirc w' v c := by
  obtain ⟨h0, g, o, hv, h1, h2⟩ := h
  exact ⟨h0, g, o, hv, h1.below hb, h2.below hb⟩
theorem OwnIS.same {w w' : World} {lo hi : Nat} {v : Value} {c : List Int} (h : OwnIS w lo hi v c) (hs : w.heap.size ≤ w'.heap.size) (hb : ∀ i, lo ≤ i → i < hi → w'.heap[i]? = w.heap[i]?) : OwnIS w' lo hi v c := RowIn.same h hs hb
theorem MarkIS.same {w w' : World} {lo hi : Nat} {v : Value} {c : List Int} {k : Int} (h : MarkIS w lo hi v c k) (hs : w.heap.size ≤ w'.heap.size) (hb : ∀ i, lo ≤ i → i < hi → w'.heap[i]? = w.heap[i]?) : MarkIS w' lo hi v c k := RowIn.same h hs hb
theorem OwnBS.same {w w' : World} {lo hi : Nat} {v : Value} {c : List Bool} (h : OwnBS w lo hi v c) (hs : w.heap.size ≤ w'.heap.size) (hb : ∀ i, lo ≤ i → i < hi → w'.heap[i]? = w.heap[i]?) : OwnBS w' lo hi v c := RowIn.same h hs hb
theorem MarkBS.same {w w' : World} {lo hi : Nat} {v : Value} {c : List Bool} {k : Int} (h : MarkBS w lo hi v c k) (hs : w.heap.size ≤ w'.heap.size) (hb : ∀ i, lo ≤ i → i < hi → w'.heap[i]? = w.heap[i]?) : MarkBS w' lo hi v c k := RowIn.same h hs hb
theorem OwnIS.hi {w : World} {lo hi : Nat} {v : Value} {c : List Int} (h : OwnIS w lo hi v c) : hi ≤ w.heap.size := h.2.2
theorem OwnBS.hi {w : World} {lo hi : Nat} {v : Value} {c : List Bool} (h : OwnBS w lo hi v c) : hi ≤ w.heap.size := h.2.2
theorem MarkIS.hi {w : World} {lo hi : Nat} {v : Value} {c : List Int} {k : Int} (h : MarkIS w lo hi v c k) : hi ≤ w.heap.size := h.2.2
theorem MarkBS.hi {w : World} {lo hi : Nat} {v : Value} {c : List Bool} {k : Int} (h : MarkBS w lo hi v c k) : hi ≤ w.heap.size := h.2.2
/-- numbers that a circuit holds fit -/
def CiOk (c : Ci) : Prop := Fit c.1 ∧ (∀ x ∈ c.2.1, GtOk x) ∧ c.2.1.length ≤ 1048576 ∧ c.2.2.length ≤ 1048576
theorem OwnIS.reads {w : World} {lo hi : Nat} {v : Value} {c : List Int} (h : OwnIS w lo hi v c) (ok : c.length ≤ 1048576) : IntsAt w v c := ints_of_own (by omega) h.1
theorem OwnBS.reads {w : World} {lo hi : Nat} {v : Value} {c : List Bool} (h : OwnBS w lo hi v c) (ok : c.length ≤ 1048576) : BoolsAt w v c := bools_of_own (by omega) h.1

end Go.Proofs.YtmhpnkfibecnmaaDoor
