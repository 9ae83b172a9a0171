/-
  Rows that a call may append: nil, or from the beginning of a block on.
-/
import Derived.Test.YtmhpnkfibecnmaaDoorShapes
import Derived.Test.YtmhpnkfibecnmaaDoorGateM2
namespace Go.Proofs.YtmhpnkfibecnmaaDoor
open Go Go.RowKit
open M
set_option linter.unusedVariables false

def Strong (w : World) (v : Value) (n : Nat) : Prop := (n = 0 ∧ v = .slice none 0 0) ∨ ∃ g cap : Nat, v = .slice (some ⟨g, 0, none⟩) n cap ∧ g < w.heap.size ∧ cap ≤ 9223372036854775807
theorem Strong.below {w w' : World} {v : Value} {n B : Nat} (h : Strong w v n) (hb : Below B w w') : Strong w' v n := by
  rcases h with h | ⟨g, cap, h1, h2, h3⟩
  · exact Or.inl h
  · exact Or.inr ⟨g, cap, h1, Nat.lt_of_lt_of_le h2 hb.size, h3⟩
theorem strong_of {w : World} {B : Nat} {e : TypeId} {s : Nat} {v : Value} {n : Nat} {xs : List Value} (h : w.ownsRow B e s v n xs) : Strong w v n := by
  rcases h.2 with ⟨h1, h2⟩ | ⟨g, cap, cur, h1, h2, h3, h4, h5, _⟩
  · exact Or.inl ⟨h2, h1⟩
  · refine Or.inr ⟨g, cap, h1, ?_, ?_⟩
    · by_cases hg' : g < w.heap.size
      · exact hg'
      · rw [Array.getElem?_eq_none (by omega)] at h3
        cases h3
    · unfold maxLen at h5
      omega
/-- bools, numbers, a circuit, as what a call is handed -/
def AtBS (w : World) (v : Value) (t : List Bool) : Prop := BoolsAt w v t ∧ Strong w v t.length
def AtIS (w : World) (v : Value) (t : List Int) : Prop := IntsAt w v t ∧ Strong w v t.length
def AtC (w : World) (v : Value) (c : Ci) : Prop := Fit c.1 ∧ ∃ g o, v = .agg #[.int .i64 c.1, g, o] ∧ GatesAt w g c.2.1 ∧ IntsAt w o c.2.2 ∧ Strong w g c.2.1.length ∧ Strong w o c.2.2.length
theorem AtC.at {w : World} {v : Value} {c : Ci} (h : AtC w v c) : AtCirc w v c := by
  obtain ⟨h0, g, o, hv, h1, h2, _⟩ := h
  exact ⟨h0, g, o, hv, h1, h2⟩
theorem AtC.below {w w' : World} {v : Value} {c : Ci} (h : AtC w v c) (hb : Below w.heap.size w w') : AtC w' v c := by
  obtain ⟨h0, g, o, hv, h1, h2, h3, h4⟩ := h
  exact ⟨h0, g, o, hv, h1.below hb, h2.below hb, h3.below hb, h4.below hb⟩
theorem AtBS.below {w w' : World} {v : Value} {t : List Bool} (h : AtBS w v t) (hb : Below w.heap.size w w') : AtBS w' v t := ⟨h.1.below hb, h.2.below hb⟩
theorem AtIS.below {w w' : World} {v : Value} {t : List Int} (h : AtIS w v t) (hb : Below w.heap.size w w') : AtIS w' v t := ⟨h.1.below hb, h.2.below hb⟩
theorem OwnIS.hands {w : World} {lo hi : Nat} {v : Value} {c : List Int} (h : OwnIS w lo hi v c) (ok : c.length ≤ 1048576) : AtIS w v c := ⟨h.reads ok, strong_of h.1⟩
theorem OwnBS.hands {w : World} {lo hi : Nat} {v : Value} {c : List Bool} (h : OwnBS w lo hi v c) (ok : c.length ≤ 1048576) : AtBS w v c := ⟨h.reads ok, strong_of h.1⟩
theorem AtBS.opened {w : World} {v : Value} {t : List Bool} (h : AtBS w v t) : (t = [] ∧ v = .slice none 0 0) ∨ ∃ g cap : Nat, v = .slice (some ⟨g, 0, none⟩) t.length cap ∧ g < w.heap.size ∧ cap ≤ 9223372036854775807 ∧ ∀ (i : Nat) (x : Bool), t[i]? = some x → w.cell? ⟨g, 0 + i, none⟩ = some (.bool x) := by
  obtain ⟨⟨_, h1⟩, h2⟩ := h
  rcases h2 with ⟨e, hv⟩ | ⟨g, cap, hv, hg, hc⟩
  · exact Or.inl ⟨List.length_eq_zero_iff.1 e, hv⟩
  · refine Or.inr ⟨g, cap, hv, hg, hc, fun i x hx => ?_⟩
    rcases h1 with ⟨e, _⟩ | ⟨b, off, cap', hv', _, hcell⟩
    · subst e
      simp at hx
    · rw [hv] at hv'
      injection hv' with e1
      injection e1 with e2
      injection e2 with e3 e4
      subst e3 e4
      exact hcell i x hx
theorem strong_ints {w : World} {v : Value} {t : List Int} (h1 : IntsAt w v t) (h2 : Strong w v t.length) : (t = [] ∧ v = .slice none 0 0) ∨ ∃ g cap : Nat, v = .slice (some ⟨g, 0, none⟩) t.length cap ∧ g < w.heap.size ∧ cap ≤ 9223372036854775807 ∧ ∀ (i : Nat) (x : Int), t[i]? = some x → w.cell? ⟨g, 0 + i, none⟩ = some (.int .i64 x) := by
  rcases h2 with ⟨e, hv⟩ | ⟨g, cap, hv, hg, hc⟩
  · exact Or.inl ⟨List.length_eq_zero_iff.1 e, hv⟩
  · refine Or.inr ⟨g, cap, hv, hg, hc, fun i x hx => ?_⟩
    rcases h1.2 with ⟨e, _⟩ | ⟨b, off, cap', hv', _, hcell⟩
    · subst e
      simp at hx
    · rw [hv] at hv'
      injection hv' with e1
      injection e1 with e2
      injection e2 with e3 e4
      subst e3 e4
      exact hcell i x hx
theorem strong_gates {w : World} {v : Value} {t : List Gt} (h1 : GatesAt w v t) (h2 : Strong w v t.length) : (t = [] ∧ v = .slice none 0 0) ∨ ∃ g cap : Nat, v = .slice (some ⟨g, 0, none⟩) t.length cap ∧ g < w.heap.size ∧ cap ≤ 9223372036854775807 ∧ ∀ (i : Nat) (x : Gt), t[i]? = some x → GateAt w g (0 + i * 3) x := by
  rcases h2 with ⟨e, hv⟩ | ⟨g, cap, hv, hg, hc⟩
  · exact Or.inl ⟨List.length_eq_zero_iff.1 e, hv⟩
  · refine Or.inr ⟨g, cap, hv, hg, hc, fun i x hx => ?_⟩
    rcases h1.2.2 with ⟨e, _⟩ | ⟨b, off, cap', hv', _, hcell⟩
    · subst e
      simp at hx
    · rw [hv] at hv'
      injection hv' with e1
      injection e1 with e2
      injection e2 with e3 e4
      subst e3 e4
      exact hcell i x hx
end Go.Proofs.YtmhpnkfibecnmaaDoor
