/-
  The program's cone: some wires of a circuit marked, and all from which they are made.
-/
import Derived.Test.YtpjllhlbdcanlaaDoorConeM
import Derived.Test.YtpjllhlbdcanlaaDoorRun
import Derived.Test.YtpjllhlbdcanlaaDoorIGood4
import Derived.Handy
namespace Go.Proofs.YtpjllhlbdcanlaaDoor
open Go Go.RowKit
open M
set_option linter.unusedVariables false

theorem mark_at {w : World} {B g cap n : Nat} {m : List Bool} (h : w.ownsRow B 4 1 (.slice (some ⟨g, 0, none⟩) n cap) n (cellsB m)) (i : Nat) (hi : i < n) :
    (∃ u, w.cell? ⟨g, i, none⟩ = some u) ∧ w.frozen? ⟨g, i, none⟩ = false ∧ (w.setCell ⟨g, i, none⟩ (.bool true)).ownsRow B 4 1 (.slice (some ⟨g, 0, none⟩) n cap) n (cellsB (m.set i true)) := by
  have hl := h.1
  refine ⟨?_, h.frozenAt i, ?_⟩
  · refine ⟨_, (h.cellAt i (by omega)).trans (List.getElem?_eq_getElem (by omega))⟩
  · have st := (h.stored i (.bool true)).1
    unfold cellsB at *
    rw [List.map_set]
    exact st
theorem own_read {w : World} {B g cap n : Nat} {m : List Bool} (h : w.ownsRow B 4 1 (.slice (some ⟨g, 0, none⟩) n cap) n (cellsB m)) (i : Nat) (hi : i < n) : w.cell? ⟨g, i, none⟩ = some (.bool (at' m i)) := by
  have hl : m.length = n := by
    have := h.1
    unfold cellsB at this
    simpa using this
  rw [h.cellAt i (by omega)]
  unfold cellsB at'
  rw [List.getElem?_map, List.getElem?_eq_getElem (by omega), Int.toNat_natCast, List.getD_eq_getElem?_getD, List.getElem?_eq_getElem (by omega)]
  rfl
theorem cell_other {w : World} {g b o : Nat} {p : Nat} {v : Value} (h : b ≠ g) : (w.setCell ⟨g, p, none⟩ v).cell? ⟨b, o, none⟩ = w.cell? ⟨b, o, none⟩ := by
  have e := Below.heap_setCell w ⟨g, p, none⟩ v b (by exact h)
  simp only [World.cell?, e]
theorem takenL_len (g : Gt) : (takenL g).length ≤ 2 := by
  unfold takenL
  split
  · simp
  · split <;> simp
end Go.Proofs.YtpjllhlbdcanlaaDoor
