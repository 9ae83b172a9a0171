/-
  The laws' comparisons of chapter 4 where both are the same: sameInts, sameBools, sameCircuit; the number that wires carry.
-/
import Derived.Test.YtpjllhlbdcanlaaIGates
import Derived.Test.YtpjllhlbdcanlaaIRun3
import Derived.Handy
namespace Go.Proofs.Ytpjllhlbdcanlaa
open Go Go.RowKit
open M
set_option linter.unusedVariables false
set_option linter.unusedSimpArgs false

set_option maxRecDepth 100000 in
theorem sameInts_same (u v : Value) (t : List Int) (w : World) (h1 : IntsAt w u t) (h2 : IntsAt w v t) :
    Calls Try.prog 23 #[u, v] w fun e w' => e = .returned (.bool true) ∧ Below w.heap.size w w' := by
  obtain ⟨a, ac, rfl, ha⟩ := h1.opened
  obtain ⟨b, bc, rfl, hb⟩ := h2.opened
  have hl := h1.1
  clear h1 h2
  generalize hn : t.length = n at *
  go_enter Try.func23, Try.ntmps23
  go_wp2_with fail
  have HA : Hid (∀ w1 : World, Below w.heap.size w w1 → ∀ (i : Nat) (x : Int), t[i]? = some x → ∃ g off : Nat, a = some ⟨g, off, none⟩ ∧ w1.cell? ⟨g, off + i, none⟩ = some (.int .i64 x)) := fun w1 hw i x hx => by
    obtain ⟨g, off, e, hlt, hc⟩ := ha i x hx
    exact ⟨g, off, e, by rw [hw.cell (p := ⟨g, off + i, none⟩) hlt]; exact hc⟩
  have HB : Hid (∀ w1 : World, Below w.heap.size w w1 → ∀ (i : Nat) (x : Int), t[i]? = some x → ∃ g off : Nat, b = some ⟨g, off, none⟩ ∧ w1.cell? ⟨g, off + i, none⟩ = some (.int .i64 x)) := fun w1 hw i x hx => by
    obtain ⟨g, off, e, hlt, hc⟩ := hb i x hx
    exact ⟨g, off, e, by rw [hw.cell (p := ⟨g, off + i, none⟩) hlt]; exact hc⟩
  have HN : Hid (t.length = n) := hn
  clear ha hb hn
  go_loopw [13] (fun i wr => ∃ j : Nat, j ≤ n ∧ i = .int .i64 j ∧ Hid (Below w.heap.size w wr)) (fun i _ => n - (intOf i).toNat)
  case atStart => exact ⟨0, by omega, rfl, Below.refl _ _⟩
  case round =>
    obtain ⟨j, hj, rfl, HBl⟩ := hrel
    by_cases hlt : j < n
    · obtain ⟨x, hx⟩ : ∃ x, t[j]? = some x := ⟨t[j]'(by have := HN.out; omega), List.getElem?_eq_getElem (by have := HN.out; omega)⟩
      obtain ⟨ag, aoff, rfl, d0⟩ := HA.out wr HBl.out j x hx
      obtain ⟨bg, boff, rfl, d1⟩ := HB.out wr HBl.out j x hx
      have hjn : (j : Int) < (n : Int) := by omega
      have HD : Hid (Below w.heap.size w wr.drew) := HBl.out.drew
      clear hx HA HB HN HBl
      go_wp2_with fail
      go_region
      all_goals
        go_wp2_with fail
        go_roundw
        case rel => exact ⟨j + 1, by omega, by go_num, HD⟩
        case measure => simp [intOf]; omega
    · obtain rfl : j = n := by omega
      clear HA HB HN
      go_wp2_with fail
      go_ret
      exact ⟨rfl, HBl.out⟩
set_option maxRecDepth 100000 in
theorem sameBools_same (u v : Value) (t : List Bool) (w : World) (h1 : BoolsAt w u t) (h2 : BoolsAt w v t) :
    Calls Try.prog 30 #[u, v] w fun e w' => e = .returned (.bool true) ∧ Below w.heap.size w w' := by
  obtain ⟨a, ac, rfl, ha⟩ := h1.opened
  obtain ⟨b, bc, rfl, hb⟩ := h2.opened
  have hl := h1.1
  clear h1 h2
  generalize hn : t.length = n at *
  go_enter Try.func30, Try.ntmps30
  go_wp2_with fail
  have HA : Hid (∀ w1 : World, Below w.heap.size w w1 → ∀ (i : Nat) (x : Bool), t[i]? = some x → ∃ g off : Nat, a = some ⟨g, off, none⟩ ∧ w1.cell? ⟨g, off + i, none⟩ = some (.bool x)) := fun w1 hw i x hx => by
    obtain ⟨g, off, e, hlt, hc⟩ := ha i x hx
    exact ⟨g, off, e, by rw [hw.cell (p := ⟨g, off + i, none⟩) hlt]; exact hc⟩
  have HB : Hid (∀ w1 : World, Below w.heap.size w w1 → ∀ (i : Nat) (x : Bool), t[i]? = some x → ∃ g off : Nat, b = some ⟨g, off, none⟩ ∧ w1.cell? ⟨g, off + i, none⟩ = some (.bool x)) := fun w1 hw i x hx => by
    obtain ⟨g, off, e, hlt, hc⟩ := hb i x hx
    exact ⟨g, off, e, by rw [hw.cell (p := ⟨g, off + i, none⟩) hlt]; exact hc⟩
  have HN : Hid (t.length = n) := hn
  clear ha hb hn
  go_loopw [13] (fun i wr => ∃ j : Nat, j ≤ n ∧ i = .int .i64 j ∧ Hid (Below w.heap.size w wr)) (fun i _ => n - (intOf i).toNat)
  case atStart => exact ⟨0, by omega, rfl, Below.refl _ _⟩
  case round =>
    obtain ⟨j, hj, rfl, HBl⟩ := hrel
    by_cases hlt : j < n
    · obtain ⟨x, hx⟩ : ∃ x, t[j]? = some x := ⟨t[j]'(by have := HN.out; omega), List.getElem?_eq_getElem (by have := HN.out; omega)⟩
      obtain ⟨ag, aoff, rfl, d0⟩ := HA.out wr HBl.out j x hx
      obtain ⟨bg, boff, rfl, d1⟩ := HB.out wr HBl.out j x hx
      have hjn : (j : Int) < (n : Int) := by omega
      have HD : Hid (Below w.heap.size w wr.drew) := HBl.out.drew
      clear hx HA HB HN HBl
      go_wp2_with fail
      go_region
      all_goals
        go_wp2_with fail
        go_roundw
        case rel => exact ⟨j + 1, by omega, by go_num, HD⟩
        case measure => simp [intOf]; omega
    · obtain rfl : j = n := by omega
      clear HA HB HN
      go_wp2_with fail
      go_ret
      exact ⟨rfl, HBl.out⟩
end Go.Proofs.Ytpjllhlbdcanlaa
