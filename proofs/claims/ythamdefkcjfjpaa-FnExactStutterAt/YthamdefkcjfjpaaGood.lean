/-
  When a circuit is good: the model's l4Gate, l1All and GoodCircuit.
-/
import Derived.Test.YthamdefkcjfjpaaOwn3
import Derived.Test.YthamdefkcjfjpaaGateM2
namespace Go.Proofs.Ythamdefkcjfjpaa
open Go Go.RowKit
open M
set_option linter.unusedVariables false

/-- a number between two -/
def btw (lo hi x : Int) : Bool := decide (lo ≤ x ∧ x ≤ hi)
theorem l1In_any (n lo hi : Int) (w : World) :
    Calls Try.prog 55 #[.int .i64 n, .int .i64 lo, .int .i64 hi] w fun e w' => e = .returned (.bool (decide (lo ≤ n ∧ n ≤ hi))) ∧ w' = w := by
  by_cases h : lo ≤ n ∧ n ≤ hi
  · rw [decide_eq_true h]
    exact l1In_yes n lo hi h w
  · rw [decide_eq_false h]
    exact l1In_no n lo hi h w
/-- a slice, whether it has elements or not -/
theorem IntsAt.opened {w : World} {v : Value} {t : List Int} (h : IntsAt w v t) : ∃ a cap, v = .slice a t.length cap ∧ ∀ (i : Nat) (x : Int), t[i]? = some x → ∃ b off : Nat, a = some ⟨b, off, none⟩ ∧ b < w.heap.size ∧ w.cell? ⟨b, off + i, none⟩ = some (.int .i64 x) := by
  rcases h.2 with ⟨rfl, a, cap, rfl⟩ | ⟨b, off, cap, rfl, hlt, hc⟩
  · exact ⟨a, cap, rfl, fun i x hx => by simp at hx⟩
  · exact ⟨_, cap, rfl, fun i x hx => ⟨b, off, rfl, hlt, hc i x hx⟩⟩
theorem BoolsAt.opened {w : World} {v : Value} {t : List Bool} (h : BoolsAt w v t) : ∃ a cap, v = .slice a t.length cap ∧ ∀ (i : Nat) (x : Bool), t[i]? = some x → ∃ b off : Nat, a = some ⟨b, off, none⟩ ∧ b < w.heap.size ∧ w.cell? ⟨b, off + i, none⟩ = some (.bool x) := by
  rcases h.2 with ⟨rfl, a, cap, rfl⟩ | ⟨b, off, cap, rfl, hlt, hc⟩
  · exact ⟨a, cap, rfl, fun i x hx => by simp at hx⟩
  · exact ⟨_, cap, rfl, fun i x hx => ⟨b, off, rfl, hlt, hc i x hx⟩⟩
theorem GatesAt.opened {w : World} {v : Value} {t : List Gt} (h : GatesAt w v t) : ∃ a cap, v = .slice a t.length cap ∧ ∀ (i : Nat) (x : Gt), t[i]? = some x → ∃ b off : Nat, a = some ⟨b, off, none⟩ ∧ b < w.heap.size ∧ GateAt w b (off + i * 3) x := by
  rcases h.2.2 with ⟨rfl, a, cap, rfl⟩ | ⟨b, off, cap, rfl, hlt, hc⟩
  · exact ⟨a, cap, rfl, fun i x hx => by simp at hx⟩
  · exact ⟨_, cap, rfl, fun i x hx => ⟨b, off, rfl, hlt, hc i x hx⟩⟩
set_option maxRecDepth 100000 in
theorem l1All_any (v : Value) (t : List Int) (lo hi : Int) (w : World) (h : IntsAt w v t) :
    Calls Try.prog 56 #[v, .int .i64 lo, .int .i64 hi] w fun e w' => e = .returned (.bool (t.all (btw lo hi))) ∧ w' = w := by
  have hl := h.1
  obtain ⟨a, cap, rfl, hc⟩ := h.opened
  clear h
  go_enter Try.func56, Try.ntmps56
  go_wp2_with fail
  go_loop [11] (fun i => ∃ j : Nat, j ≤ t.length ∧ i = .int .i64 j ∧ Hid ((t.take j).all (btw lo hi) = true)) (fun i => t.length - (intOf i).toNat)
  case atStart => exact ⟨0, by omega, rfl, rfl⟩
  case round =>
    obtain ⟨j, hj, rfl, HA⟩ := hrel
    by_cases hlt : j < t.length
    · obtain ⟨x, hx⟩ : ∃ x, t[j]? = some x := ⟨t[j], List.getElem?_eq_getElem hlt⟩
      obtain ⟨b, off, rfl, hb, c0⟩ := hc j x hx
      have g := l1In_any x lo hi w
      have HX : Hid (t[j]? = some x) := hx
      clear hc hx
      by_cases hp : lo ≤ x ∧ x ≤ hi
      · rw [decide_eq_true hp] at g
        have HN : Hid ((t.take (j + 1)).all (btw lo hi) = true) := all_take_snoc HX.out HA.out (decide_eq_true hp)
        clear hp
        go_wp2_with fail
        refine g.mono ?_
        rintro e w1 ⟨rfl, rfl⟩
        clear g
        go_wp2_with fail
        go_round
        case rel => exact ⟨j + 1, by omega, by go_num, HN⟩
        case measure => simp [intOf]; omega
      · rw [decide_eq_false hp] at g
        have HN : Hid (t.all (btw lo hi) = false) := all_false HX.out (decide_eq_false hp)
        clear hp
        go_wp2_with fail
        refine g.mono ?_
        rintro e w1 ⟨rfl, rfl⟩
        clear g
        go_wp2_with fail
        go_ret
        exact ⟨ret_bool HN.out.symm, rfl⟩
    · obtain rfl : j = t.length := by omega
      have HN : Hid (t.all (btw lo hi) = true) := by
        have h1 := HA.out
        rw [List.take_length] at h1
        exact h1
      clear hc HA
      go_wp2_with fail
      go_ret
      exact ⟨ret_bool HN.out.symm, rfl⟩
theorem in_le (own x : Int) : decide (0 ≤ x ∧ x ≤ own - 1) = inB own x := by
  unfold inB
  rw [decide_eq_decide]
  omega
end Go.Proofs.Ythamdefkcjfjpaa
