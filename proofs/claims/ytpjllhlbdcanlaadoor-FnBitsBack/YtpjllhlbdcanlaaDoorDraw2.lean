/-
  What the laws of the words of bits draw: a wide and two numbers from the bytes, a number from the other bytes, and whether both are too long together.
-/
import Derived.Test.YtpjllhlbdcanlaaDoorDraw
namespace Go.Proofs.YtpjllhlbdcanlaaDoor
open Go Go.RowKit
open M
set_option linter.unusedVariables false

def bigB (l0 l1 : Nat) : Bool := decide (1048576 < l0 + l1)
theorem big_yes (a0 a1 : Option Addr) (l0 c0 l1 c1 : Nat) (h0 : l0 ≤ 9223372036854775807) (h1 : l1 ≤ 9223372036854775807) (h : 1048576 < l0 + l1) (w : World) :
    Calls Tryd.prog 8 #[.slice a0 l0 c0, .slice a1 l1 c1] w fun e w' => e = .returned (.bool true) ∧ w' = w := by
  by_cases hl : 1048576 < l0
  · go_enter Tryd.func8, Tryd.ntmps8
    go_wp2
    go_ret
    exact ⟨rfl, rfl⟩
  · have hd : decide (1048576 - (l0 : Int) < (l1 : Int)) = true := decide_eq_true (by omega)
    go_enter Tryd.func8, Tryd.ntmps8
    go_wp2
    go_ret
    exact ⟨ret_bool (by first | rfl | exact hd | exact decide_eq_false (by omega)), rfl⟩
theorem big_no (a0 a1 : Option Addr) (l0 c0 l1 c1 : Nat) (h0 : l0 ≤ 9223372036854775807) (h1 : l1 ≤ 9223372036854775807) (h : l0 + l1 ≤ 1048576) (w : World) :
    Calls Tryd.prog 8 #[.slice a0 l0 c0, .slice a1 l1 c1] w fun e w' => e = .returned (.bool false) ∧ w' = w := by
  have hd : decide (1048576 - (l0 : Int) < (l1 : Int)) = false := decide_eq_false (by omega)
  go_enter Tryd.func8, Tryd.ntmps8
  go_wp2
  go_ret
  exact ⟨ret_bool (by first | rfl | exact hd | exact decide_eq_false (by omega)), rfl⟩

theorem sum_bd (n x : Int) (h0 : 0 ≤ n) (h1 : n < 1000003) (hx0 : 0 ≤ x) (hx1 : x ≤ 255) : 0 ≤ (31 * n + x) % 1000003 ∧ (31 * n + x) % 1000003 < 1000003 := by omega
theorem cur_new (w : World) (sv : Value) (h : CodeOk w.heap.size w sv) : Cur w.heap.size w.heap.size 0 sv (w.alloc (.cells #[sv, .int .i64 0, .int .u64 0] 63)) := by
  refine ⟨Nat.le_refl _, by simp, ?_, h.below ((Below.refl _ _).alloc (Nat.le_refl _) _), ⟨0, ?_, by omega⟩, ⟨0, ?_, by omega, by omega⟩, ?_, ?_⟩
  · rw [World.cell?_alloc_new]; rfl
  · rw [World.cell?_alloc_new]; rfl
  · rw [World.cell?_alloc_new]; rfl
  · rw [World.frozen?_alloc_at (hn := rfl)]
  · rw [World.frozen?_alloc_at (hn := rfl)]
end Go.Proofs.YtpjllhlbdcanlaaDoor
