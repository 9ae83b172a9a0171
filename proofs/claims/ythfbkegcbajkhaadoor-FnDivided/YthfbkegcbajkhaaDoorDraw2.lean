/-
  What the laws of the words of bits draw: a wide and two numbers from the bytes, a number from the other bytes, and whether both are too long together.
-/
import Derived.Test.YthfbkegcbajkhaaDoorDraw
namespace Go.Proofs.YthfbkegcbajkhaaDoor
open Go Go.RowKit
open M
set_option linter.unusedVariables false

def bigB (l0 l1 : Nat) : Bool := decide (1048576 < l0 + l1)
theorem big_yes (a0 a1 : Option Addr) (l0 c0 l1 c1 : Nat) (h0 : l0 ≤ 9223372036854775807) (h1 : l1 ≤ 9223372036854775807) (h : 1048576 < l0 + l1) (w : World) :
    Calls Tryd.prog 16 #[.slice a0 l0 c0, .slice a1 l1 c1] w fun e w' => e = .returned (.bool true) ∧ w' = w := by
  by_cases hl : 1048576 < l0
  · go_enter Tryd.func16, Tryd.ntmps16
    go_wp2
    go_ret
    exact ⟨rfl, rfl⟩
  · have hd : decide (1048576 - (l0 : Int) < (l1 : Int)) = true := decide_eq_true (by omega)
    go_enter Tryd.func16, Tryd.ntmps16
    go_wp2
    go_ret
    exact ⟨ret_bool (by first | rfl | exact hd | exact decide_eq_false (by omega)), rfl⟩
theorem big_no (a0 a1 : Option Addr) (l0 c0 l1 c1 : Nat) (h0 : l0 ≤ 9223372036854775807) (h1 : l1 ≤ 9223372036854775807) (h : l0 + l1 ≤ 1048576) (w : World) :
    Calls Tryd.prog 16 #[.slice a0 l0 c0, .slice a1 l1 c1] w fun e w' => e = .returned (.bool false) ∧ w' = w := by
  have hd : decide (1048576 - (l0 : Int) < (l1 : Int)) = false := decide_eq_false (by omega)
  go_enter Tryd.func16, Tryd.ntmps16
  go_wp2
  go_ret
  exact ⟨ret_bool (by first | rfl | exact hd | exact decide_eq_false (by omega)), rfl⟩

theorem sum_bd (n x : Int) (h0 : 0 ≤ n) (h1 : n < 1000003) (hx0 : 0 ≤ x) (hx1 : x ≤ 255) : 0 ≤ (31 * n + x) % 1000003 ∧ (31 * n + x) % 1000003 < 1000003 := by omega
set_option maxHeartbeats 400000 in
theorem numberOf_nil (a : Option Addr) (c : Nat) (w : World) :
    Calls Tryd.prog 27 #[.slice a 0 c] w fun e w' => ∃ x : Int, (0 ≤ x ∧ x < 1000003) ∧ e = .returned (.int .i64 x) ∧ w' = w := by
  go_enter Tryd.func27, Tryd.ntmps27
  go_wp2
  go_loop [3, 8] (fun n i => i = .int .i64 0 ∧ n = .int .i64 0) (fun _ _ => 0)
  case atStart => exact ⟨rfl, rfl⟩
  case round =>
    obtain ⟨rfl, rfl⟩ := hrel
    go_wp2
    go_ret
    exact ⟨0, ⟨by omega, by omega⟩, rfl, rfl⟩
set_option maxHeartbeats 400000 in
theorem numberOf_row (cb off len cap : Nat) (hlen : len ≤ 9223372036854775807) (w : World) (hc : ∀ i : Nat, i < len → ∃ x : Int, w.cell? ⟨cb, off + i, none⟩ = some (.int .u8 x) ∧ 0 ≤ x ∧ x ≤ 255) :
    Calls Tryd.prog 27 #[.slice (some ⟨cb, off, none⟩) len cap] w fun e w' => ∃ x : Int, (0 ≤ x ∧ x < 1000003) ∧ e = .returned (.int .i64 x) ∧ w' = w := by
  go_enter Tryd.func27, Tryd.ntmps27
  go_wp2
  go_loop [3, 8] (fun n i => ∃ (j : Nat) (x : Int), j ≤ len ∧ i = .int .i64 j ∧ n = .int .i64 x ∧ 0 ≤ x ∧ x < 1000003) (fun _ i => len - (intOf i).toNat)
  case atStart => exact ⟨0, 0, by omega, rfl, rfl, by omega, by omega⟩
  case round =>
    obtain ⟨j, x, hj, rfl, rfl, hx0, hx1⟩ := hrel
    by_cases hlt : j < len
    · obtain ⟨y, hy, hy0, hy1⟩ := hc j hlt
      have hs := sum_bd x y hx0 hx1 hy0 hy1
      clear hc
      go_wp2
      go_round
      case rel => exact ⟨j + 1, _, by omega, by go_num, rfl, hs.1, hs.2⟩
      case measure => simp [intOf]; omega
    · go_wp2
      go_ret
      exact ⟨x, ⟨hx0, hx1⟩, rfl, rfl⟩
theorem numberOf_any (B : Nat) (sv : Value) (w : World) (h : CodeOk B w sv) :
    Calls Tryd.prog 27 #[sv] w fun e w' => ∃ x : Int, (0 ≤ x ∧ x < 1000003) ∧ e = .returned (.int .i64 x) ∧ w' = w := by
  rcases h with ⟨a, cap, rfl⟩ | ⟨cb, off, len, cap, rfl, _, hlen, hc⟩
  · exact numberOf_nil a cap w
  · exact numberOf_row cb off len cap hlen w hc

theorem cur_new (w : World) (sv : Value) (h : CodeOk w.heap.size w sv) : Cur w.heap.size w.heap.size 0 sv (w.alloc (.cells #[sv, .int .i64 0, .int .u64 0] 45)) := by
  refine ⟨Nat.le_refl _, by simp, ?_, h.below ((Below.refl _ _).alloc (Nat.le_refl _) _), ⟨0, ?_, by omega⟩, ⟨0, ?_, by omega, by omega⟩, ?_, ?_⟩
  · rw [World.cell?_alloc_new]; rfl
  · rw [World.cell?_alloc_new]; rfl
  · rw [World.cell?_alloc_new]; rfl
  · rw [World.frozen?_alloc_at (hn := rfl)]
  · rw [World.frozen?_alloc_at (hn := rfl)]
set_option maxHeartbeats 400000 in
theorem drawAdd_any (ad : Option Addr) (l c : Nat) (w : World) (h : CodeOk w.heap.size w (.slice ad l c)) :
    Calls Tryd.prog 17 #[.slice ad l c] w fun e w' => ∃ (k : Nat) (x y : Int), k ≤ 65 ∧ (0 ≤ x ∧ x ≤ 18446744073709551615) ∧ (0 ≤ y ∧ y ≤ 18446744073709551615) ∧ e = .returned (.tuple #[.int .i64 k, .int .u64 x, .int .u64 y]) ∧ Below w.heap.size w w' := by
  have hc0 := cur_new w _ h
  have hb0 : Below w.heap.size w (w.alloc (.cells #[.slice ad l c, .int .i64 0, .int .u64 0] 45)) := (Below.refl _ _).alloc (Nat.le_refl _) _
  have g1 := width_any _ _ _ _ _ hc0 (by omega)
  have hz : w.heap.size ≤ (w.alloc (.cells #[.slice ad l c, .int .i64 0, .int .u64 0] 45)).heap.size := by simp
  clear h hc0
  go_enter Tryd.func17, Tryd.ntmps17
  go_wp2_with fail
  refine g1.mono ?_
  rintro e w1 ⟨n, ⟨hn0, hn1⟩, rfl, ho1, hc1⟩
  clear g1
  obtain ⟨k, rfl⟩ := Int.eq_ofNat_of_zero_le hn0
  have hb1 := hb0.trans (ho1.below (Nat.le_refl _) hz)
  clear hb0 ho1 hz
  have g2 := word_any _ _ _ _ k (by omega) w1 hc1 (by omega)
  go_wp2_with fail
  refine g2.mono ?_
  rintro e w2 ⟨x, hx, rfl, ho2, hc2⟩
  clear g2 hc1
  have hb2 := hb1.trans (ho2.below (Nat.le_refl _) hb1.size)
  clear hb1 ho2
  have g3 := word_any _ _ _ _ k (by omega) w2 hc2 (by omega)
  go_wp2_with fail
  refine g3.mono ?_
  rintro e w3 ⟨y, hy, rfl, ho3, hc3⟩
  clear g3 hc2 hc3
  have hb3 := hb2.trans (ho3.below (Nat.le_refl _) hb2.size)
  clear hb2 ho3
  go_wp2_with fail
  go_ret3
  exact ⟨k, x, y, by omega, hx, hy, rfl, hb3⟩
theorem drawDiv_any (ad : Option Addr) (l c : Nat) (w : World) (h : CodeOk w.heap.size w (.slice ad l c)) :
    Calls Tryd.prog 29 #[.slice ad l c] w fun e w' => ∃ (k : Nat) (x y : Int), k ≤ 65 ∧ (0 ≤ x ∧ x ≤ 18446744073709551615) ∧ (0 ≤ y ∧ y ≤ 18446744073709551615) ∧ e = .returned (.tuple #[.int .i64 k, .int .u64 x, .int .u64 y]) ∧ Below w.heap.size w w' := by
  have g1 := drawAdd_any ad l c w h
  clear h
  go_enter Tryd.func29, Tryd.ntmps29
  go_wp2_with fail
  refine g1.mono ?_
  rintro e w1 ⟨k, x, y, hk, hx, hy, rfl, hb⟩
  clear g1
  go_wp2_with fail
  go_ret3
  exact ⟨k, x, y, hk, hx, hy, rfl, hb⟩
end Go.Proofs.YthfbkegcbajkhaaDoor
