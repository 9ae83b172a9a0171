/-
  Signs and bytes of terms as texts: contracts.
-/
import Derived.Test.YtkfplichekebdaaGreatDoorReadN
namespace Go.Proofs.YtkfplichekebdaaGreatDoor
open Go Go.RowKit
open M
set_option linter.unusedVariables false

theorem l3Sign_none (op : Int) (h : op < 3 ∨ 19 < op) (w : World) : Calls Tryz.prog 60 #[.int .i64 op] w fun e w' => e = .returned (tx []) ∧ w' = w := by
  have n3 : op ≠ 3 := by omega
  have n4 : op ≠ 4 := by omega
  have n5 : op ≠ 5 := by omega
  have n6 : op ≠ 6 := by omega
  have n7 : op ≠ 7 := by omega
  have n8 : op ≠ 8 := by omega
  have n9 : op ≠ 9 := by omega
  have n10 : op ≠ 10 := by omega
  have n11 : op ≠ 11 := by omega
  have n12 : op ≠ 12 := by omega
  have n13 : op ≠ 13 := by omega
  have n14 : op ≠ 14 := by omega
  have n15 : op ≠ 15 := by omega
  have n16 : op ≠ 16 := by omega
  have n17 : op ≠ 17 := by omega
  have n18 : op ≠ 18 := by omega
  have n19 : op ≠ 19 := by omega
  go_enter Tryz.func60, Tryz.ntmps60
  go_wp2_with fail
  go_ret
  exact ⟨rfl, rfl⟩
theorem l3Sign_nat (k : Nat) (h1 : 3 ≤ k) (h2 : k ≤ 19) (w : World) : Calls Tryz.prog 60 #[.int .i64 (k : Int)] w fun e w' => e = .returned (tx (signN k)) ∧ w' = w := by
  have hk : k = 3 ∨ k = 4 ∨ k = 5 ∨ k = 6 ∨ k = 7 ∨ k = 8 ∨ k = 9 ∨ k = 10 ∨ k = 11 ∨ k = 12 ∨ k = 13 ∨ k = 14 ∨ k = 15 ∨ k = 16 ∨ k = 17 ∨ k = 18 ∨ k = 19 := by omega
  rcases hk with rfl | rfl | rfl | rfl | rfl | rfl | rfl | rfl | rfl | rfl | rfl | rfl | rfl | rfl | rfl | rfl | rfl
  all_goals
    clear h1 h2
    go_enter Tryz.func60, Tryz.ntmps60
    go_wp2_with fail
    go_ret
    exact ⟨rfl, rfl⟩
theorem l3Sign_any (op : Int) (w : World) : Calls Tryz.prog 60 #[.int .i64 op] w fun e w' => e = .returned (tx (signL op)) ∧ w' = w := by
  by_cases h : op < 3 ∨ 19 < op
  · have e : signL op = [] := by
      unfold signL signN
      split <;> first | rfl | omega
    rw [e]
    exact l3Sign_none op h w
  · obtain ⟨k, rfl⟩ := Int.eq_ofNat_of_zero_le (show 0 ≤ op by omega)
    unfold signL
    rw [Int.toNat_natCast]
    exact l3Sign_nat k (by omega) (by omega) w
theorem l3Digit_any (b : UInt8) (w : World) : Calls Tryz.prog 74 #[.int .u8 (b.toNat : Int)] w fun e w' => e = .returned (.bool (isDig b)) ∧ w' = w := by
  cases h : isDig b with
  | true =>
    obtain ⟨h1, h2⟩ := isDig_nat h
    have d1 : (48 : Int) ≤ b.toNat := by omega
    have d2 : (b.toNat : Int) ≤ 57 := by omega
    clear h h1 h2
    go_enter Tryz.func74, Tryz.ntmps74
    go_wp2_with fail
    go_ret
    exact ⟨by first | (simp; done) | (simp; omega), rfl⟩
  | false =>
    have h1 := isDig_not h
    clear h
    by_cases h2 : b.toNat < 48
    · have d1 : (b.toNat : Int) < 48 := by omega
      have d2 : decide ((48 : Int) ≤ b.toNat) = false := by simp; omega
      go_enter Tryz.func74, Tryz.ntmps74
      go_wp2_with fail
      go_ret
      exact ⟨by first | (simp; done) | (simp; omega), rfl⟩
    · have d1 : (48 : Int) ≤ b.toNat := by omega
      have d2 : (57 : Int) < b.toNat := by omega
      go_enter Tryz.func74, Tryz.ntmps74
      go_wp2_with fail
      go_ret
      exact ⟨by first | (simp; done) | (simp; omega), rfl⟩
theorem l3Letter_any (b : UInt8) (w : World) : Calls Tryz.prog 75 #[.int .u8 (b.toNat : Int)] w fun e w' => e = .returned (.bool (isLet b)) ∧ w' = w := by
  cases h : isLet b with
  | true =>
    obtain ⟨h1, h2⟩ := isLet_nat h
    have d1 : (97 : Int) ≤ b.toNat := by omega
    have d2 : (b.toNat : Int) ≤ 122 := by omega
    clear h h1 h2
    go_enter Tryz.func75, Tryz.ntmps75
    go_wp2_with fail
    go_ret
    exact ⟨by first | (simp; done) | (simp; omega), rfl⟩
  | false =>
    have h1 := isLet_not h
    clear h
    by_cases h2 : b.toNat < 97
    · have d1 : (b.toNat : Int) < 97 := by omega
      have d2 : decide ((97 : Int) ≤ b.toNat) = false := by simp; omega
      go_enter Tryz.func75, Tryz.ntmps75
      go_wp2_with fail
      go_ret
      exact ⟨by first | (simp; done) | (simp; omega), rfl⟩
    · have d1 : (97 : Int) ≤ b.toNat := by omega
      have d2 : (122 : Int) < b.toNat := by omega
      go_enter Tryz.func75, Tryz.ntmps75
      go_wp2_with fail
      go_ret
      exact ⟨by first | (simp; done) | (simp; omega), rfl⟩
end Go.Proofs.YtkfplichekebdaaGreatDoor
