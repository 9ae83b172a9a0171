/-
  What the functions of the words of bits do, the program's and the model's, one contract a function: each only computes (the world stays) where the table of masks lies as it was laid.
-/
import Derived.Test.YtmhpnkfibecnmaaDoorProg
import Derived.Test.YtmhpnkfibecnmaaDoorMath
import Derived.WalkKit
namespace Go.Proofs.YtmhpnkfibecnmaaDoor
open Go Go.RowKit
open M
set_option linter.unusedVariables false

/-- the table of masks lies as it was laid -/
def Tab (w : World) : Prop := ∀ k : Nat, k ≤ 64 → w.cell? ⟨0, k, none⟩ = some (.int .u64 (pw k - 1))

theorem ret_int {k : IntKind} {a b : Int} (h : a = b) : Ending.returned (.int k a) = .returned (.int k b) := by rw [h]
theorem ret_bool {a b : Bool} (h : a = b) : Ending.returned (.bool a) = .returned (.bool b) := by rw [h]

set_option maxHeartbeats 400000 in
theorem l1Cut_any (k : Nat) (hk : k ≤ 65) (a : Int) (h0 : 0 ≤ a) (h1 : a ≤ 18446744073709551615) (w : World) :
    Calls Tryd.prog 132 #[.int .i64 k, .int .u64 a] w fun e w' => e = .returned (.int .u64 (cut k a)) ∧ w' = w := by
  go_enter Tryd.func132, Tryd.ntmps132
  go_wp2
  go_loop [5, 6] (fun o i => ∃ j : Nat, j ≤ k ∧ i = .int .i64 j ∧ o = .int .u64 (cut j a)) (fun _ i => k - (intOf i).toNat)
  case atStart => exact ⟨0, Nat.zero_le _, rfl, by rw [cut_zero]⟩
  case round =>
    obtain ⟨j, hj, rfl, rfl⟩ := hrel
    by_cases hlt : j < k
    · go_wp2
      go_round
      case rel => exact ⟨j + 1, by omega, by go_num, by rw [cut_round j (by omega) a h0 h1]⟩
      case measure => simp [intOf]; omega
    · go_wp2
      go_ret
      have : j = k := by omega
      subst this
      exact ⟨rfl, rfl⟩

theorem goodWide_any (n : Int) (w : World) :
    Calls Tryd.prog 73 #[.int .i64 n] w fun e w' => e = .returned (.bool (wideB n)) ∧ w' = w := by
  by_cases h1 : 1 ≤ n
  · have hb : wideB n = decide (n ≤ 64) := by unfold wideB; simp [h1]
    rw [hb]
    go_enter Tryd.func73, Tryd.ntmps73
    go_wp2
    go_ret
    exact ⟨rfl, rfl⟩
  · have hb : wideB n = false := by unfold wideB; simp [h1]
    rw [hb]
    go_enter Tryd.func73, Tryd.ntmps73
    go_wp2
    go_ret
    exact ⟨rfl, rfl⟩
theorem l1Wide_any (n : Int) (w : World) :
    Calls Tryd.prog 129 #[.int .i64 n] w fun e w' => e = .returned (.bool (wideB n)) ∧ w' = w := by
  by_cases h1 : 1 ≤ n
  · have hb : wideB n = decide (n ≤ 64) := by unfold wideB; simp [h1]
    rw [hb]
    go_enter Tryd.func129, Tryd.ntmps129
    go_wp2
    go_ret
    exact ⟨rfl, rfl⟩
  · have hb : wideB n = false := by unfold wideB; simp [h1]
    rw [hb]
    go_enter Tryd.func129, Tryd.ntmps129
    go_wp2
    go_ret
    exact ⟨rfl, rfl⟩

theorem iGoodWord_any (n a : Int) (w : World) (hT : Tab w) :
    Calls Tryd.prog 162 #[.int .i64 n, .int .u64 a] w fun e w' => e = .returned (.bool (goodB n a)) ∧ w' = w := by
  cases hw : wideB n with
  | false =>
    have hb : goodB n a = false := by
      have := wideB_false hw
      unfold goodB
      exact decide_eq_false (by omega)
    rw [hb]
    have g := goodWide_any n w
    rw [hw] at g
    go_enter Tryd.func162, Tryd.ntmps162
    go_wp2_with fail
    refine g.mono ?_
    rintro e w' ⟨rfl, rfl⟩
    go_wp2_with fail
    go_ret
    exact ⟨rfl, rfl⟩
  | true =>
    obtain ⟨k, rfl, hk1, hk⟩ := wideB_true hw
    have hb : goodB k a = decide (a ≤ pw k - 1) := by
      unfold goodB
      rw [Int.toNat_natCast, Bool.eq_iff_iff]
      simp
      omega
    rw [hb]
    have g := goodWide_any k w
    rw [hw] at g
    have hc := hT k hk
    have hp := pw_pos k
    have hl := pw_le k hk
    clear hb hw
    generalize pw k = M at *
    go_enter Tryd.func162, Tryd.ntmps162
    go_wp2_with fail
    refine g.mono ?_
    rintro e w' ⟨rfl, rfl⟩
    go_wp2_with fail
    go_ret
    exact ⟨rfl, rfl⟩

theorem sGoodWord_any (n a : Int) (h0 : 0 ≤ a) (h1 : a ≤ 18446744073709551615) (w : World) :
    Calls Tryd.prog 127 #[.int .i64 n, .int .u64 a] w fun e w' => e = .returned (.bool (goodB n a)) ∧ w' = w := by
  cases hw : wideB n with
  | false =>
    have hb : goodB n a = false := by
      have := wideB_false hw
      unfold goodB
      exact decide_eq_false (by omega)
    rw [hb]
    have g := l1Wide_any n w
    rw [hw] at g
    go_enter Tryd.func127, Tryd.ntmps127
    go_wp2_with fail
    refine g.mono ?_
    rintro e w' ⟨rfl, rfl⟩
    go_wp2_with fail
    go_ret
    exact ⟨rfl, rfl⟩
  | true =>
    obtain ⟨k, rfl, hk1, hk⟩ := wideB_true hw
    have hb : goodB k a = (cut k a == a) := by
      unfold goodB
      rw [Int.toNat_natCast, Bool.eq_iff_iff]
      simp [cut_eq_iff k a h0]
      omega
    rw [hb]
    have g := l1Wide_any k w
    rw [hw] at g
    have g2 := l1Cut_any k (by omega) a h0 h1 w
    clear hb hw
    generalize cut k a = c at *
    go_enter Tryd.func127, Tryd.ntmps127
    go_wp2_with fail
    refine g.mono ?_
    rintro e w' ⟨rfl, rfl⟩
    go_wp2_with fail
    refine g2.mono ?_
    rintro e w' ⟨rfl, rfl⟩
    go_wp2_with fail
    go_ret
    exact ⟨rfl, rfl⟩

theorem iBoth_any (n a b : Int)  (w : World) (hT : Tab w) :
    Calls Tryd.prog 164 #[.int .i64 n, .int .u64 a, .int .u64 b] w fun e w' => e = .returned (.bool (goodB n a && goodB n b)) ∧ w' = w := by
  have g1 := iGoodWord_any n a w hT
  have g2 := iGoodWord_any n b w hT
  clear hT
  generalize goodB n a = x at *
  generalize goodB n b = y at *
  cases x with
  | false =>
    go_enter Tryd.func164, Tryd.ntmps164
    go_wp2_with fail
    refine g1.mono ?_
    rintro e w' ⟨rfl, rfl⟩
    go_wp2_with fail
    go_ret
    exact ⟨rfl, rfl⟩
  | true =>
    go_enter Tryd.func164, Tryd.ntmps164
    go_wp2_with fail
    refine g1.mono ?_
    rintro e w' ⟨rfl, rfl⟩
    go_wp2_with fail
    refine g2.mono ?_
    rintro e w' ⟨rfl, rfl⟩
    go_wp2_with fail
    go_ret
    exact ⟨by simp, rfl⟩

theorem sBoth_any (n a b : Int) (ha0 : 0 ≤ a) (ha1 : a ≤ 18446744073709551615) (hb0 : 0 ≤ b) (hb1 : b ≤ 18446744073709551615) (w : World) :
    Calls Tryd.prog 163 #[.int .i64 n, .int .u64 a, .int .u64 b] w fun e w' => e = .returned (.bool (goodB n a && goodB n b)) ∧ w' = w := by
  have g1 := sGoodWord_any n a ha0 ha1 w
  have g2 := sGoodWord_any n b hb0 hb1 w
  clear ha0 ha1 hb0 hb1
  generalize goodB n a = x at *
  generalize goodB n b = y at *
  cases x with
  | false =>
    go_enter Tryd.func163, Tryd.ntmps163
    go_wp2_with fail
    refine g1.mono ?_
    rintro e w' ⟨rfl, rfl⟩
    go_wp2_with fail
    go_ret
    exact ⟨rfl, rfl⟩
  | true =>
    go_enter Tryd.func163, Tryd.ntmps163
    go_wp2_with fail
    refine g1.mono ?_
    rintro e w' ⟨rfl, rfl⟩
    go_wp2_with fail
    refine g2.mono ?_
    rintro e w' ⟨rfl, rfl⟩
    go_wp2_with fail
    go_ret
    exact ⟨by simp, rfl⟩

theorem iCutTo_no (n a : Int) (w : World) (hw : wideB n = false) :
    Calls Tryd.prog 29 #[.int .i64 n, .int .u64 a] w fun e w' => e = .returned (.tuple #[.int .u64 0, .bool false]) ∧ w' = w := by
  have g := goodWide_any n w
  rw [hw] at g
  go_enter Tryd.func29, Tryd.ntmps29
  go_wp2_with fail
  refine g.mono ?_
  rintro e w' ⟨rfl, rfl⟩
  go_wp2_with fail
  go_ret2
  exact ⟨rfl, rfl⟩
theorem iCutTo_yes (k : Nat) (hk1 : 1 ≤ k) (hk : k ≤ 64) (a : Int) (h0 : 0 ≤ a) (h1 : a ≤ 18446744073709551615) (w : World) (hT : Tab w) :
    Calls Tryd.prog 29 #[.int .i64 k, .int .u64 a] w fun e w' => e = .returned (.tuple #[.int .u64 (cut k a), .bool true]) ∧ w' = w := by
  have hw : wideB k = true := decide_eq_true (by omega)
  have g := goodWide_any k w
  rw [hw] at g
  have hc := hT k hk
  have hm := and_mask k hk a h0 h1
  have hp := pw_pos k
  have hl := pw_le k hk
  rw [← hm]
  clear hw hm hT
  generalize pw k = M at *
  go_enter Tryd.func29, Tryd.ntmps29
  go_wp2_with fail
  refine g.mono ?_
  rintro e w' ⟨rfl, rfl⟩
  go_wp2_with fail
  go_ret2
  exact ⟨rfl, rfl⟩
theorem iAddWord_no (n a b : Int)  (w : World) (hT : Tab w) (hg : (goodB n a && goodB n b) = false) :
    Calls Tryd.prog 156 #[.int .i64 n, .int .u64 a, .int .u64 b] w fun e w' => e = .returned (.tuple #[.int .u64 0, .bool false]) ∧ w' = w := by
  have g := iBoth_any n a b w hT
  rw [hg] at g
  clear hg
  go_enter Tryd.func156, Tryd.ntmps156
  go_wp2_with fail
  refine g.mono ?_
  rintro e w' ⟨rfl, rfl⟩
  go_wp2_with fail
  go_ret2
  exact ⟨rfl, rfl⟩

theorem iSubWord_no (n a b : Int)  (w : World) (hT : Tab w) (hg : (goodB n a && goodB n b) = false) :
    Calls Tryd.prog 157 #[.int .i64 n, .int .u64 a, .int .u64 b] w fun e w' => e = .returned (.tuple #[.int .u64 0, .bool false]) ∧ w' = w := by
  have g := iBoth_any n a b w hT
  rw [hg] at g
  clear hg
  go_enter Tryd.func157, Tryd.ntmps157
  go_wp2_with fail
  refine g.mono ?_
  rintro e w' ⟨rfl, rfl⟩
  go_wp2_with fail
  go_ret2
  exact ⟨rfl, rfl⟩

theorem iMulWord_no (n a b : Int)  (w : World) (hT : Tab w) (hg : (goodB n a && goodB n b) = false) :
    Calls Tryd.prog 158 #[.int .i64 n, .int .u64 a, .int .u64 b] w fun e w' => e = .returned (.tuple #[.int .u64 0, .bool false]) ∧ w' = w := by
  have g := iBoth_any n a b w hT
  rw [hg] at g
  clear hg
  go_enter Tryd.func158, Tryd.ntmps158
  go_wp2_with fail
  refine g.mono ?_
  rintro e w' ⟨rfl, rfl⟩
  go_wp2_with fail
  go_ret2
  exact ⟨rfl, rfl⟩

theorem iDivWord_no (n a b : Int)  (w : World) (hT : Tab w) (hg : (goodB n a && goodB n b) = false) :
    Calls Tryd.prog 159 #[.int .i64 n, .int .u64 a, .int .u64 b] w fun e w' => e = .returned (.tuple #[.int .u64 0, .int .u64 0, .bool false]) ∧ w' = w := by
  have g := iBoth_any n a b w hT
  rw [hg] at g
  clear hg
  go_enter Tryd.func159, Tryd.ntmps159
  go_wp2_with fail
  refine g.mono ?_
  rintro e w' ⟨rfl, rfl⟩
  go_wp2_with fail
  go_ret3
  exact ⟨rfl, rfl⟩

theorem sDivWord_no (n a b : Int) (ha0 : 0 ≤ a) (ha1 : a ≤ 18446744073709551615) (hb0 : 0 ≤ b) (hb1 : b ≤ 18446744073709551615) (w : World) (hg : (goodB n a && goodB n b) = false) :
    Calls Tryd.prog 148 #[.int .i64 n, .int .u64 a, .int .u64 b] w fun e w' => e = .returned (.tuple #[.int .u64 0, .int .u64 0, .bool false]) ∧ w' = w := by
  have g := sBoth_any n a b ha0 ha1 hb0 hb1 w
  rw [hg] at g
  clear hg
  go_enter Tryd.func148, Tryd.ntmps148
  go_wp2_with fail
  refine g.mono ?_
  rintro e w' ⟨rfl, rfl⟩
  go_wp2_with fail
  go_ret3
  exact ⟨rfl, rfl⟩

theorem iLessSigned_no (n a b : Int)  (w : World) (hT : Tab w) (hg : (goodB n a && goodB n b) = false) :
    Calls Tryd.prog 155 #[.int .i64 n, .int .u64 a, .int .u64 b] w fun e w' => e = .returned (.tuple #[.bool false, .bool false]) ∧ w' = w := by
  have g := iBoth_any n a b w hT
  rw [hg] at g
  clear hg
  go_enter Tryd.func155, Tryd.ntmps155
  go_wp2_with fail
  refine g.mono ?_
  rintro e w' ⟨rfl, rfl⟩
  go_wp2_with fail
  go_ret2
  exact ⟨rfl, rfl⟩

theorem iShiftWord_no (n a b : Int) (l : Bool)  (w : World) (hT : Tab w) (hg : (goodB n a && goodB n b) = false) :
    Calls Tryd.prog 160 #[.int .i64 n, .int .u64 a, .int .u64 b, .bool l] w fun e w' => e = .returned (.tuple #[.int .u64 0, .bool false]) ∧ w' = w := by
  have g := iBoth_any n a b w hT
  rw [hg] at g
  clear hg
  go_enter Tryd.func160, Tryd.ntmps160
  go_wp2_with fail
  refine g.mono ?_
  rintro e w' ⟨rfl, rfl⟩
  go_wp2_with fail
  go_ret2
  exact ⟨rfl, rfl⟩

theorem iAddWord_yes (k : Nat) (hk1 : 1 ≤ k) (hk : k ≤ 64) (a b : Int) (ha0 : 0 ≤ a) (ha1 : a ≤ 18446744073709551615) (hb0 : 0 ≤ b) (hb1 : b ≤ 18446744073709551615) (w : World) (hT : Tab w) (hg : (goodB k a && goodB k b) = true) :
    Calls Tryd.prog 156 #[.int .i64 k, .int .u64 a, .int .u64 b] w fun e w' => e = .returned (.tuple #[.int .u64 (cut k (IntKind.u64.wrap (a + b))), .bool true]) ∧ w' = w := by
  have g := iBoth_any k a b w hT
  rw [hg] at g
  clear hg
  have g2 := fun n hn0 hn1 => iCutTo_yes k hk1 hk n hn0 hn1 w hT
  clear ha0 ha1 hb0 hb1
  go_enter Tryd.func156, Tryd.ntmps156
  go_wp2_with fail
  refine g.mono ?_
  rintro e w' ⟨rfl, rfl⟩
  go_wp2_with fail
  refine (g2 _ (wrap_lo _) (wrap_hi _)).mono ?_
  rintro e w' ⟨rfl, rfl⟩
  go_wp2_with fail
  go_ret2
  exact ⟨rfl, rfl⟩

theorem iSubWord_yes (k : Nat) (hk1 : 1 ≤ k) (hk : k ≤ 64) (a b : Int) (ha0 : 0 ≤ a) (ha1 : a ≤ 18446744073709551615) (hb0 : 0 ≤ b) (hb1 : b ≤ 18446744073709551615) (w : World) (hT : Tab w) (hg : (goodB k a && goodB k b) = true) :
    Calls Tryd.prog 157 #[.int .i64 k, .int .u64 a, .int .u64 b] w fun e w' => e = .returned (.tuple #[.int .u64 (cut k (IntKind.u64.wrap (a - b))), .bool true]) ∧ w' = w := by
  have g := iBoth_any k a b w hT
  rw [hg] at g
  clear hg
  have g2 := fun n hn0 hn1 => iCutTo_yes k hk1 hk n hn0 hn1 w hT
  clear ha0 ha1 hb0 hb1
  go_enter Tryd.func157, Tryd.ntmps157
  go_wp2_with fail
  refine g.mono ?_
  rintro e w' ⟨rfl, rfl⟩
  go_wp2_with fail
  refine (g2 _ (wrap_lo _) (wrap_hi _)).mono ?_
  rintro e w' ⟨rfl, rfl⟩
  go_wp2_with fail
  go_ret2
  exact ⟨rfl, rfl⟩

theorem iMulWord_yes (k : Nat) (hk1 : 1 ≤ k) (hk : k ≤ 64) (a b : Int) (ha0 : 0 ≤ a) (ha1 : a ≤ 18446744073709551615) (hb0 : 0 ≤ b) (hb1 : b ≤ 18446744073709551615) (w : World) (hT : Tab w) (hg : (goodB k a && goodB k b) = true) :
    Calls Tryd.prog 158 #[.int .i64 k, .int .u64 a, .int .u64 b] w fun e w' => e = .returned (.tuple #[.int .u64 (cut k (IntKind.u64.wrap (a * b))), .bool true]) ∧ w' = w := by
  have g := iBoth_any k a b w hT
  rw [hg] at g
  clear hg
  have g2 := fun n hn0 hn1 => iCutTo_yes k hk1 hk n hn0 hn1 w hT
  clear ha0 ha1 hb0 hb1
  go_enter Tryd.func158, Tryd.ntmps158
  go_wp2_with fail
  refine g.mono ?_
  rintro e w' ⟨rfl, rfl⟩
  go_wp2_with fail
  refine (g2 _ (wrap_lo _) (wrap_hi _)).mono ?_
  rintro e w' ⟨rfl, rfl⟩
  go_wp2_with fail
  go_ret2
  exact ⟨rfl, rfl⟩

theorem iDivWord_zero (k : Nat) (hk1 : 1 ≤ k) (hk : k ≤ 64) (a : Int) (ha0 : 0 ≤ a) (ha1 : a ≤ 18446744073709551615) (w : World) (hT : Tab w) (hg : (goodB k a && goodB k 0) = true) :
    Calls Tryd.prog 159 #[.int .i64 k, .int .u64 a, .int .u64 0] w fun e w' => e = .returned (.tuple #[.int .u64 (pw k - 1), .int .u64 a, .bool true]) ∧ w' = w := by
  have g := iBoth_any k a 0 w hT
  rw [hg] at g
  have hc := hT k hk
  clear hg hT
  go_enter Tryd.func159, Tryd.ntmps159
  go_wp2_with fail
  refine g.mono ?_
  rintro e w' ⟨rfl, rfl⟩
  go_wp2_with fail
  go_ret3
  exact ⟨rfl, rfl⟩
theorem iDivWord_yes (k : Nat) (hk1 : 1 ≤ k) (hk : k ≤ 64) (a b : Int) (ha0 : 0 ≤ a) (ha1 : a ≤ 18446744073709551615) (hb0 : 0 ≤ b) (hb1 : b ≤ 18446744073709551615) (hz : 1 ≤ b) (w : World) (hT : Tab w) (hg : (goodB k a && goodB k b) = true) :
    Calls Tryd.prog 159 #[.int .i64 k, .int .u64 a, .int .u64 b] w fun e w' => e = .returned (.tuple #[.int .u64 (a / b), .int .u64 (a % b), .bool true]) ∧ w' = w.drew := by
  have g := iBoth_any k a b w hT
  rw [hg] at g
  clear hg hT
  go_enter Tryd.func159, Tryd.ntmps159
  go_wp2_with fail
  refine g.mono ?_
  rintro e w' ⟨rfl, rfl⟩
  go_wp2_with fail
  go_region
  all_goals (go_wp2; go_ret3; exact ⟨rfl, rfl⟩)

theorem sDivWord_zero (k : Nat) (hk1 : 1 ≤ k) (hk : k ≤ 64) (a : Int) (ha0 : 0 ≤ a) (ha1 : a ≤ 18446744073709551615) (w : World) (hg : (goodB k a && goodB k 0) = true) :
    Calls Tryd.prog 148 #[.int .i64 k, .int .u64 a, .int .u64 0] w fun e w' => e = .returned (.tuple #[.int .u64 (pw k - 1), .int .u64 a, .bool true]) ∧ w' = w := by
  have g := sBoth_any k a 0 ha0 ha1 (by omega) (by omega) w
  rw [hg] at g
  have g2 := l1Cut_any k (by omega) 18446744073709551615 (by omega) (by omega) w
  rw [cut_ones k hk] at g2
  clear hg
  go_enter Tryd.func148, Tryd.ntmps148
  go_wp2_with fail
  refine g.mono ?_
  rintro e w' ⟨rfl, rfl⟩
  go_wp2_with fail
  refine g2.mono ?_
  rintro e w' ⟨rfl, rfl⟩
  go_wp2_with fail
  go_ret3
  exact ⟨rfl, rfl⟩
theorem sDivWord_yes (k : Nat) (hk1 : 1 ≤ k) (hk : k ≤ 64) (a b : Int) (ha0 : 0 ≤ a) (ha1 : a ≤ 18446744073709551615) (hb0 : 0 ≤ b) (hb1 : b ≤ 18446744073709551615) (hz : 1 ≤ b) (w : World) (hg : (goodB k a && goodB k b) = true) :
    Calls Tryd.prog 148 #[.int .i64 k, .int .u64 a, .int .u64 b] w fun e w' => e = .returned (.tuple #[.int .u64 (a / b), .int .u64 (a % b), .bool true]) ∧ w' = w.drew := by
  have g := sBoth_any k a b ha0 ha1 (by omega) (by omega) w
  rw [hg] at g
  clear hg
  go_enter Tryd.func148, Tryd.ntmps148
  go_wp2_with fail
  refine g.mono ?_
  rintro e w' ⟨rfl, rfl⟩
  go_wp2_with fail
  go_region
  all_goals (go_wp2; go_ret3; exact ⟨rfl, rfl⟩)

theorem iFlipWord_no (n a : Int) (w : World) (hT : Tab w) (hg : goodB n a = false) :
    Calls Tryd.prog 161 #[.int .i64 n, .int .u64 a] w fun e w' => e = .returned (.tuple #[.int .u64 0, .bool false]) ∧ w' = w := by
  have g := iGoodWord_any n a w hT
  rw [hg] at g
  clear hg
  go_enter Tryd.func161, Tryd.ntmps161
  go_wp2_with fail
  refine g.mono ?_
  rintro e w' ⟨rfl, rfl⟩
  go_wp2_with fail
  go_ret2
  exact ⟨rfl, rfl⟩

theorem iFlipWord_yes (k : Nat) (hk : k ≤ 64) (a : Int) (ha0 : 0 ≤ a) (ha : a < pw k) (w : World) (hT : Tab w) (hg : goodB k a = true) :
    Calls Tryd.prog 161 #[.int .i64 k, .int .u64 a] w fun e w' => e = .returned (.tuple #[.int .u64 (pw k - 1 - a), .bool true]) ∧ w' = w := by
  have g := iGoodWord_any k a w hT
  rw [hg] at g
  have hc := hT k hk
  have hm := xor_mask k hk a ha0 ha
  have hp := pw_pos k
  have hl := pw_le k hk
  rw [← hm]
  clear hg hm hT
  generalize pw k = M at *
  go_enter Tryd.func161, Tryd.ntmps161
  go_wp2_with fail
  refine g.mono ?_
  rintro e w' ⟨rfl, rfl⟩
  go_wp2_with fail
  go_ret2
  exact ⟨rfl, rfl⟩
/-- a word as a signed number, as both texts reckon it -/
def sgn (k : Nat) (a : Int) : Int := if pw (k - 1) ≤ a then wrap64 (bits .or .u64 a (bits .xor .u64 IntKind.u64.max (pw k - 1))) else wrap64 a
theorem iSignedBits_any (k : Nat) (hk : k + 1 ≤ 64) (a : Int) (h0 : 0 ≤ a) (h1 : a ≤ 18446744073709551615) (w : World) (hT : Tab w) :
    Calls Tryd.prog 165 #[.int .i64 ((k : Int) + 1), .int .u64 a] w fun e w' => e = .returned (.int .i64 (sgn (k + 1) a)) ∧ w' = w := by
  have c0 := hT k (by omega)
  have c1 := hT (k + 1) (by omega)
  have hp := pw_pos k
  have hp1 := pw_pos (k + 1)
  have hl := pw_le k (by omega)
  have hl1 := pw_le (k + 1) (by omega)
  unfold sgn
  rw [Nat.add_sub_cancel]
  clear hT
  by_cases h : pw k ≤ a
  · rw [if_pos h]
    generalize pw k = M at *
    generalize pw (k + 1) = M1 at *
    go_enter Tryd.func165, Tryd.ntmps165
    go_wp2
    go_ret
    exact ⟨rfl, rfl⟩
  · rw [if_neg h]
    generalize pw k = M at *
    generalize pw (k + 1) = M1 at *
    go_enter Tryd.func165, Tryd.ntmps165
    go_wp2
    go_ret
    exact ⟨rfl, rfl⟩
theorem l1Signed_any (k : Nat) (hk : k + 1 ≤ 64) (a : Int) (h0 : 0 ≤ a) (h1 : a < pw (k + 1)) (w : World) :
    Calls Tryd.prog 151 #[.int .i64 ((k : Int) + 1), .int .u64 a] w fun e w' => e = .returned (.int .i64 (sgn (k + 1) a)) ∧ w' = w := by
  have g2 := l1Cut_any (k + 1) (by omega) 18446744073709551615 (by omega) (by omega) w
  rw [cut_ones (k + 1) hk] at g2
  have hl := pw_le (k + 1) hk
  unfold sgn
  rw [Nat.add_sub_cancel]
  by_cases h : pw k ≤ a
  · rw [if_pos h]
    have ht := half_hi k a h h1
    clear h
    generalize pw (k + 1) = M1 at *
    go_enter Tryd.func151, Tryd.ntmps151
    go_wp2_with fail
    refine g2.mono ?_
    rintro e w' ⟨rfl, rfl⟩
    go_wp2_with fail
    go_ret
    exact ⟨rfl, rfl⟩
  · rw [if_neg h]
    have ht := half_lo k a h0 (by omega)
    clear h g2
    generalize pw (k + 1) = M1 at *
    go_enter Tryd.func151, Tryd.ntmps151
    go_wp2_with fail
    go_ret
    exact ⟨rfl, rfl⟩

theorem iLessSigned_yes (k : Nat) (hk : k + 1 ≤ 64) (a b : Int) (ha0 : 0 ≤ a) (ha : a < pw (k + 1)) (hb0 : 0 ≤ b) (hb : b < pw (k + 1)) (w : World) (hT : Tab w) (hg : (goodB ((k : Int) + 1) a && goodB ((k : Int) + 1) b) = true) :
    Calls Tryd.prog 155 #[.int .i64 ((k : Int) + 1), .int .u64 a, .int .u64 b] w fun e w' => e = .returned (.tuple #[.bool (decide (sgn (k + 1) a < sgn (k + 1) b)), .bool true]) ∧ w' = w := by
  have g := iBoth_any ((k : Int) + 1) a b w hT
  rw [hg] at g
  have g2 := iSignedBits_any k hk a ha0 (by have := pw_le (k + 1) hk; omega) w hT
  have g3 := iSignedBits_any k hk b hb0 (by have := pw_le (k + 1) hk; omega) w hT
  clear hg ha hb
  generalize sgn (k + 1) a = s at *
  generalize sgn (k + 1) b = t at *
  go_enter Tryd.func155, Tryd.ntmps155
  go_wp2_with fail
  refine g.mono ?_
  rintro e w' ⟨rfl, rfl⟩
  go_wp2_with fail
  refine g2.mono ?_
  rintro e w' ⟨rfl, rfl⟩
  go_wp2_with fail
  refine g3.mono ?_
  rintro e w' ⟨rfl, rfl⟩
  go_wp2_with fail
  go_ret2
  exact ⟨rfl, rfl⟩

/-- a word moved by j places -/
def moved (k : Nat) (a : Int) (b : Int) (l : Bool) : Int := if k ≤ b then 0 else if l then cut k (a * pw b.toNat) else a / pw b.toNat
set_option maxHeartbeats 400000 in
theorem l1Shift_left (k : Nat) (hk : k ≤ 64) (a : Int) (j : Nat) (h0 : 0 ≤ a) (h1 : a < pw k) (hj : j < k) (w : World) :
    Calls Tryd.prog 149 #[.int .i64 k, .int .u64 a, .int .u64 j, .bool true] w fun e w' => e = .returned (.int .u64 (cut k (a * pw j))) ∧ w' = w := by
  have hd : decide (k ≤ j) = false := decide_eq_false (by omega)
  go_enter Tryd.func149, Tryd.ntmps149
  go_wp2_with fail
  go_loop [1, 2] (fun x b => ∃ i m : Nat, i + m = j ∧ b = .int .u64 m ∧ x = .int .u64 (cut k (a * pw i))) (fun _ b => (intOf b).toNat)
  case atStart => exact ⟨0, j, by omega, rfl, by rw [show pw 0 = 1 from rfl, Int.mul_one, cut_id k a h0 h1]⟩
  case round =>
    obtain ⟨i, m, him, rfl, rfl⟩ := hrel
    have g2 := fun n hn0 hn1 => l1Cut_any k (by omega) n hn0 hn1 w
    have hr := shl_round k i hk a
    have HR : Hid (cut k (IntKind.u64.wrap (cut k (a * pw i) * 2)) = cut k (a * pw (i + 1))) := hr
    clear hr
    by_cases hlt : 0 < m
    · go_wp2_with fail
      refine (g2 _ (wrap_lo _) (wrap_hi _)).mono ?_
      rintro e w' ⟨rfl, rfl⟩
      go_wp2_with fail
      go_round
      case rel => exact ⟨i + 1, m - 1, by omega, by congr 1; omega, by rw [HR.out]⟩
      case measure => simp [intOf]; omega
    · go_wp2_with fail
      go_ret
      have e : i = j := by omega
      subst e
      exact ⟨rfl, rfl⟩
set_option maxHeartbeats 400000 in
theorem l1Shift_right (k : Nat) (hk : k ≤ 64) (a : Int) (j : Nat) (h0 : 0 ≤ a) (h1 : a ≤ 18446744073709551615) (hj : j < k) (w : World) :
    Calls Tryd.prog 149 #[.int .i64 k, .int .u64 a, .int .u64 j, .bool false] w fun e w' => e = .returned (.int .u64 (a / pw j)) ∧ w' = w := by
  go_enter Tryd.func149, Tryd.ntmps149
  go_wp2_with fail
  go_loop [1, 2] (fun x b => ∃ i m : Nat, i + m = j ∧ b = .int .u64 m ∧ x = .int .u64 (a / pw i)) (fun _ b => (intOf b).toNat)
  case atStart => exact ⟨0, j, by omega, rfl, by rw [show pw 0 = 1 from rfl, Int.ediv_one]⟩
  case round =>
    obtain ⟨i, m, him, rfl, rfl⟩ := hrel
    have hr := shr_round i a
    have HR : Hid (a / pw i / 2 = a / pw (i + 1)) := hr
    have hbd := shr_bd i a h0
    clear hr
    by_cases hlt : 0 < m
    · go_wp2_with fail
      go_round
      case rel => exact ⟨i + 1, m - 1, by omega, by congr 1; omega, by rw [HR.out]⟩
      case measure => simp [intOf]; omega
    · go_wp2_with fail
      go_ret
      have e : i = j := by omega
      subst e
      exact ⟨rfl, rfl⟩
theorem l1Shift_far (k : Nat) (hk : k ≤ 64) (a b : Int) (l : Bool) (hb0 : 0 ≤ b) (hb1 : b ≤ 18446744073709551615) (hb : (k : Int) ≤ b) (w : World) :
    Calls Tryd.prog 149 #[.int .i64 k, .int .u64 a, .int .u64 b, .bool l] w fun e w' => e = .returned (.int .u64 0) ∧ w' = w := by
  go_enter Tryd.func149, Tryd.ntmps149
  go_wp2_with fail
  go_ret
  exact ⟨rfl, rfl⟩
theorem l1Shift_any (k : Nat) (hk : k ≤ 64) (a b : Int) (l : Bool) (h0 : 0 ≤ a) (h1 : a < pw k) (hb0 : 0 ≤ b) (hb1 : b ≤ 18446744073709551615) (w : World) :
    Calls Tryd.prog 149 #[.int .i64 k, .int .u64 a, .int .u64 b, .bool l] w fun e w' => e = .returned (.int .u64 (moved k a b l)) ∧ w' = w := by
  unfold moved
  by_cases hb : (k : Int) ≤ b
  · rw [if_pos hb]
    exact l1Shift_far k hk a b l hb0 hb1 hb w
  · rw [if_neg hb]
    obtain ⟨j, rfl⟩ := Int.eq_ofNat_of_zero_le hb0
    have hl := pw_le k hk
    rw [Int.toNat_natCast]
    cases l
    · exact l1Shift_right k hk a j h0 (by omega) (by omega) w
    · exact l1Shift_left k hk a j h0 h1 (by omega) w
theorem iShiftWord_yes (k : Nat) (hk1 : 1 ≤ k) (hk : k ≤ 64) (a b : Int) (l : Bool) (ha0 : 0 ≤ a) (ha : a < pw k) (hb0 : 0 ≤ b) (hb : b < pw k) (w : World) (hT : Tab w) (hg : (goodB k a && goodB k b) = true) :
    Calls Tryd.prog 160 #[.int .i64 k, .int .u64 a, .int .u64 b, .bool l] w fun e w' => e = .returned (.tuple #[.int .u64 (moved k a b l), .bool true]) ∧ w' = w := by
  have hl := pw_le k hk
  have g := iBoth_any k a b w hT
  rw [hg] at g
  have hb1 : b ≤ 18446744073709551615 := by omega
  have ha1 : a ≤ 18446744073709551615 := by omega
  clear hg ha hb hl
  unfold moved
  by_cases hb : (k : Int) ≤ b
  · rw [if_pos hb]
    go_enter Tryd.func160, Tryd.ntmps160
    go_wp2_with fail
    refine g.mono ?_
    rintro e w' ⟨rfl, rfl⟩
    go_wp2_with fail
    go_ret2
    exact ⟨rfl, rfl⟩
  · rw [if_neg hb]
    obtain ⟨j, rfl⟩ := Int.eq_ofNat_of_zero_le hb0
    rw [Int.toNat_natCast]
    have hjk : (j : Int) < k := by omega
    clear hb
    cases l
    · rw [← pw_int]
      go_enter Tryd.func160, Tryd.ntmps160
      go_wp2_with fail
      refine g.mono ?_
      rintro e w' ⟨rfl, rfl⟩
      go_wp2_with fail
      go_ret2
      exact ⟨rfl, rfl⟩
    · rw [← shl_whole k j hk a]
      have g2 := fun n hn0 hn1 => iCutTo_yes k hk1 hk n hn0 hn1 w hT
      go_enter Tryd.func160, Tryd.ntmps160
      go_wp2_with fail
      refine g.mono ?_
      rintro e w' ⟨rfl, rfl⟩
      go_wp2_with fail
      refine (g2 _ (wrap_lo _) (wrap_hi _)).mono ?_
      rintro e w' ⟨rfl, rfl⟩
      go_wp2_with fail
      go_ret2
      exact ⟨rfl, rfl⟩
end Go.Proofs.YtmhpnkfibecnmaaDoor
