/-
  What an op makes of its parts' values: the program's numberOf, holdsOf and bitOf.
-/
import Derived.Test.YtjbfembblgkakaaDoorVal2
namespace Go.Proofs.YtjbfembblgkakaaDoor
open Go Go.RowKit
open M
set_option linter.unusedVariables false

theorem iDivWord_any (k : Nat) (hk1 : 1 ≤ k) (hk : k ≤ 64) (a b : Int) (ha0 : 0 ≤ a) (ha : a < pw k) (hb0 : 0 ≤ b) (hb : b < pw k) (w : World) (hT : Tab w) :
    Calls Tryd.prog 169 #[.int .i64 k, .int .u64 a, .int .u64 b] w fun e w' => e = .returned (.tuple #[.int .u64 (quotOf k a b), .int .u64 (remOf a b), .bool true]) ∧ (w' = w ∨ w' = w.drew) := by
  have hl := pw_le k hk
  have hg : (goodB k a && goodB k b) = true := by rw [good_of k hk1 hk a ha, good_of k hk1 hk b hb]; rfl
  unfold quotOf remOf
  by_cases h : b = 0
  · rw [if_pos h, if_pos h]
    subst h
    refine (iDivWord_zero k hk1 hk a ha0 (by omega) w hT hg).mono ?_
    rintro e w' ⟨he, hw⟩
    exact ⟨he, Or.inl hw⟩
  · rw [if_neg h, if_neg h]
    refine (iDivWord_yes k hk1 hk a b ha0 (by omega) hb0 (by omega) (by omega) w hT hg).mono ?_
    rintro e w' ⟨he, hw⟩
    exact ⟨he, Or.inr hw⟩
set_option maxHeartbeats 1000000 in
theorem numberOf_3 (k : Nat) (hk1 : 1 ≤ k) (hk : k ≤ 64) (a b : Int) (ha0 : 0 ≤ a) (ha : a < pw k) (hb0 : 0 ≤ b) (hb : b < pw k) (w : World) (hT : Tab w) :
    Calls Tryd.prog 142 #[.int .i64 k, .int .i64 3, .int .u64 a, .int .u64 b] w fun e w' => e = .returned (.int .u64 (doOp k 3 a b)) ∧ (w' = w ∨ w' = w.drew) := by
  have hl := pw_le k hk
  have hg : (goodB k a && goodB k b) = true := by rw [good_of k hk1 hk a ha, good_of k hk1 hk b hb]; rfl
  have e0 : doOp k 3 a b = cut k (IntKind.u64.wrap (a + b)) := rfl
  rw [e0]
  have g := iAddWord_yes k hk1 hk a b ha0 (by omega) hb0 (by omega) w hT hg
  clear e0 ha0 ha hb0 hb hl hg hT
  generalize cut k (IntKind.u64.wrap (a + b)) = Z at *
  go_enter Tryd.func142, Tryd.ntmps142
  go_wp2_with fail
  refine g.mono ?_
  rintro e w1 ⟨rfl, hw⟩
  clear g
  go_wp2_with fail
  go_ret
  exact ⟨rfl, Or.inl rfl⟩
set_option maxHeartbeats 1000000 in
theorem numberOf_4 (k : Nat) (hk1 : 1 ≤ k) (hk : k ≤ 64) (a b : Int) (ha0 : 0 ≤ a) (ha : a < pw k) (hb0 : 0 ≤ b) (hb : b < pw k) (w : World) (hT : Tab w) :
    Calls Tryd.prog 142 #[.int .i64 k, .int .i64 4, .int .u64 a, .int .u64 b] w fun e w' => e = .returned (.int .u64 (doOp k 4 a b)) ∧ (w' = w ∨ w' = w.drew) := by
  have hl := pw_le k hk
  have hg : (goodB k a && goodB k b) = true := by rw [good_of k hk1 hk a ha, good_of k hk1 hk b hb]; rfl
  have e0 : doOp k 4 a b = cut k (IntKind.u64.wrap (a - b)) := rfl
  rw [e0]
  have g := iSubWord_yes k hk1 hk a b ha0 (by omega) hb0 (by omega) w hT hg
  clear e0 ha0 ha hb0 hb hl hg hT
  generalize cut k (IntKind.u64.wrap (a - b)) = Z at *
  go_enter Tryd.func142, Tryd.ntmps142
  go_wp2_with fail
  refine g.mono ?_
  rintro e w1 ⟨rfl, hw⟩
  clear g
  go_wp2_with fail
  go_ret
  exact ⟨rfl, Or.inl rfl⟩
set_option maxHeartbeats 1000000 in
theorem numberOf_5 (k : Nat) (hk1 : 1 ≤ k) (hk : k ≤ 64) (a b : Int) (ha0 : 0 ≤ a) (ha : a < pw k) (hb0 : 0 ≤ b) (hb : b < pw k) (w : World) (hT : Tab w) :
    Calls Tryd.prog 142 #[.int .i64 k, .int .i64 5, .int .u64 a, .int .u64 b] w fun e w' => e = .returned (.int .u64 (doOp k 5 a b)) ∧ (w' = w ∨ w' = w.drew) := by
  have hl := pw_le k hk
  have hg : (goodB k a && goodB k b) = true := by rw [good_of k hk1 hk a ha, good_of k hk1 hk b hb]; rfl
  have e0 : doOp k 5 a b = cut k (IntKind.u64.wrap (a * b)) := rfl
  rw [e0]
  have g := iMulWord_yes k hk1 hk a b ha0 (by omega) hb0 (by omega) w hT hg
  clear e0 ha0 ha hb0 hb hl hg hT
  generalize cut k (IntKind.u64.wrap (a * b)) = Z at *
  go_enter Tryd.func142, Tryd.ntmps142
  go_wp2_with fail
  refine g.mono ?_
  rintro e w1 ⟨rfl, hw⟩
  clear g
  go_wp2_with fail
  go_ret
  exact ⟨rfl, Or.inl rfl⟩
set_option maxHeartbeats 1000000 in
theorem numberOf_6 (k : Nat) (hk1 : 1 ≤ k) (hk : k ≤ 64) (a b : Int) (ha0 : 0 ≤ a) (ha : a < pw k) (hb0 : 0 ≤ b) (hb : b < pw k) (w : World) (hT : Tab w) :
    Calls Tryd.prog 142 #[.int .i64 k, .int .i64 6, .int .u64 a, .int .u64 b] w fun e w' => e = .returned (.int .u64 (doOp k 6 a b)) ∧ (w' = w ∨ w' = w.drew) := by
  have hl := pw_le k hk
  have hg : (goodB k a && goodB k b) = true := by rw [good_of k hk1 hk a ha, good_of k hk1 hk b hb]; rfl
  have e0 : doOp k 6 a b = quotOf k a b := rfl
  rw [e0]
  have g := iDivWord_any k hk1 hk a b ha0 ha hb0 hb w hT
  clear e0 ha0 ha hb0 hb hl hg hT
  generalize quotOf k a b = Q at *
  generalize remOf a b = R at *
  go_enter Tryd.func142, Tryd.ntmps142
  go_wp2_with fail
  refine g.mono ?_
  rintro e w1 ⟨rfl, hw⟩
  clear g
  go_wp2_with fail
  go_ret
  exact ⟨rfl, hw⟩
set_option maxHeartbeats 1000000 in
theorem numberOf_7 (k : Nat) (hk1 : 1 ≤ k) (hk : k ≤ 64) (a b : Int) (ha0 : 0 ≤ a) (ha : a < pw k) (hb0 : 0 ≤ b) (hb : b < pw k) (w : World) (hT : Tab w) :
    Calls Tryd.prog 142 #[.int .i64 k, .int .i64 7, .int .u64 a, .int .u64 b] w fun e w' => e = .returned (.int .u64 (doOp k 7 a b)) ∧ (w' = w ∨ w' = w.drew) := by
  have hl := pw_le k hk
  have hg : (goodB k a && goodB k b) = true := by rw [good_of k hk1 hk a ha, good_of k hk1 hk b hb]; rfl
  have e0 : doOp k 7 a b = remOf a b := rfl
  rw [e0]
  have g := iDivWord_any k hk1 hk a b ha0 ha hb0 hb w hT
  clear e0 ha0 ha hb0 hb hl hg hT
  generalize quotOf k a b = Q at *
  generalize remOf a b = R at *
  go_enter Tryd.func142, Tryd.ntmps142
  go_wp2_with fail
  refine g.mono ?_
  rintro e w1 ⟨rfl, hw⟩
  clear g
  go_wp2_with fail
  go_ret
  exact ⟨rfl, hw⟩
set_option maxHeartbeats 1000000 in
theorem numberOf_8 (k : Nat) (hk1 : 1 ≤ k) (hk : k ≤ 64) (a b : Int) (ha0 : 0 ≤ a) (ha : a < pw k) (hb0 : 0 ≤ b) (hb : b < pw k) (w : World) (hT : Tab w) :
    Calls Tryd.prog 142 #[.int .i64 k, .int .i64 8, .int .u64 a, .int .u64 b] w fun e w' => e = .returned (.int .u64 (doOp k 8 a b)) ∧ (w' = w ∨ w' = w.drew) := by
  have hl := pw_le k hk
  have hg : (goodB k a && goodB k b) = true := by rw [good_of k hk1 hk a ha, good_of k hk1 hk b hb]; rfl
  have e0 : doOp k 8 a b = bits .and .u64 a b := rfl
  rw [e0]
  clear e0 ha0 ha hb0 hb hl hg hT
  go_enter Tryd.func142, Tryd.ntmps142
  go_wp2_with fail
  go_ret
  exact ⟨rfl, Or.inl rfl⟩
set_option maxHeartbeats 1000000 in
theorem numberOf_9 (k : Nat) (hk1 : 1 ≤ k) (hk : k ≤ 64) (a b : Int) (ha0 : 0 ≤ a) (ha : a < pw k) (hb0 : 0 ≤ b) (hb : b < pw k) (w : World) (hT : Tab w) :
    Calls Tryd.prog 142 #[.int .i64 k, .int .i64 9, .int .u64 a, .int .u64 b] w fun e w' => e = .returned (.int .u64 (doOp k 9 a b)) ∧ (w' = w ∨ w' = w.drew) := by
  have hl := pw_le k hk
  have hg : (goodB k a && goodB k b) = true := by rw [good_of k hk1 hk a ha, good_of k hk1 hk b hb]; rfl
  have e0 : doOp k 9 a b = bits .or .u64 a b := rfl
  rw [e0]
  clear e0 ha0 ha hb0 hb hl hg hT
  go_enter Tryd.func142, Tryd.ntmps142
  go_wp2_with fail
  go_ret
  exact ⟨rfl, Or.inl rfl⟩
set_option maxHeartbeats 1000000 in
theorem numberOf_10 (k : Nat) (hk1 : 1 ≤ k) (hk : k ≤ 64) (a b : Int) (ha0 : 0 ≤ a) (ha : a < pw k) (hb0 : 0 ≤ b) (hb : b < pw k) (w : World) (hT : Tab w) :
    Calls Tryd.prog 142 #[.int .i64 k, .int .i64 10, .int .u64 a, .int .u64 b] w fun e w' => e = .returned (.int .u64 (doOp k 10 a b)) ∧ (w' = w ∨ w' = w.drew) := by
  have hl := pw_le k hk
  have hg : (goodB k a && goodB k b) = true := by rw [good_of k hk1 hk a ha, good_of k hk1 hk b hb]; rfl
  have e0 : doOp k 10 a b = bits .xor .u64 a b := rfl
  rw [e0]
  clear e0 ha0 ha hb0 hb hl hg hT
  go_enter Tryd.func142, Tryd.ntmps142
  go_wp2_with fail
  go_ret
  exact ⟨rfl, Or.inl rfl⟩
set_option maxHeartbeats 1000000 in
theorem numberOf_11 (k : Nat) (hk1 : 1 ≤ k) (hk : k ≤ 64) (a b : Int) (ha0 : 0 ≤ a) (ha : a < pw k) (hb0 : 0 ≤ b) (hb : b < pw k) (w : World) (hT : Tab w) :
    Calls Tryd.prog 142 #[.int .i64 k, .int .i64 11, .int .u64 a, .int .u64 b] w fun e w' => e = .returned (.int .u64 (doOp k 11 a b)) ∧ (w' = w ∨ w' = w.drew) := by
  have hl := pw_le k hk
  have hg : (goodB k a && goodB k b) = true := by rw [good_of k hk1 hk a ha, good_of k hk1 hk b hb]; rfl
  have e0 : doOp k 11 a b = moved k a b true := rfl
  rw [e0]
  have g := iShiftWord_yes k hk1 hk a b true ha0 ha hb0 hb w hT hg
  clear e0 ha0 ha hb0 hb hl hg hT
  generalize moved k a b true = Z at *
  go_enter Tryd.func142, Tryd.ntmps142
  go_wp2_with fail
  refine g.mono ?_
  rintro e w1 ⟨rfl, hw⟩
  clear g
  go_wp2_with fail
  go_ret
  exact ⟨rfl, Or.inl rfl⟩
set_option maxHeartbeats 1000000 in
theorem numberOf_12 (k : Nat) (hk1 : 1 ≤ k) (hk : k ≤ 64) (a b : Int) (ha0 : 0 ≤ a) (ha : a < pw k) (hb0 : 0 ≤ b) (hb : b < pw k) (w : World) (hT : Tab w) :
    Calls Tryd.prog 142 #[.int .i64 k, .int .i64 12, .int .u64 a, .int .u64 b] w fun e w' => e = .returned (.int .u64 (doOp k 12 a b)) ∧ (w' = w ∨ w' = w.drew) := by
  have hl := pw_le k hk
  have hg : (goodB k a && goodB k b) = true := by rw [good_of k hk1 hk a ha, good_of k hk1 hk b hb]; rfl
  have e0 : doOp k 12 a b = moved k a b false := rfl
  rw [e0]
  have g := iShiftWord_yes k hk1 hk a b false ha0 ha hb0 hb w hT hg
  clear e0 ha0 ha hb0 hb hl hg hT
  generalize moved k a b false = Z at *
  go_enter Tryd.func142, Tryd.ntmps142
  go_wp2_with fail
  refine g.mono ?_
  rintro e w1 ⟨rfl, hw⟩
  clear g
  go_wp2_with fail
  go_ret
  exact ⟨rfl, Or.inl rfl⟩
set_option maxHeartbeats 1000000 in
theorem numberOf_flip (k : Nat) (hk1 : 1 ≤ k) (hk : k ≤ 64) (a b : Int) (ha0 : 0 ≤ a) (ha : a < pw k) (w : World) (hT : Tab w) :
    Calls Tryd.prog 142 #[.int .i64 k, .int .i64 13, .int .u64 a, .int .u64 b] w fun e w' => e = .returned (.int .u64 (pw k - 1 - a)) ∧ (w' = w ∨ w' = w.drew) := by
  have g := iFlipWord_yes k hk a ha0 ha w hT (good_of k hk1 hk a ha)
  generalize pw k - 1 - a = Z at *
  clear ha0 ha hT
  go_enter Tryd.func142, Tryd.ntmps142
  go_wp2_with fail
  refine g.mono ?_
  rintro e w1 ⟨rfl, hw⟩
  clear g
  go_wp2_with fail
  go_ret
  exact ⟨rfl, Or.inl rfl⟩
theorem numberOf_any (op : Int) (hop : 3 ≤ op ∧ op ≤ 12) (k : Nat) (hk1 : 1 ≤ k) (hk : k ≤ 64) (a b : Int) (ha0 : 0 ≤ a) (ha : a < pw k) (hb0 : 0 ≤ b) (hb : b < pw k) (w : World) (hT : Tab w) :
    Calls Tryd.prog 142 #[.int .i64 k, .int .i64 op, .int .u64 a, .int .u64 b] w fun e w' => e = .returned (.int .u64 (doOp k op a b)) ∧ (w' = w ∨ w' = w.drew) := by
  rcases (show op = 3 ∨ op = 4 ∨ op = 5 ∨ op = 6 ∨ op = 7 ∨ op = 8 ∨ op = 9 ∨ op = 10 ∨ op = 11 ∨ op = 12 by omega) with rfl | rfl | rfl | rfl | rfl | rfl | rfl | rfl | rfl | rfl
  · exact numberOf_3 k hk1 hk a b ha0 ha hb0 hb w hT
  · exact numberOf_4 k hk1 hk a b ha0 ha hb0 hb w hT
  · exact numberOf_5 k hk1 hk a b ha0 ha hb0 hb w hT
  · exact numberOf_6 k hk1 hk a b ha0 ha hb0 hb w hT
  · exact numberOf_7 k hk1 hk a b ha0 ha hb0 hb w hT
  · exact numberOf_8 k hk1 hk a b ha0 ha hb0 hb w hT
  · exact numberOf_9 k hk1 hk a b ha0 ha hb0 hb w hT
  · exact numberOf_10 k hk1 hk a b ha0 ha hb0 hb w hT
  · exact numberOf_11 k hk1 hk a b ha0 ha hb0 hb w hT
  · exact numberOf_12 k hk1 hk a b ha0 ha hb0 hb w hT
theorem bitOf_any (p : Bool) (w : World) : Calls Tryd.prog 140 #[.bool p] w fun e w' => e = .returned (.int .u64 (if p = true then 1 else 0)) ∧ w' = w := by
  cases p
  · go_enter Tryd.func140, Tryd.ntmps140
    go_wp2
    go_ret
    exact ⟨rfl, rfl⟩
  · go_enter Tryd.func140, Tryd.ntmps140
    go_wp2
    go_ret
    exact ⟨rfl, rfl⟩
theorem holdsOf_14 (k : Nat) (hk1 : 1 ≤ k) (hk : k ≤ 64) (a b : Int) (ha0 : 0 ≤ a) (ha : a < pw k) (hb0 : 0 ≤ b) (hb : b < pw k) (w : World) (hT : Tab w) :
    Calls Tryd.prog 141 #[.int .i64 k, .int .i64 14, .int .u64 a, .int .u64 b] w fun e w' => ∃ p : Bool, e = .returned (.bool p) ∧ (if p = true then 1 else 0) = doOp k 14 a b ∧ w' = w := by
  have HE : Hid ((if (a == b) = true then (1 : Int) else 0) = doOp k 14 a b) := by
    show _ = (if _ then (1 : Int) else 0)
    simp
  clear ha0 ha hb0 hb hT
  go_enter Tryd.func141, Tryd.ntmps141
  go_wp2_with fail
  go_ret
  exact ⟨_, rfl, HE.out, rfl⟩
theorem holdsOf_15 (k : Nat) (hk1 : 1 ≤ k) (hk : k ≤ 64) (a b : Int) (ha0 : 0 ≤ a) (ha : a < pw k) (hb0 : 0 ≤ b) (hb : b < pw k) (w : World) (hT : Tab w) :
    Calls Tryd.prog 141 #[.int .i64 k, .int .i64 15, .int .u64 a, .int .u64 b] w fun e w' => ∃ p : Bool, e = .returned (.bool p) ∧ (if p = true then 1 else 0) = doOp k 15 a b ∧ w' = w := by
  have HE : Hid ((if (decide (a < b)) = true then (1 : Int) else 0) = doOp k 15 a b) := by
    show _ = (if _ then (1 : Int) else 0)
    simp
  clear ha0 ha hb0 hb hT
  go_enter Tryd.func141, Tryd.ntmps141
  go_wp2_with fail
  go_ret
  exact ⟨_, rfl, HE.out, rfl⟩
set_option maxHeartbeats 1000000 in
theorem holdsOf_16 (k : Nat) (hk1 : 1 ≤ k) (hk : k ≤ 64) (a b : Int) (ha0 : 0 ≤ a) (ha : a < pw k) (hb0 : 0 ≤ b) (hb : b < pw k) (w : World) (hT : Tab w) :
    Calls Tryd.prog 141 #[.int .i64 k, .int .i64 16, .int .u64 a, .int .u64 b] w fun e w' => ∃ p : Bool, e = .returned (.bool p) ∧ (if p = true then 1 else 0) = doOp k 16 a b ∧ w' = w := by
  obtain ⟨j, rfl⟩ : ∃ j, k = j + 1 := ⟨k - 1, by omega⟩
  have hg : (goodB ((j : Int) + 1) a && goodB ((j : Int) + 1) b) = true := by
    have h1 := good_of (j + 1) hk1 hk a ha
    have h2 := good_of (j + 1) hk1 hk b hb
    rw [show ((j + 1 : Nat) : Int) = (j : Int) + 1 from by omega] at h1 h2
    rw [h1, h2]
    rfl
  have g := iLessSigned_yes j hk a b ha0 ha hb0 hb w hT hg
  rw [show (j : Int) + 1 = ((j + 1 : Nat) : Int) from by omega] at g
  have HE : Hid ((if (decide (sgn (j + 1) a < sgn (j + 1) b)) = true then (1 : Int) else 0) = doOp (j + 1) 16 a b) := by
    show _ = (if sgn (j + 1) a < sgn (j + 1) b then (1 : Int) else 0)
    simp
  generalize decide (sgn (j + 1) a < sgn (j + 1) b) = Z at *
  generalize doOp (j + 1) 16 a b = Y at *
  generalize j + 1 = k at *
  clear ha0 ha hb0 hb hT hg
  go_enter Tryd.func141, Tryd.ntmps141
  go_wp2_with fail
  refine g.mono ?_
  rintro e w1 ⟨rfl, rfl⟩
  clear g
  go_wp2_with fail
  go_ret
  exact ⟨_, rfl, HE.out, rfl⟩
theorem holdsOf_17 (k : Nat) (a b : Int) (ha : a = 0 ∨ a = 1) (hb : b = 0 ∨ b = 1) (w : World) :
    Calls Tryd.prog 141 #[.int .i64 k, .int .i64 17, .int .u64 a, .int .u64 b] w fun e w' => ∃ p : Bool, e = .returned (.bool p) ∧ (if p = true then 1 else 0) = doOp k 17 a b ∧ w' = w := by
  rcases ha with rfl | rfl <;> rcases hb with rfl | rfl
  all_goals
    go_enter Tryd.func141, Tryd.ntmps141
    go_wp2_with fail
    go_ret
    exact ⟨_, rfl, rfl, rfl⟩
theorem holdsOf_18 (k : Nat) (a b : Int) (ha : a = 0 ∨ a = 1) (hb : b = 0 ∨ b = 1) (w : World) :
    Calls Tryd.prog 141 #[.int .i64 k, .int .i64 18, .int .u64 a, .int .u64 b] w fun e w' => ∃ p : Bool, e = .returned (.bool p) ∧ (if p = true then 1 else 0) = doOp k 18 a b ∧ w' = w := by
  rcases ha with rfl | rfl <;> rcases hb with rfl | rfl
  all_goals
    go_enter Tryd.func141, Tryd.ntmps141
    go_wp2_with fail
    go_ret
    exact ⟨_, rfl, rfl, rfl⟩
theorem holdsOf_no (k : Nat) (a b : Int) (ha : a = 0 ∨ a = 1) (w : World) :
    Calls Tryd.prog 141 #[.int .i64 k, .int .i64 19, .int .u64 a, .int .u64 b] w fun e w' => ∃ p : Bool, e = .returned (.bool p) ∧ (if p = true then 1 else 0) = 1 - a ∧ w' = w := by
  rcases ha with rfl | rfl
  all_goals
    go_enter Tryd.func141, Tryd.ntmps141
    go_wp2_with fail
    go_ret
    exact ⟨_, rfl, rfl, rfl⟩
end Go.Proofs.YtjbfembblgkakaaDoor
