/-
  What an op makes of its parts: the model's l2Do and l2Bool.
-/
import Derived.Test.YtmhpnkfibecnmaaDoorFrom
namespace Go.Proofs.YtmhpnkfibecnmaaDoor
open Go Go.RowKit
open M
set_option linter.unusedVariables false

def quotOf (k : Nat) (a b : Int) : Int := if b = 0 then pw k - 1 else a / b
def remOf (a b : Int) : Int := if b = 0 then a else a % b
/-- what an op of two parts comes to -/
def doOp (k : Nat) (op a b : Int) : Int :=
  if op = 3 then cut k (IntKind.u64.wrap (a + b)) else if op = 4 then cut k (IntKind.u64.wrap (a - b)) else if op = 5 then cut k (IntKind.u64.wrap (a * b))
  else if op = 6 then quotOf k a b else if op = 7 then remOf a b else if op = 8 ∨ op = 17 then bits .and .u64 a b else if op = 9 ∨ op = 18 then bits .or .u64 a b
  else if op = 10 then bits .xor .u64 a b else if op = 11 then moved k a b true else if op = 12 then moved k a b false
  else if op = 14 then (if a = b then 1 else 0) else if op = 15 then (if a < b then 1 else 0) else if op = 16 then (if sgn k a < sgn k b then 1 else 0) else 0
theorem l2Bool_yes (w : World) : Calls Tryd.prog 150 #[.bool true] w fun e w' => e = .returned (.int .u64 1) ∧ w' = w := by
  go_enter Tryd.func150, Tryd.ntmps150
  go_wp2
  go_ret
  exact ⟨rfl, rfl⟩
theorem l2Bool_no (w : World) : Calls Tryd.prog 150 #[.bool false] w fun e w' => e = .returned (.int .u64 0) ∧ w' = w := by
  go_enter Tryd.func150, Tryd.ntmps150
  go_wp2
  go_ret
  exact ⟨rfl, rfl⟩
theorem l2Bool_any (p : Bool) (w : World) : Calls Tryd.prog 150 #[.bool p] w fun e w' => e = .returned (.int .u64 (if p = true then 1 else 0)) ∧ w' = w := by
  cases p
  · exact l2Bool_no w
  · exact l2Bool_yes w
theorem sDivWord_any (k : Nat) (hk1 : 1 ≤ k) (hk : k ≤ 64) (a b : Int) (ha0 : 0 ≤ a) (ha : a < pw k) (hb0 : 0 ≤ b) (hb : b < pw k) (w : World) :
    Calls Tryd.prog 148 #[.int .i64 k, .int .u64 a, .int .u64 b] w fun e w' => e = .returned (.tuple #[.int .u64 (quotOf k a b), .int .u64 (remOf a b), .bool true]) ∧ (w' = w ∨ w' = w.drew) := by
  have hl := pw_le k hk
  have hg : (goodB k a && goodB k b) = true := by rw [good_of k hk1 hk a ha, good_of k hk1 hk b hb]; rfl
  unfold quotOf remOf
  by_cases h : b = 0
  · rw [if_pos h, if_pos h]
    subst h
    refine (sDivWord_zero k hk1 hk a ha0 (by omega) w hg).mono ?_
    rintro e w' ⟨he, hw⟩
    exact ⟨he, Or.inl hw⟩
  · rw [if_neg h, if_neg h]
    refine (sDivWord_yes k hk1 hk a b ha0 (by omega) hb0 (by omega) (by omega) w hg).mono ?_
    rintro e w' ⟨he, hw⟩
    exact ⟨he, Or.inr hw⟩
set_option maxHeartbeats 1000000 in
theorem l2Do_3 (k : Nat) (hk1 : 1 ≤ k) (hk : k ≤ 64) (a b : Int) (ha0 : 0 ≤ a) (ha : a < pw k) (hb0 : 0 ≤ b) (hb : b < pw k) (w : World) :
    Calls Tryd.prog 133 #[.int .i64 k, .int .i64 3, .int .u64 a, .int .u64 b] w fun e w' => e = .returned (.int .u64 (doOp k 3 a b)) ∧ (w' = w ∨ w' = w.drew) := by
  have hl := pw_le k hk
  have g := sDivWord_any k hk1 hk a b ha0 ha hb0 hb w
  have e0 : doOp k 3 a b = cut k (IntKind.u64.wrap (a + b)) := rfl
  rw [e0]
  have GC : Hid (∀ (n : Int) (w1 : World), 0 ≤ n → n ≤ 18446744073709551615 → Calls Tryd.prog 132 #[.int .i64 k, .int .u64 n] w1 fun e w' => e = .returned (.int .u64 (cut k n)) ∧ w' = w1) := fun n w1 h0 h1 => l1Cut_any k (by omega) n h0 h1 w1
  clear e0 ha0 ha hb0 hb hl
  generalize quotOf k a b = Q at *
  generalize remOf a b = R at *
  go_enter Tryd.func133, Tryd.ntmps133
  go_wp2_with fail
  refine g.mono ?_
  rintro e w1 ⟨rfl, hw⟩
  clear g
  go_wp2_with fail
  refine (GC.out _ _ (wrap_lo _) (wrap_hi _)).mono ?_
  rintro e w2 ⟨rfl, rfl⟩
  go_wp2_with fail
  go_ret
  exact ⟨rfl, hw⟩
set_option maxHeartbeats 1000000 in
theorem l2Do_4 (k : Nat) (hk1 : 1 ≤ k) (hk : k ≤ 64) (a b : Int) (ha0 : 0 ≤ a) (ha : a < pw k) (hb0 : 0 ≤ b) (hb : b < pw k) (w : World) :
    Calls Tryd.prog 133 #[.int .i64 k, .int .i64 4, .int .u64 a, .int .u64 b] w fun e w' => e = .returned (.int .u64 (doOp k 4 a b)) ∧ (w' = w ∨ w' = w.drew) := by
  have hl := pw_le k hk
  have g := sDivWord_any k hk1 hk a b ha0 ha hb0 hb w
  have e0 : doOp k 4 a b = cut k (IntKind.u64.wrap (a - b)) := rfl
  rw [e0]
  have GC : Hid (∀ (n : Int) (w1 : World), 0 ≤ n → n ≤ 18446744073709551615 → Calls Tryd.prog 132 #[.int .i64 k, .int .u64 n] w1 fun e w' => e = .returned (.int .u64 (cut k n)) ∧ w' = w1) := fun n w1 h0 h1 => l1Cut_any k (by omega) n h0 h1 w1
  clear e0 ha0 ha hb0 hb hl
  generalize quotOf k a b = Q at *
  generalize remOf a b = R at *
  go_enter Tryd.func133, Tryd.ntmps133
  go_wp2_with fail
  refine g.mono ?_
  rintro e w1 ⟨rfl, hw⟩
  clear g
  go_wp2_with fail
  refine (GC.out _ _ (wrap_lo _) (wrap_hi _)).mono ?_
  rintro e w2 ⟨rfl, rfl⟩
  go_wp2_with fail
  go_ret
  exact ⟨rfl, hw⟩
set_option maxHeartbeats 1000000 in
theorem l2Do_5 (k : Nat) (hk1 : 1 ≤ k) (hk : k ≤ 64) (a b : Int) (ha0 : 0 ≤ a) (ha : a < pw k) (hb0 : 0 ≤ b) (hb : b < pw k) (w : World) :
    Calls Tryd.prog 133 #[.int .i64 k, .int .i64 5, .int .u64 a, .int .u64 b] w fun e w' => e = .returned (.int .u64 (doOp k 5 a b)) ∧ (w' = w ∨ w' = w.drew) := by
  have hl := pw_le k hk
  have g := sDivWord_any k hk1 hk a b ha0 ha hb0 hb w
  have e0 : doOp k 5 a b = cut k (IntKind.u64.wrap (a * b)) := rfl
  rw [e0]
  have GC : Hid (∀ (n : Int) (w1 : World), 0 ≤ n → n ≤ 18446744073709551615 → Calls Tryd.prog 132 #[.int .i64 k, .int .u64 n] w1 fun e w' => e = .returned (.int .u64 (cut k n)) ∧ w' = w1) := fun n w1 h0 h1 => l1Cut_any k (by omega) n h0 h1 w1
  clear e0 ha0 ha hb0 hb hl
  generalize quotOf k a b = Q at *
  generalize remOf a b = R at *
  go_enter Tryd.func133, Tryd.ntmps133
  go_wp2_with fail
  refine g.mono ?_
  rintro e w1 ⟨rfl, hw⟩
  clear g
  go_wp2_with fail
  refine (GC.out _ _ (wrap_lo _) (wrap_hi _)).mono ?_
  rintro e w2 ⟨rfl, rfl⟩
  go_wp2_with fail
  go_ret
  exact ⟨rfl, hw⟩
set_option maxHeartbeats 1000000 in
theorem l2Do_6 (k : Nat) (hk1 : 1 ≤ k) (hk : k ≤ 64) (a b : Int) (ha0 : 0 ≤ a) (ha : a < pw k) (hb0 : 0 ≤ b) (hb : b < pw k) (w : World) :
    Calls Tryd.prog 133 #[.int .i64 k, .int .i64 6, .int .u64 a, .int .u64 b] w fun e w' => e = .returned (.int .u64 (doOp k 6 a b)) ∧ (w' = w ∨ w' = w.drew) := by
  have hl := pw_le k hk
  have g := sDivWord_any k hk1 hk a b ha0 ha hb0 hb w
  have e0 : doOp k 6 a b = quotOf k a b := rfl
  rw [e0]
  clear e0 ha0 ha hb0 hb hl
  generalize quotOf k a b = Q at *
  generalize remOf a b = R at *
  go_enter Tryd.func133, Tryd.ntmps133
  go_wp2_with fail
  refine g.mono ?_
  rintro e w1 ⟨rfl, hw⟩
  clear g
  go_wp2_with fail
  go_ret
  exact ⟨rfl, hw⟩
set_option maxHeartbeats 1000000 in
theorem l2Do_7 (k : Nat) (hk1 : 1 ≤ k) (hk : k ≤ 64) (a b : Int) (ha0 : 0 ≤ a) (ha : a < pw k) (hb0 : 0 ≤ b) (hb : b < pw k) (w : World) :
    Calls Tryd.prog 133 #[.int .i64 k, .int .i64 7, .int .u64 a, .int .u64 b] w fun e w' => e = .returned (.int .u64 (doOp k 7 a b)) ∧ (w' = w ∨ w' = w.drew) := by
  have hl := pw_le k hk
  have g := sDivWord_any k hk1 hk a b ha0 ha hb0 hb w
  have e0 : doOp k 7 a b = remOf a b := rfl
  rw [e0]
  clear e0 ha0 ha hb0 hb hl
  generalize quotOf k a b = Q at *
  generalize remOf a b = R at *
  go_enter Tryd.func133, Tryd.ntmps133
  go_wp2_with fail
  refine g.mono ?_
  rintro e w1 ⟨rfl, hw⟩
  clear g
  go_wp2_with fail
  go_ret
  exact ⟨rfl, hw⟩
set_option maxHeartbeats 1000000 in
theorem l2Do_8 (k : Nat) (hk1 : 1 ≤ k) (hk : k ≤ 64) (a b : Int) (ha0 : 0 ≤ a) (ha : a < pw k) (hb0 : 0 ≤ b) (hb : b < pw k) (w : World) :
    Calls Tryd.prog 133 #[.int .i64 k, .int .i64 8, .int .u64 a, .int .u64 b] w fun e w' => e = .returned (.int .u64 (doOp k 8 a b)) ∧ (w' = w ∨ w' = w.drew) := by
  have hl := pw_le k hk
  have g := sDivWord_any k hk1 hk a b ha0 ha hb0 hb w
  have e0 : doOp k 8 a b = bits .and .u64 a b := rfl
  rw [e0]
  clear e0 ha0 ha hb0 hb hl
  generalize quotOf k a b = Q at *
  generalize remOf a b = R at *
  go_enter Tryd.func133, Tryd.ntmps133
  go_wp2_with fail
  refine g.mono ?_
  rintro e w1 ⟨rfl, hw⟩
  clear g
  go_wp2_with fail
  go_ret
  exact ⟨rfl, hw⟩
set_option maxHeartbeats 1000000 in
theorem l2Do_9 (k : Nat) (hk1 : 1 ≤ k) (hk : k ≤ 64) (a b : Int) (ha0 : 0 ≤ a) (ha : a < pw k) (hb0 : 0 ≤ b) (hb : b < pw k) (w : World) :
    Calls Tryd.prog 133 #[.int .i64 k, .int .i64 9, .int .u64 a, .int .u64 b] w fun e w' => e = .returned (.int .u64 (doOp k 9 a b)) ∧ (w' = w ∨ w' = w.drew) := by
  have hl := pw_le k hk
  have g := sDivWord_any k hk1 hk a b ha0 ha hb0 hb w
  have e0 : doOp k 9 a b = bits .or .u64 a b := rfl
  rw [e0]
  clear e0 ha0 ha hb0 hb hl
  generalize quotOf k a b = Q at *
  generalize remOf a b = R at *
  go_enter Tryd.func133, Tryd.ntmps133
  go_wp2_with fail
  refine g.mono ?_
  rintro e w1 ⟨rfl, hw⟩
  clear g
  go_wp2_with fail
  go_ret
  exact ⟨rfl, hw⟩
set_option maxHeartbeats 1000000 in
theorem l2Do_10 (k : Nat) (hk1 : 1 ≤ k) (hk : k ≤ 64) (a b : Int) (ha0 : 0 ≤ a) (ha : a < pw k) (hb0 : 0 ≤ b) (hb : b < pw k) (w : World) :
    Calls Tryd.prog 133 #[.int .i64 k, .int .i64 10, .int .u64 a, .int .u64 b] w fun e w' => e = .returned (.int .u64 (doOp k 10 a b)) ∧ (w' = w ∨ w' = w.drew) := by
  have hl := pw_le k hk
  have g := sDivWord_any k hk1 hk a b ha0 ha hb0 hb w
  have e0 : doOp k 10 a b = bits .xor .u64 a b := rfl
  rw [e0]
  clear e0 ha0 ha hb0 hb hl
  generalize quotOf k a b = Q at *
  generalize remOf a b = R at *
  go_enter Tryd.func133, Tryd.ntmps133
  go_wp2_with fail
  refine g.mono ?_
  rintro e w1 ⟨rfl, hw⟩
  clear g
  go_wp2_with fail
  go_ret
  exact ⟨rfl, hw⟩
set_option maxHeartbeats 1000000 in
theorem l2Do_11 (k : Nat) (hk1 : 1 ≤ k) (hk : k ≤ 64) (a b : Int) (ha0 : 0 ≤ a) (ha : a < pw k) (hb0 : 0 ≤ b) (hb : b < pw k) (w : World) :
    Calls Tryd.prog 133 #[.int .i64 k, .int .i64 11, .int .u64 a, .int .u64 b] w fun e w' => e = .returned (.int .u64 (doOp k 11 a b)) ∧ (w' = w ∨ w' = w.drew) := by
  have hl := pw_le k hk
  have g := sDivWord_any k hk1 hk a b ha0 ha hb0 hb w
  have e0 : doOp k 11 a b = moved k a b true := rfl
  rw [e0]
  have GC : Hid (∀ w1 : World, Calls Tryd.prog 149 #[.int .i64 k, .int .u64 a, .int .u64 b, .bool true] w1 fun e w' => e = .returned (.int .u64 (moved k a b true)) ∧ w' = w1) := fun w1 => l1Shift_any k hk a b true ha0 ha hb0 (by omega) w1
  clear e0 ha0 ha hb0 hb hl
  generalize moved k a b true = M at *
  generalize quotOf k a b = Q at *
  generalize remOf a b = R at *
  go_enter Tryd.func133, Tryd.ntmps133
  go_wp2_with fail
  refine g.mono ?_
  rintro e w1 ⟨rfl, hw⟩
  clear g
  go_wp2_with fail
  refine (GC.out _).mono ?_
  rintro e w2 ⟨rfl, rfl⟩
  go_wp2_with fail
  go_ret
  exact ⟨rfl, hw⟩
set_option maxHeartbeats 1000000 in
theorem l2Do_12 (k : Nat) (hk1 : 1 ≤ k) (hk : k ≤ 64) (a b : Int) (ha0 : 0 ≤ a) (ha : a < pw k) (hb0 : 0 ≤ b) (hb : b < pw k) (w : World) :
    Calls Tryd.prog 133 #[.int .i64 k, .int .i64 12, .int .u64 a, .int .u64 b] w fun e w' => e = .returned (.int .u64 (doOp k 12 a b)) ∧ (w' = w ∨ w' = w.drew) := by
  have hl := pw_le k hk
  have g := sDivWord_any k hk1 hk a b ha0 ha hb0 hb w
  have e0 : doOp k 12 a b = moved k a b false := rfl
  rw [e0]
  have GC : Hid (∀ w1 : World, Calls Tryd.prog 149 #[.int .i64 k, .int .u64 a, .int .u64 b, .bool false] w1 fun e w' => e = .returned (.int .u64 (moved k a b false)) ∧ w' = w1) := fun w1 => l1Shift_any k hk a b false ha0 ha hb0 (by omega) w1
  clear e0 ha0 ha hb0 hb hl
  generalize moved k a b false = M at *
  generalize quotOf k a b = Q at *
  generalize remOf a b = R at *
  go_enter Tryd.func133, Tryd.ntmps133
  go_wp2_with fail
  refine g.mono ?_
  rintro e w1 ⟨rfl, hw⟩
  clear g
  go_wp2_with fail
  refine (GC.out _).mono ?_
  rintro e w2 ⟨rfl, rfl⟩
  go_wp2_with fail
  go_ret
  exact ⟨rfl, hw⟩
set_option maxHeartbeats 1000000 in
theorem l2Do_14 (k : Nat) (hk1 : 1 ≤ k) (hk : k ≤ 64) (a b : Int) (ha0 : 0 ≤ a) (ha : a < pw k) (hb0 : 0 ≤ b) (hb : b < pw k) (w : World) :
    Calls Tryd.prog 133 #[.int .i64 k, .int .i64 14, .int .u64 a, .int .u64 b] w fun e w' => e = .returned (.int .u64 (doOp k 14 a b)) ∧ (w' = w ∨ w' = w.drew) := by
  have hl := pw_le k hk
  have g := sDivWord_any k hk1 hk a b ha0 ha hb0 hb w
  have e0 : doOp k 14 a b = if (a == b) = true then 1 else 0 := by
    show (if a = b then (1 : Int) else 0) = _
    by_cases h : a = b <;> simp [h]
  rw [e0]
  have GC : Hid (∀ w1 : World, Calls Tryd.prog 150 #[.bool (a == b)] w1 fun e w' => e = .returned (.int .u64 (if (a == b) = true then 1 else 0)) ∧ w' = w1) := fun w1 => l2Bool_any _ w1
  generalize (if (a == b) = true then (1 : Int) else 0) = M at *
  clear e0 ha0 ha hb0 hb hl
  generalize quotOf k a b = Q at *
  generalize remOf a b = R at *
  go_enter Tryd.func133, Tryd.ntmps133
  go_wp2_with fail
  refine g.mono ?_
  rintro e w1 ⟨rfl, hw⟩
  clear g
  go_wp2_with fail
  refine (GC.out _).mono ?_
  rintro e w2 ⟨rfl, rfl⟩
  go_wp2_with fail
  go_ret
  exact ⟨rfl, hw⟩
set_option maxHeartbeats 1000000 in
theorem l2Do_15 (k : Nat) (hk1 : 1 ≤ k) (hk : k ≤ 64) (a b : Int) (ha0 : 0 ≤ a) (ha : a < pw k) (hb0 : 0 ≤ b) (hb : b < pw k) (w : World) :
    Calls Tryd.prog 133 #[.int .i64 k, .int .i64 15, .int .u64 a, .int .u64 b] w fun e w' => e = .returned (.int .u64 (doOp k 15 a b)) ∧ (w' = w ∨ w' = w.drew) := by
  have hl := pw_le k hk
  have g := sDivWord_any k hk1 hk a b ha0 ha hb0 hb w
  have e0 : doOp k 15 a b = if decide (a < b) = true then 1 else 0 := by
    show (if a < b then (1 : Int) else 0) = _
    by_cases h : a < b <;> simp [h]
  rw [e0]
  have GC : Hid (∀ w1 : World, Calls Tryd.prog 150 #[.bool (decide (a < b))] w1 fun e w' => e = .returned (.int .u64 (if decide (a < b) = true then 1 else 0)) ∧ w' = w1) := fun w1 => l2Bool_any _ w1
  generalize (if decide (a < b) = true then (1 : Int) else 0) = M at *
  clear e0 ha0 ha hb0 hb hl
  generalize quotOf k a b = Q at *
  generalize remOf a b = R at *
  go_enter Tryd.func133, Tryd.ntmps133
  go_wp2_with fail
  refine g.mono ?_
  rintro e w1 ⟨rfl, hw⟩
  clear g
  go_wp2_with fail
  refine (GC.out _).mono ?_
  rintro e w2 ⟨rfl, rfl⟩
  go_wp2_with fail
  go_ret
  exact ⟨rfl, hw⟩
set_option maxHeartbeats 1000000 in
theorem l2Do_16 (k : Nat) (hk1 : 1 ≤ k) (hk : k ≤ 64) (a b : Int) (ha0 : 0 ≤ a) (ha : a < pw k) (hb0 : 0 ≤ b) (hb : b < pw k) (w : World) :
    Calls Tryd.prog 133 #[.int .i64 k, .int .i64 16, .int .u64 a, .int .u64 b] w fun e w' => e = .returned (.int .u64 (doOp k 16 a b)) ∧ (w' = w ∨ w' = w.drew) := by
  have hl := pw_le k hk
  have g := sDivWord_any k hk1 hk a b ha0 ha hb0 hb w
  have e0 : doOp k 16 a b = if decide (sgn k a < sgn k b) = true then 1 else 0 := by
    show (if sgn k a < sgn k b then (1 : Int) else 0) = _
    by_cases h : sgn k a < sgn k b <;> simp [h]
  rw [e0]
  have GS : Hid (∀ (x : Int) (w1 : World), 0 ≤ x → x < pw k → Calls Tryd.prog 151 #[.int .i64 k, .int .u64 x] w1 fun e w' => e = .returned (.int .i64 (sgn k x)) ∧ w' = w1) := by
    intro x w1 h0 h1
    obtain ⟨j, rfl⟩ : ∃ j, k = j + 1 := ⟨k - 1, by omega⟩
    exact l1Signed_any j hk x h0 h1 w1
  have ga := fun w1 => GS.out a w1 ha0 ha
  have gb := fun w1 => GS.out b w1 hb0 hb
  have GA : Hid _ := ga
  have GB : Hid _ := gb
  have GC : Hid (∀ w1 : World, Calls Tryd.prog 150 #[.bool (decide (sgn k a < sgn k b))] w1 fun e w' => e = .returned (.int .u64 (if decide (sgn k a < sgn k b) = true then 1 else 0)) ∧ w' = w1) := fun w1 => l2Bool_any _ w1
  generalize (if decide (sgn k a < sgn k b) = true then (1 : Int) else 0) = M at *
  clear e0 ga gb GS ha0 ha hb0 hb hl
  generalize sgn k a = sa at *
  generalize sgn k b = sb at *
  generalize quotOf k a b = Q at *
  generalize remOf a b = R at *
  go_enter Tryd.func133, Tryd.ntmps133
  go_wp2_with fail
  refine g.mono ?_
  rintro e w1 ⟨rfl, hw⟩
  clear g
  go_wp2_with fail
  refine (GA.out _).mono ?_
  rintro e w2 ⟨rfl, rfl⟩
  go_wp2_with fail
  refine (GB.out _).mono ?_
  rintro e w2 ⟨rfl, rfl⟩
  go_wp2_with fail
  refine (GC.out _).mono ?_
  rintro e w2 ⟨rfl, rfl⟩
  go_wp2_with fail
  go_ret
  exact ⟨rfl, hw⟩
set_option maxHeartbeats 1000000 in
theorem l2Do_17 (k : Nat) (hk1 : 1 ≤ k) (hk : k ≤ 64) (a b : Int) (ha0 : 0 ≤ a) (ha : a < pw k) (hb0 : 0 ≤ b) (hb : b < pw k) (w : World) :
    Calls Tryd.prog 133 #[.int .i64 k, .int .i64 17, .int .u64 a, .int .u64 b] w fun e w' => e = .returned (.int .u64 (doOp k 17 a b)) ∧ (w' = w ∨ w' = w.drew) := by
  have hl := pw_le k hk
  have g := sDivWord_any k hk1 hk a b ha0 ha hb0 hb w
  have e0 : doOp k 17 a b = bits .and .u64 a b := rfl
  rw [e0]
  clear e0 ha0 ha hb0 hb hl
  generalize quotOf k a b = Q at *
  generalize remOf a b = R at *
  go_enter Tryd.func133, Tryd.ntmps133
  go_wp2_with fail
  refine g.mono ?_
  rintro e w1 ⟨rfl, hw⟩
  clear g
  go_wp2_with fail
  go_ret
  exact ⟨rfl, hw⟩
set_option maxHeartbeats 1000000 in
theorem l2Do_18 (k : Nat) (hk1 : 1 ≤ k) (hk : k ≤ 64) (a b : Int) (ha0 : 0 ≤ a) (ha : a < pw k) (hb0 : 0 ≤ b) (hb : b < pw k) (w : World) :
    Calls Tryd.prog 133 #[.int .i64 k, .int .i64 18, .int .u64 a, .int .u64 b] w fun e w' => e = .returned (.int .u64 (doOp k 18 a b)) ∧ (w' = w ∨ w' = w.drew) := by
  have hl := pw_le k hk
  have g := sDivWord_any k hk1 hk a b ha0 ha hb0 hb w
  have e0 : doOp k 18 a b = bits .or .u64 a b := rfl
  rw [e0]
  clear e0 ha0 ha hb0 hb hl
  generalize quotOf k a b = Q at *
  generalize remOf a b = R at *
  go_enter Tryd.func133, Tryd.ntmps133
  go_wp2_with fail
  refine g.mono ?_
  rintro e w1 ⟨rfl, hw⟩
  clear g
  go_wp2_with fail
  go_ret
  exact ⟨rfl, hw⟩
theorem l2Do_any (k : Nat) (hk1 : 1 ≤ k) (hk : k ≤ 64) (op a b : Int) (hop : (3 ≤ op ∧ op ≤ 12) ∨ (14 ≤ op ∧ op ≤ 18)) (ha0 : 0 ≤ a) (ha : a < pw k) (hb0 : 0 ≤ b) (hb : b < pw k) (w : World) :
    Calls Tryd.prog 133 #[.int .i64 k, .int .i64 op, .int .u64 a, .int .u64 b] w fun e w' => e = .returned (.int .u64 (doOp k op a b)) ∧ (w' = w ∨ w' = w.drew) := by
  rcases (show op = 3 ∨ op = 4 ∨ op = 5 ∨ op = 6 ∨ op = 7 ∨ op = 8 ∨ op = 9 ∨ op = 10 ∨ op = 11 ∨ op = 12 ∨ op = 14 ∨ op = 15 ∨ op = 16 ∨ op = 17 ∨ op = 18 by omega) with rfl | rfl | rfl | rfl | rfl | rfl | rfl | rfl | rfl | rfl | rfl | rfl | rfl | rfl | rfl
  · exact l2Do_3 k hk1 hk a b ha0 ha hb0 hb w
  · exact l2Do_4 k hk1 hk a b ha0 ha hb0 hb w
  · exact l2Do_5 k hk1 hk a b ha0 ha hb0 hb w
  · exact l2Do_6 k hk1 hk a b ha0 ha hb0 hb w
  · exact l2Do_7 k hk1 hk a b ha0 ha hb0 hb w
  · exact l2Do_8 k hk1 hk a b ha0 ha hb0 hb w
  · exact l2Do_9 k hk1 hk a b ha0 ha hb0 hb w
  · exact l2Do_10 k hk1 hk a b ha0 ha hb0 hb w
  · exact l2Do_11 k hk1 hk a b ha0 ha hb0 hb w
  · exact l2Do_12 k hk1 hk a b ha0 ha hb0 hb w
  · exact l2Do_14 k hk1 hk a b ha0 ha hb0 hb w
  · exact l2Do_15 k hk1 hk a b ha0 ha hb0 hb w
  · exact l2Do_16 k hk1 hk a b ha0 ha hb0 hb w
  · exact l2Do_17 k hk1 hk a b ha0 ha hb0 hb w
  · exact l2Do_18 k hk1 hk a b ha0 ha hb0 hb w
end Go.Proofs.YtmhpnkfibecnmaaDoor
