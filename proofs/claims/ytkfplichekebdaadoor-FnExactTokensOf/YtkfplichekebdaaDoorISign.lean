/-
  How long signs are: the program's signSize, bracketSize.
-/
import Derived.Test.YtkfplichekebdaaDoorIRun
import Derived.Test.YtkfplichekebdaaDoorTables
import Derived.Test.YtkfplichekebdaaDoorShelf
import Derived.Laws.Rows
namespace Go.Proofs.YtkfplichekebdaaDoor
open Go Go.RowKit
open M
set_option linter.unusedVariables false

theorem hasPrefix_any (s p : Tx) (w : World) : Calls Tryd.prog 89 #[tx s, tx p] w fun e w' => e = .returned (.bool (p.isPrefixOf s)) ∧ w' = w :=
  Any.strings_HasPrefix Tryd.lays99 ⟨s.toArray⟩ ⟨p.toArray⟩ w
/-- the signs as one value -/
abbrev signsV : Value := .agg signsA
/-- the longest of the first signs that begin a text -/
def signMax (s : Tx) : Nat → Nat
  | 0 => 0
  | j + 1 => if (signN j).isPrefixOf s = true then max (signMax s j) (signN j).length else signMax s j
theorem signMax_le (s : Tx) : ∀ j, signMax s j ≤ 2
  | 0 => by simp [signMax]
  | j + 1 => by
    have := signMax_le s j
    have := signN_len j
    simp only [signMax]
    split <;> omega
theorem index_sign0 (W : World) : (Instr.index 90 signsV (.int .i64 0)).run Tryd.prog W = .ok (tx (signN 0)) W := by kernel_rfl
theorem index_sign1 (W : World) : (Instr.index 90 signsV (.int .i64 1)).run Tryd.prog W = .ok (tx (signN 1)) W := by kernel_rfl
theorem index_sign2 (W : World) : (Instr.index 90 signsV (.int .i64 2)).run Tryd.prog W = .ok (tx (signN 2)) W := by kernel_rfl
theorem index_sign3 (W : World) : (Instr.index 90 signsV (.int .i64 3)).run Tryd.prog W = .ok (tx (signN 3)) W := by kernel_rfl
theorem index_sign4 (W : World) : (Instr.index 90 signsV (.int .i64 4)).run Tryd.prog W = .ok (tx (signN 4)) W := by kernel_rfl
theorem index_sign5 (W : World) : (Instr.index 90 signsV (.int .i64 5)).run Tryd.prog W = .ok (tx (signN 5)) W := by kernel_rfl
theorem index_sign6 (W : World) : (Instr.index 90 signsV (.int .i64 6)).run Tryd.prog W = .ok (tx (signN 6)) W := by kernel_rfl
theorem index_sign7 (W : World) : (Instr.index 90 signsV (.int .i64 7)).run Tryd.prog W = .ok (tx (signN 7)) W := by kernel_rfl
theorem index_sign8 (W : World) : (Instr.index 90 signsV (.int .i64 8)).run Tryd.prog W = .ok (tx (signN 8)) W := by kernel_rfl
theorem index_sign9 (W : World) : (Instr.index 90 signsV (.int .i64 9)).run Tryd.prog W = .ok (tx (signN 9)) W := by kernel_rfl
theorem index_sign10 (W : World) : (Instr.index 90 signsV (.int .i64 10)).run Tryd.prog W = .ok (tx (signN 10)) W := by kernel_rfl
theorem index_sign11 (W : World) : (Instr.index 90 signsV (.int .i64 11)).run Tryd.prog W = .ok (tx (signN 11)) W := by kernel_rfl
theorem index_sign12 (W : World) : (Instr.index 90 signsV (.int .i64 12)).run Tryd.prog W = .ok (tx (signN 12)) W := by kernel_rfl
theorem index_sign13 (W : World) : (Instr.index 90 signsV (.int .i64 13)).run Tryd.prog W = .ok (tx (signN 13)) W := by kernel_rfl
theorem index_sign14 (W : World) : (Instr.index 90 signsV (.int .i64 14)).run Tryd.prog W = .ok (tx (signN 14)) W := by kernel_rfl
theorem index_sign15 (W : World) : (Instr.index 90 signsV (.int .i64 15)).run Tryd.prog W = .ok (tx (signN 15)) W := by kernel_rfl
theorem index_sign16 (W : World) : (Instr.index 90 signsV (.int .i64 16)).run Tryd.prog W = .ok (tx (signN 16)) W := by kernel_rfl
theorem index_sign17 (W : World) : (Instr.index 90 signsV (.int .i64 17)).run Tryd.prog W = .ok (tx (signN 17)) W := by kernel_rfl
theorem index_sign18 (W : World) : (Instr.index 90 signsV (.int .i64 18)).run Tryd.prog W = .ok (tx (signN 18)) W := by kernel_rfl
theorem index_sign19 (W : World) : (Instr.index 90 signsV (.int .i64 19)).run Tryd.prog W = .ok (tx (signN 19)) W := by kernel_rfl
theorem index_sign20 (W : World) : (Instr.index 90 signsV (.int .i64 20)).run Tryd.prog W = .ok (tx (signN 20)) W := by kernel_rfl
theorem index_sign (j : Nat) (hj : j < 21) (W : World) : (Instr.index 90 signsV (.int .i64 (j : Int))).run Tryd.prog W = .ok (tx (signN j)) W :=
  match j, hj with
  | 0, _ => index_sign0 W
  | 1, _ => index_sign1 W
  | 2, _ => index_sign2 W
  | 3, _ => index_sign3 W
  | 4, _ => index_sign4 W
  | 5, _ => index_sign5 W
  | 6, _ => index_sign6 W
  | 7, _ => index_sign7 W
  | 8, _ => index_sign8 W
  | 9, _ => index_sign9 W
  | 10, _ => index_sign10 W
  | 11, _ => index_sign11 W
  | 12, _ => index_sign12 W
  | 13, _ => index_sign13 W
  | 14, _ => index_sign14 W
  | 15, _ => index_sign15 W
  | 16, _ => index_sign16 W
  | 17, _ => index_sign17 W
  | 18, _ => index_sign18 W
  | 19, _ => index_sign19 W
  | 20, _ => index_sign20 W
  | n + 21, h => by omega
set_option maxHeartbeats 6400000 in
set_option maxRecDepth 1000000 in
theorem signSize_any (s : Tx) (w : World) (hS : Signs w) : Calls Tryd.prog 61 #[tx s] w fun e w' => e = .returned (.int .i64 (signMax s 21 : Int)) ∧ w' = w := by
  obtain ⟨tt, fr, hg1⟩ := hS
  have HX : Hid (∀ (j : Nat), j < 21 → ∀ W : World, (Instr.index 90 signsV (.int .i64 (j : Int))).run Tryd.prog W = .ok (tx (signN j)) W) := index_sign
  go_enter Tryd.func61, Tryd.ntmps61
  go_wp2_with (refine wpList_load_row rfl 90 _ rfl 0 rfl tt _ fr _ hg1 Tryd.underlying90 rfl (by kernel_rfl) ?_)
  go_loop [3, 7] (fun v i => ∃ j : Nat, j ≤ 21 ∧ i = .int .i64 j ∧ v = .int .i64 (signMax s j : Int)) (fun _ i => 21 - (intOf i).toNat)
  case atStart => exact ⟨0, by omega, rfl, rfl⟩
  case round =>
    obtain ⟨j, hj, rfl, rfl⟩ := hrel
    by_cases hlt' : j < 21
    · have hix := fun W : World => HX.out j hlt' W
      have g := hasPrefix_any s (signN j) w
      have HM : Hid (signMax s (j + 1) = if (signN j).isPrefixOf s = true then max (signMax s j) (signN j).length else signMax s j) := rfl
      have hle := signMax_le s j
      have hlen := signN_len j
      cases hpre : (signN j).isPrefixOf s with
      | true =>
        rw [hpre] at g
        have HM2 : Hid (signMax s (j + 1) = max (signMax s j) (signN j).length) := by
          have h := HM.out
          rw [if_pos hpre] at h
          exact h
        clear hpre HM
        generalize signN j = sg at *
        generalize signMax s j = mj at *
        go_wp2_with fail
        refine g.mono ?_
        rintro e w' ⟨rfl, rfl⟩
        clear g
        go_wp2_with fail
        go_round
        case rel => exact ⟨j + 1, by omega, by go_num, by rw [HM2.out]; congr 1; first | omega | (split <;> omega)⟩
        case measure => simp [intOf]; omega
      | false =>
        rw [hpre] at g
        have HM2 : Hid (signMax s (j + 1) = signMax s j) := by
          have h := HM.out
          rw [if_neg (by rw [hpre]; decide)] at h
          exact h
        clear hpre HM
        generalize signN j = sg at *
        generalize signMax s j = mj at *
        go_wp2_with fail
        refine g.mono ?_
        rintro e w' ⟨rfl, rfl⟩
        clear g
        go_wp2_with fail
        go_round
        case rel => exact ⟨j + 1, by omega, by go_num, by rw [HM2.out]⟩
        case measure => simp [intOf]; omega
    · obtain rfl : j = 21 := by omega
      go_wp2_with fail
      go_ret
      exact ⟨rfl, rfl⟩
theorem bracketSize_any (s : Tx) (w : World) : Calls Tryd.prog 62 #[tx s] w fun e w' => e = .returned (.int .i64 (if [40].isPrefixOf s || [41].isPrefixOf s then 1 else 0)) ∧ w' = w := by
  have g1 := hasPrefix_any s [40] w
  have g2 := hasPrefix_any s [41] w
  cases h1 : [40].isPrefixOf s with
  | true =>
    rw [h1] at g1
    clear g2 h1
    simp only [Bool.true_or, if_true]
    go_enter Tryd.func62, Tryd.ntmps62
    go_wp2_with (go_at_call 89; refine g1.mono ?_; rintro e w' ⟨rfl, rfl⟩)
    go_ret
    exact ⟨rfl, rfl⟩
  | false =>
    rw [h1] at g1
    cases h2 : [41].isPrefixOf s with
    | true =>
      rw [h2] at g2
      clear h1 h2
      simp only [Bool.or_true, if_true]
      go_enter Tryd.func62, Tryd.ntmps62
      go_wp2_with fail
      refine g1.mono ?_
      rintro e w1 ⟨rfl, rfl⟩
      go_wp2_with fail
      refine g2.mono ?_
      rintro e w1 ⟨rfl, rfl⟩
      go_wp2_with fail
      go_ret
      exact ⟨rfl, rfl⟩
    | false =>
      rw [h2] at g2
      clear h1 h2
      simp only [Bool.or_false]
      go_enter Tryd.func62, Tryd.ntmps62
      go_wp2_with fail
      refine g1.mono ?_
      rintro e w1 ⟨rfl, rfl⟩
      go_wp2_with fail
      refine g2.mono ?_
      rintro e w1 ⟨rfl, rfl⟩
      go_wp2_with fail
      go_ret
      exact ⟨rfl, rfl⟩
end Go.Proofs.YtkfplichekebdaaDoor
