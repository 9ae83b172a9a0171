/-
  What the functions of the words of bits do, the program's and the model's, one contract a function: each only computes (the world stays) where the table of masks lies as it was laid.
-/
import Derived.Test.YtpjllhlbdcanlaaDoorProg
import Derived.Test.YtpjllhlbdcanlaaDoorMath
import Derived.WalkKit
namespace Go.Proofs.YtpjllhlbdcanlaaDoor
open Go Go.RowKit
open M
set_option linter.unusedVariables false

/-- the table of masks lies as it was laid -/
def Tab (w : World) : Prop := ∀ k : Nat, k ≤ 64 → w.cell? ⟨0, k, none⟩ = some (.int .u64 (pw k - 1))

theorem ret_int {k : IntKind} {a b : Int} (h : a = b) : Ending.returned (.int k a) = .returned (.int k b) := by rw [h]
theorem ret_bool {a b : Bool} (h : a = b) : Ending.returned (.bool a) = .returned (.bool b) := by rw [h]

set_option maxHeartbeats 400000 in
theorem l1Cut_any (k : Nat) (hk : k ≤ 65) (a : Int) (h0 : 0 ≤ a) (h1 : a ≤ 18446744073709551615) (w : World) :
    Calls Tryd.prog 92 #[.int .i64 k, .int .u64 a] w fun e w' => e = .returned (.int .u64 (cut k a)) ∧ w' = w := by
  go_enter Tryd.func92, Tryd.ntmps92
  go_wp2
  go_loop [5, 6] (fun o i => ∃ j : Nat, j ≤ k ∧ i = .int .i64 j ∧ o = .int .u64 (cut j a)) (fun _ i => k - (intOf i).toNat)
  case atStart => exact ⟨0, Nat.zero_le _, rfl, by rw [cut_zero]⟩
  case round =>
    obtain ⟨j, hj, rfl, rfl⟩ := hrel
    by_cases hlt : j < k
    · go_wp2
      go_round
      case rel => exact ⟨j + 1, by omega, by go_num, by rw [cut_round j (by omega) a h0 h1]⟩
      case measure => simp [intOf]; omega
    · go_wp2
      go_ret
      have : j = k := by omega
      subst this
      exact ⟨rfl, rfl⟩

theorem goodWide_any (n : Int) (w : World) :
    Calls Tryd.prog 68 #[.int .i64 n] w fun e w' => e = .returned (.bool (wideB n)) ∧ w' = w := by
  by_cases h1 : 1 ≤ n
  · have hb : wideB n = decide (n ≤ 64) := by unfold wideB; simp [h1]
    rw [hb]
    go_enter Tryd.func68, Tryd.ntmps68
    go_wp2
    go_ret
    exact ⟨rfl, rfl⟩
  · have hb : wideB n = false := by unfold wideB; simp [h1]
    rw [hb]
    go_enter Tryd.func68, Tryd.ntmps68
    go_wp2
    go_ret
    exact ⟨rfl, rfl⟩
theorem l1Wide_any (n : Int) (w : World) :
    Calls Tryd.prog 93 #[.int .i64 n] w fun e w' => e = .returned (.bool (wideB n)) ∧ w' = w := by
  by_cases h1 : 1 ≤ n
  · have hb : wideB n = decide (n ≤ 64) := by unfold wideB; simp [h1]
    rw [hb]
    go_enter Tryd.func93, Tryd.ntmps93
    go_wp2
    go_ret
    exact ⟨rfl, rfl⟩
  · have hb : wideB n = false := by unfold wideB; simp [h1]
    rw [hb]
    go_enter Tryd.func93, Tryd.ntmps93
    go_wp2
    go_ret
    exact ⟨rfl, rfl⟩

theorem iGoodWord_any (n a : Int) (w : World) (hT : Tab w) :
    Calls Tryd.prog 41 #[.int .i64 n, .int .u64 a] w fun e w' => e = .returned (.bool (goodB n a)) ∧ w' = w := by
  cases hw : wideB n with
  | false =>
    have hb : goodB n a = false := by
      have := wideB_false hw
      unfold goodB
      exact decide_eq_false (by omega)
    rw [hb]
    have g := goodWide_any n w
    rw [hw] at g
    go_enter Tryd.func41, Tryd.ntmps41
    go_wp2_with fail
    refine g.mono ?_
    rintro e w' ⟨rfl, rfl⟩
    go_wp2_with fail
    go_ret
    exact ⟨rfl, rfl⟩
  | true =>
    obtain ⟨k, rfl, hk1, hk⟩ := wideB_true hw
    have hb : goodB k a = decide (a ≤ pw k - 1) := by
      unfold goodB
      rw [Int.toNat_natCast, Bool.eq_iff_iff]
      simp
      omega
    rw [hb]
    have g := goodWide_any k w
    rw [hw] at g
    have hc := hT k hk
    have hp := pw_pos k
    have hl := pw_le k hk
    clear hb hw
    generalize pw k = M at *
    go_enter Tryd.func41, Tryd.ntmps41
    go_wp2_with fail
    refine g.mono ?_
    rintro e w' ⟨rfl, rfl⟩
    go_wp2_with fail
    go_ret
    exact ⟨rfl, rfl⟩

theorem sGoodWord_any (n a : Int) (h0 : 0 ≤ a) (h1 : a ≤ 18446744073709551615) (w : World) :
    Calls Tryd.prog 69 #[.int .i64 n, .int .u64 a] w fun e w' => e = .returned (.bool (goodB n a)) ∧ w' = w := by
  cases hw : wideB n with
  | false =>
    have hb : goodB n a = false := by
      have := wideB_false hw
      unfold goodB
      exact decide_eq_false (by omega)
    rw [hb]
    have g := l1Wide_any n w
    rw [hw] at g
    go_enter Tryd.func69, Tryd.ntmps69
    go_wp2_with fail
    refine g.mono ?_
    rintro e w' ⟨rfl, rfl⟩
    go_wp2_with fail
    go_ret
    exact ⟨rfl, rfl⟩
  | true =>
    obtain ⟨k, rfl, hk1, hk⟩ := wideB_true hw
    have hb : goodB k a = (cut k a == a) := by
      unfold goodB
      rw [Int.toNat_natCast, Bool.eq_iff_iff]
      simp [cut_eq_iff k a h0]
      omega
    rw [hb]
    have g := l1Wide_any k w
    rw [hw] at g
    have g2 := l1Cut_any k (by omega) a h0 h1 w
    clear hb hw
    generalize cut k a = c at *
    go_enter Tryd.func69, Tryd.ntmps69
    go_wp2_with fail
    refine g.mono ?_
    rintro e w' ⟨rfl, rfl⟩
    go_wp2_with fail
    refine g2.mono ?_
    rintro e w' ⟨rfl, rfl⟩
    go_wp2_with fail
    go_ret
    exact ⟨rfl, rfl⟩

/-- a word as a signed number, as both texts reckon it -/
def sgn (k : Nat) (a : Int) : Int := if pw (k - 1) ≤ a then wrap64 (bits .or .u64 a (bits .xor .u64 IntKind.u64.max (pw k - 1))) else wrap64 a
/-- a word moved by j places -/
def moved (k : Nat) (a : Int) (b : Int) (l : Bool) : Int := if k ≤ b then 0 else if l then cut k (a * pw b.toNat) else a / pw b.toNat
end Go.Proofs.YtpjllhlbdcanlaaDoor
