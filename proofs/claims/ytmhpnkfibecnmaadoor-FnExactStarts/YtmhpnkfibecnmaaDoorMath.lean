/-
  Plain mathematics for the words of bits: the lower k bits of a number, and what and, or, xor, shifts and wraps of uint64 come to. No program stands in it.
-/
import Derived.Laws.BitsAllLaws
namespace Go.Proofs.YtmhpnkfibecnmaaDoor.M
open Go

theorem nat_or_step (a k : Nat) : (a % 2 ^ k) ||| (a &&& 2 ^ k) = a % 2 ^ (k + 1) := by
  apply Nat.eq_of_testBit_eq
  intro i
  rw [Nat.testBit_or, Nat.testBit_and, Nat.testBit_mod_two_pow, Nat.testBit_mod_two_pow, Nat.testBit_two_pow]
  by_cases h1 : i < k
  · have h2 : i < k + 1 := by omega
    have h3 : ¬ k = i := by omega
    simp [h1, h2, h3]
  · by_cases h4 : k = i
    · subst h4; simp
    · have h2 : ¬ i < k + 1 := by omega
      simp [h1, h2, h4]

theorem nat_xor_mask (a k : Nat) (h : a < 2 ^ k) : a ^^^ (2 ^ k - 1) = 2 ^ k - (a + 1) := by
  apply Nat.eq_of_testBit_eq
  intro i
  rw [Nat.testBit_xor, Nat.testBit_two_pow_sub_one, Nat.testBit_two_pow_sub_succ h]
  by_cases h1 : i < k
  · simp [h1]
  · have : a.testBit i = false := Nat.testBit_lt_two_pow (Nat.lt_of_lt_of_le h (Nat.pow_le_pow_right (by omega) (by omega)))
    simp [h1, this]

/-- two to the k-th, as a number -/
def pw (k : Nat) : Int := ((2 ^ k : Nat) : Int)
theorem pw_pos (k : Nat) : 1 ≤ pw k := by
  unfold pw
  have := Nat.two_pow_pos k
  omega
theorem pw_le (k : Nat) (h : k ≤ 64) : pw k ≤ 18446744073709551616 := by
  unfold pw
  have : 2 ^ k ≤ 2 ^ 64 := Nat.pow_le_pow_right (by omega) h
  omega
theorem pw_succ (k : Nat) : pw (k + 1) = 2 * pw k := by
  unfold pw
  rw [Nat.pow_succ]
  omega
theorem pw_64 : pw 64 = 18446744073709551616 := by decide
theorem pw_dvd (k : Nat) (h : k ≤ 64) : pw k ∣ 18446744073709551616 := by
  have h1 : (2 ^ k : Nat) ∣ 2 ^ 64 := Nat.pow_dvd_pow 2 h
  rw [show (2 ^ 64 : Nat) = 18446744073709551616 from by decide] at h1
  exact Int.natCast_dvd_natCast.2 h1
/-- the lower k bits -/
def cut (k : Nat) (a : Int) : Int := a % pw k
theorem cut_lo (k : Nat) (a : Int) : 0 ≤ cut k a := by
  have := pw_pos k
  exact Int.emod_nonneg _ (by omega)
theorem cut_hi (k : Nat) (a : Int) : cut k a < pw k := by
  have := pw_pos k
  exact Int.emod_lt_of_pos _ (by omega)
theorem cut_id (k : Nat) (a : Int) (h0 : 0 ≤ a) (h : a < pw k) : cut k a = a := Int.emod_eq_of_lt h0 h
theorem cut_eq_iff (k : Nat) (a : Int) (h0 : 0 ≤ a) : cut k a = a ↔ a < pw k := by
  constructor
  · intro h
    rw [← h]
    exact cut_hi k a
  · exact cut_id k a h0
theorem cut_wrap (k : Nat) (h : k ≤ 64) (n : Int) : cut k (IntKind.u64.wrap n) = cut k n := by
  unfold cut
  rw [IntKind.wrap_u64]
  exact Int.emod_emod_of_dvd n (pw_dvd k h)
theorem cut_zero (a : Int) : cut 0 a = 0 := by
  unfold cut pw
  simp [Int.emod_one]

theorem and_mask (k : Nat) (hk : k ≤ 64) (a : Int) (h0 : 0 ≤ a) (h1 : a ≤ 18446744073709551615) : bits .and .u64 a (pw k - 1) = cut k a := by
  obtain ⟨n, rfl⟩ := Int.eq_ofNat_of_zero_le h0
  have hp := pw_pos k
  have hl := pw_le k hk
  rw [u64_and _ _ h0 (by omega) (by omega) (by omega)]
  have e : (pw k - 1).toNat = 2 ^ k - 1 := by
    unfold pw
    have := Nat.two_pow_pos k
    omega
  rw [e, Int.toNat_natCast, Nat.and_two_pow_sub_one_eq_mod]
  unfold cut pw
  exact Int.natCast_emod n (2 ^ k)

theorem or_step (k : Nat) (hk : k < 64) (a : Int) (h0 : 0 ≤ a) (h1 : a ≤ 18446744073709551615) : bits .or .u64 (cut k a) (bits .and .u64 a (pw k)) = cut (k + 1) a := by
  obtain ⟨n, rfl⟩ := Int.eq_ofNat_of_zero_le h0
  have hp := pw_pos k
  have hl := pw_le (k + 1) (by omega)
  rw [pw_succ] at hl
  have hc := cut_lo k n
  have hd := cut_hi k n
  rw [u64_and _ _ h0 (by omega) (by omega) (by omega)]
  have e : (pw k).toNat = 2 ^ k := Int.toNat_natCast _
  rw [e, Int.toNat_natCast]
  have hb : n &&& 2 ^ k < 18446744073709551616 := Nat.lt_of_le_of_lt Nat.and_le_left (by omega)
  rw [u64_or _ _ hc (by omega) (by omega) (by omega)]
  have e2 : (cut k (n : Int)).toNat = n % 2 ^ k := by
    have e3 : cut k (n : Int) = ((n % 2 ^ k : Nat) : Int) := by unfold cut pw; exact (Int.natCast_emod n (2 ^ k)).symm
    rw [e3, Int.toNat_natCast]
  rw [e2, Int.toNat_natCast, nat_or_step]
  unfold cut pw
  exact Int.natCast_emod n (2 ^ (k + 1))

theorem xor_mask (k : Nat) (hk : k ≤ 64) (a : Int) (h0 : 0 ≤ a) (h1 : a < pw k) : bits .xor .u64 a (pw k - 1) = pw k - 1 - a := by
  obtain ⟨n, rfl⟩ := Int.eq_ofNat_of_zero_le h0
  have hp := pw_pos k
  have hl := pw_le k hk
  rw [u64_xor _ _ h0 (by omega) (by omega) (by omega)]
  have e : (pw k - 1).toNat = 2 ^ k - 1 := by
    unfold pw
    have := Nat.two_pow_pos k
    omega
  have hn : n < 2 ^ k := by unfold pw at h1; omega
  rw [e, Int.toNat_natCast, nat_xor_mask n k hn]
  unfold pw
  omega

theorem pw_int (k : Nat) : (2 : Int) ^ k = pw k := by
  unfold pw
  exact (Int.natCast_pow 2 k).symm
theorem pw_mono (j k : Nat) (h : j ≤ k) : pw j ≤ pw k := by
  unfold pw
  exact Int.ofNat_le.2 (Nat.pow_le_pow_right (by omega) h)
theorem or_zero (a : Int) (h0 : 0 ≤ a) (h1 : a ≤ 18446744073709551615) : bits .or .u64 a 0 = a := by
  rw [u64_or _ _ h0 (by omega) (by omega) (by omega)]
  simp
  omega
theorem and_zero (a : Int) (h0 : 0 ≤ a) (h1 : a ≤ 18446744073709551615) : bits .and .u64 a 0 = 0 := by
  rw [u64_and _ _ h0 (by omega) (by omega) (by omega)]
  simp
/-- a round of the loop that gathers the lower bits -/
theorem cut_round (j : Nat) (hj : j ≤ 64) (a : Int) (h0 : 0 ≤ a) (h1 : a ≤ 18446744073709551615) :
    bits .or .u64 (cut j a) (bits .and .u64 a (IntKind.u64.wrap (2 ^ j))) = cut (j + 1) a := by
  rw [pw_int, IntKind.wrap_u64]
  by_cases h : j = 64
  · subst h
    rw [pw_64, Int.emod_self, and_zero a h0 h1, cut_id 64 a h0 (by rw [pw_64]; omega), or_zero a h0 h1, cut_id 65 a h0 (by rw [pw_succ, pw_64]; omega)]
  · have hp := pw_pos j
    have hl := pw_le (j + 1) (by omega)
    rw [pw_succ] at hl
    rw [Int.emod_eq_of_lt (by omega) (by omega)]
    exact or_step j (by omega) a h0 h1
theorem cut_le (k : Nat) (a : Int) (hk : k ≤ 64) : cut k a ≤ 18446744073709551615 := by
  have := cut_hi k a
  have := pw_le k hk
  omega
theorem wrap_lo (n : Int) : 0 ≤ IntKind.u64.wrap n := by
  rw [IntKind.wrap_u64]
  omega
theorem wrap_hi (n : Int) : IntKind.u64.wrap n ≤ 18446744073709551615 := by
  rw [IntKind.wrap_u64]
  omega
theorem max_u64 : IntKind.u64.max = 18446744073709551615 := by decide
theorem not_u64 (a : Int) (h0 : 0 ≤ a) (h1 : a ≤ 18446744073709551615) : bits .xor .u64 IntKind.u64.max a = 18446744073709551615 - a := by
  rw [max_u64, u64_xor _ _ (by omega) (by omega) h0 (by omega), Nat.xor_comm]
  have h := xor_mask 64 (by omega) a h0 (by rw [pw_64]; omega)
  rw [pw_64, u64_xor _ _ h0 (by omega) (by omega) (by omega)] at h
  exact h
theorem cut_ones (k : Nat) (hk : k ≤ 64) : cut k 18446744073709551615 = pw k - 1 := by
  have h := and_mask k hk 18446744073709551615 (by omega) (by omega)
  rw [← h, u64_and _ _ (by omega) (by omega) (by have := pw_pos k; omega) (by have := pw_le k hk; omega), Nat.and_comm]
  have hp := pw_pos k
  have hl := pw_le k hk
  have e := Nat.and_two_pow_sub_one_eq_mod (pw k - 1).toNat 64
  rw [show (2 ^ 64 - 1 : Nat) = (18446744073709551615 : Int).toNat from by decide, Nat.mod_eq_of_lt (by omega)] at e
  rw [e]
  omega
theorem cut_flip (k : Nat) (hk : k ≤ 64) (a : Int) (h0 : 0 ≤ a) (h1 : a < pw k) : cut k (18446744073709551615 - a) = pw k - 1 - a := by
  have h := cut_ones k hk
  unfold cut at *
  have e : (18446744073709551615 - a) % pw k = (pw k - 1 - a) % pw k := by
    rw [← h, Int.emod_sub_emod]
  rw [e]
  exact Int.emod_eq_of_lt (by omega) (by omega)
theorem half_hi (k : Nat) (a : Int) (h : pw k ≤ a) (h1 : a < pw (k + 1)) : (bits .and .u64 (a / 2 ^ k) 1 == 1) = true := by
  have hp := pw_pos k
  rw [pw_succ] at h1
  have e : a / 2 ^ k = 1 := by
    rw [pw_int]
    have q := Int.mul_ediv_add_emod a (pw k)
    have r0 := Int.emod_nonneg a (show pw k ≠ 0 by omega)
    have r1 := Int.emod_lt_of_pos a (show 0 < pw k by omega)
    exact Int.le_antisymm (Int.lt_add_one_iff.1 (Int.ediv_lt_of_lt_mul (by omega) (by omega))) ((Int.le_ediv_iff_mul_le (by omega)).2 (by omega))
  rw [e]
  decide
theorem half_lo (k : Nat) (a : Int) (h0 : 0 ≤ a) (h : a < pw k) : (bits .and .u64 (a / 2 ^ k) 1 == 1) = false := by
  have e : a / 2 ^ k = 0 := by
    rw [pw_int]
    exact Int.ediv_eq_zero_of_lt h0 h
  rw [e]
  decide
theorem shl_round (k i : Nat) (hk : k ≤ 64) (a : Int) : cut k (IntKind.u64.wrap (cut k (a * pw i) * 2)) = cut k (a * pw (i + 1)) := by
  rw [cut_wrap k hk, pw_succ]
  unfold cut
  rw [Int.mul_emod, Int.emod_emod, ← Int.mul_emod, Int.mul_assoc, Int.mul_comm (pw i) 2]
theorem shr_round (i : Nat) (a : Int) : a / pw i / 2 = a / pw (i + 1) := by
  have hp := pw_pos i
  rw [pw_succ, Int.mul_comm, Int.ediv_ediv, if_neg (by omega), Int.sub_zero]
theorem shl_whole (k j : Nat) (hk : k ≤ 64) (a : Int) : cut k (IntKind.u64.wrap (a * 2 ^ j)) = cut k (a * pw j) := by
  rw [cut_wrap k hk, pw_int]
theorem shr_bd (i : Nat) (a : Int) (h0 : 0 ≤ a) : 0 ≤ a / pw i ∧ a / pw i ≤ a := by
  have hp := pw_pos i
  exact ⟨Int.ediv_nonneg h0 (by omega), Int.ediv_le_self _ h0⟩
/-- a word of a wide: the wide in its bounds, the number below two to the wide -/
def goodB (n a : Int) : Bool := decide (1 ≤ n ∧ n ≤ 64 ∧ a < pw n.toNat)
theorem goodB_true {n a : Int} (h : goodB n a = true) : ∃ k : Nat, n = k ∧ 1 ≤ k ∧ k ≤ 64 ∧ a < pw k := by
  have h := of_decide_eq_true h
  exact ⟨n.toNat, by omega, by omega, by omega, h.2.2⟩
theorem goodB_false {n a : Int} (h : goodB n a = false) : n < 1 ∨ 64 < n ∨ ∃ k : Nat, n = k ∧ 1 ≤ k ∧ k ≤ 64 ∧ pw k ≤ a := by
  have h := of_decide_eq_false h
  by_cases h1 : n < 1
  · exact Or.inl h1
  · by_cases h2 : 64 < n
    · exact Or.inr (Or.inl h2)
    · exact Or.inr (Or.inr ⟨n.toNat, by omega, by omega, by omega, by omega⟩)
def wideB (n : Int) : Bool := decide (1 ≤ n ∧ n ≤ 64)
theorem wideB_true {n : Int} (h : wideB n = true) : ∃ k : Nat, n = k ∧ 1 ≤ k ∧ k ≤ 64 := by
  have h := of_decide_eq_true h
  exact ⟨n.toNat, by omega, by omega, by omega⟩
theorem wideB_false {n : Int} (h : wideB n = false) : n < 1 ∨ 64 < n := by
  have h := of_decide_eq_false h
  omega
theorem wideB_of_good {n a : Int} (h : goodB n a = true) : wideB n = true := by
  have h := of_decide_eq_true h
  exact decide_eq_true ⟨h.1, h.2.1⟩
end Go.Proofs.YtmhpnkfibecnmaaDoor.M
