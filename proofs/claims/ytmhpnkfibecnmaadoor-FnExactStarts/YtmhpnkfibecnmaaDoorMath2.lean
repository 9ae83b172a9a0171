/-
  Plain mathematics for the laws of the words of bits: sums and differences, products over sums, quotients and remainders, signed numbers, all modulo two to the k. No program stands in it.
-/
import Derived.Test.YtmhpnkfibecnmaaDoorMath
namespace Go.Proofs.YtmhpnkfibecnmaaDoor.M
open Go
theorem good_cut (k : Nat) (hk1 : 1 ≤ k) (hk : k ≤ 64) (x : Int) : goodB k (cut k x) = true := by
  have h := cut_hi k x
  exact decide_eq_true ⟨by omega, by omega, by rw [Int.toNat_natCast]; exact h⟩
theorem good_of (k : Nat) (hk1 : 1 ≤ k) (hk : k ≤ 64) (x : Int) (h : x < pw k) : goodB k x = true :=
  decide_eq_true ⟨by omega, by omega, by rw [Int.toNat_natCast]; exact h⟩
theorem ring_back (k : Nat) (hk : k ≤ 64) (a b : Int) (h0 : 0 ≤ a) (h1 : a < pw k) : cut k (IntKind.u64.wrap (cut k (IntKind.u64.wrap (a + b)) - b)) = a := by
  rw [cut_wrap k hk, cut_wrap k hk]
  have e : cut k (cut k (a + b) - b) = cut k (a + b - b) := Int.emod_sub_emod ..
  rw [e, Int.add_sub_cancel, cut_id k a h0 h1]
theorem ring_flip (k : Nat) (hk : k ≤ 64) (a : Int) : cut k (IntKind.u64.wrap (a + (pw k - 1 - a))) = pw k - 1 := by
  have hp := pw_pos k
  rw [cut_wrap k hk, show a + (pw k - 1 - a) = pw k - 1 from by omega, cut_id k _ (by omega) (by omega)]
theorem ring_dist (k : Nat) (hk : k ≤ 64) (a b c : Int) :
    cut k (IntKind.u64.wrap (cut k (IntKind.u64.wrap (a + b)) * c)) = cut k (IntKind.u64.wrap (cut k (IntKind.u64.wrap (a * c)) + cut k (IntKind.u64.wrap (b * c)))) := by
  simp only [cut_wrap k hk]
  unfold cut
  rw [← Int.add_emod (a * c) (b * c), ← Int.add_mul, Int.mul_emod, Int.emod_emod, ← Int.mul_emod]
theorem div_good (k : Nat) (a b : Int) (h0 : 0 ≤ a) (h1 : a < pw k) (hb : 1 ≤ b) : 0 ≤ a / b ∧ a / b < pw k := by
  have h := Int.ediv_nonneg h0 (show 0 ≤ b by omega)
  have h2 := Int.ediv_le_self b h0
  omega
theorem div_back (k : Nat) (hk : k ≤ 64) (a b : Int) (h0 : 0 ≤ a) (h1 : a < pw k) :
    cut k (IntKind.u64.wrap (cut k (IntKind.u64.wrap (a / b * b)) + a % b)) = a := by
  rw [cut_wrap k hk, cut_wrap k hk]
  have e : cut k (cut k (a / b * b) + a % b) = cut k (a / b * b + a % b) := Int.emod_add_emod ..
  rw [e, Int.mul_comm, Int.mul_ediv_add_emod, cut_id k a h0 h1]
theorem wrap_pw (j : Nat) (hj : j < 64) : IntKind.u64.wrap (2 ^ j) = pw j := by
  have hp := pw_pos j
  have hl := pw_le (j + 1) (by omega)
  rw [pw_succ] at hl
  rw [pw_int, IntKind.wrap_u64, Int.emod_eq_of_lt (by omega) (by omega)]
theorem cut_wrap64 (k : Nat) (hk : k ≤ 64) (n : Int) : cut k (IntKind.u64.wrap (IntKind.i64.wrap n)) = cut k n := by
  rw [cut_wrap k hk]
  unfold cut
  have e : IntKind.i64.wrap n % 18446744073709551616 = n % 18446744073709551616 := by
    simp [IntKind.wrap, IntKind.bits, IntKind.signed]
    split <;> omega
  rw [← Int.emod_emod_of_dvd _ (pw_dvd k hk), e, Int.emod_emod_of_dvd _ (pw_dvd k hk)]
theorem or_upper (k : Nat) (hk : k ≤ 64) (a : Int) (h0 : 0 ≤ a) (h1 : a < pw k) :
    cut k (bits .or .u64 a (bits .xor .u64 IntKind.u64.max (pw k - 1))) = a := by
  have hp := pw_pos k
  have hl := pw_le k hk
  rw [not_u64 _ (by omega) (by omega), u64_or _ _ h0 (by omega) (by omega) (by omega), Nat.or_comm]
  have hd := pw_dvd k hk
  have ex : (18446744073709551615 - (pw k - 1)).toNat % 2 ^ k = 0 := by
    have h2 : ((18446744073709551615 - (pw k - 1)).toNat : Int) = 18446744073709551616 - pw k := by omega
    have h3 : (18446744073709551616 - pw k) % pw k = 0 := by
      rw [Int.sub_emod, Int.emod_self, Int.emod_eq_zero_of_dvd hd]
      simp
    rw [← h2] at h3
    have h4 : (((18446744073709551615 - (pw k - 1)).toNat % 2 ^ k : Nat) : Int) = 0 := by
      rw [Int.natCast_emod]
      exact h3
    omega
  have ey : a.toNat < 2 ^ k := by
    have : (a.toNat : Int) < ((2 ^ k : Nat) : Int) := by
      show (a.toNat : Int) < pw k
      omega
    omega
  rw [nat_join k _ _ ex ey]
  obtain ⟨q, hq⟩ := Nat.dvd_of_mod_eq_zero ex
  rw [hq]
  unfold cut
  have e5 : ((2 ^ k * q + a.toNat : Nat) : Int) = a + pw k * q := by
    have : ((2 ^ k * q : Nat) : Int) = pw k * q := Int.natCast_mul _ _
    omega
  rw [e5, Int.add_mul_emod_self_left, Int.emod_eq_of_lt h0 h1]
end Go.Proofs.YtmhpnkfibecnmaaDoor.M
