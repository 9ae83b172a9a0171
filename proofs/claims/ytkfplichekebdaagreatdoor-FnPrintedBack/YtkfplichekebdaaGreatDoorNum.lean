/-
  Plain mathematics for numbers as texts: decimal digits, and what is read from them. No program stands in it.
-/
import Derived.Test.YtkfplichekebdaaGreatDoorTree
namespace Go.Proofs.YtkfplichekebdaaGreatDoor.M
open Go
set_option linter.unusedVariables false

/-- a text: its bytes -/
abbrev Tx := List UInt8
/-- the digit of a number below ten -/
def dig (n : Nat) : UInt8 := UInt8.ofNat (48 + n)
/-- a byte is a digit, a small letter -/
def isDig (b : UInt8) : Bool := decide (48 ≤ b.toNat) && decide (b.toNat ≤ 57)
def isLet (b : UInt8) : Bool := decide (97 ≤ b.toNat) && decide (b.toNat ≤ 122)
/-- the decimal digits of a number -/
def numL (n : Nat) : Tx := if h : n < 10 then [dig n] else numL (n / 10) ++ [dig (n % 10)]
termination_by n
decreasing_by omega
theorem dig_nat {n : Nat} (h : n < 10) : (dig n).toNat = 48 + n := by
  unfold dig
  rw [UInt8.toNat_ofNat']
  omega
theorem numL_small {n : Nat} (h : n < 10) : numL n = [dig n] := by
  rw [numL, dif_pos h]
theorem numL_big {n : Nat} (h : 10 ≤ n) : numL n = numL (n / 10) ++ [dig (n % 10)] := by
  rw [numL, dif_neg (by omega)]
theorem numL_ind {P : Nat → Prop} (h0 : ∀ n, n < 10 → P n) (h1 : ∀ n, 10 ≤ n → P (n / 10) → P n) : ∀ n, P n := by
  intro n
  induction n using Nat.strongRecOn with
  | ind n ih =>
    by_cases h : n < 10
    · exact h0 n h
    · exact h1 n (by omega) (ih _ (by omega))
theorem numL_pos (n : Nat) : 1 ≤ (numL n).length := by
  by_cases h : n < 10
  · rw [numL_small h]; simp
  · rw [numL_big (by omega)]; simp
theorem dig_isDig {n : Nat} (h : n < 10) : isDig (dig n) = true := by
  unfold isDig
  rw [dig_nat h]
  simp
  omega
theorem numL_digits (n : Nat) : ∀ b ∈ numL n, isDig b = true := by
  refine numL_ind (P := fun n => ∀ b ∈ numL n, isDig b = true) ?_ ?_ n
  · intro n h b hb
    rw [numL_small h] at hb
    simp at hb
    subst hb
    exact dig_isDig h
  · intro n h ih b hb
    rw [numL_big h] at hb
    rcases List.mem_append.1 hb with hb | hb
    · exact ih b hb
    · simp at hb
      subst hb
      exact dig_isDig (by omega)
/-- what digits come to, modulo 2 to the 64 -/
def stepD (a : Nat) (b : UInt8) : Nat := (10 * a + (b.toNat - 48)) % 18446744073709551616
def foldD (l : Tx) : Nat := l.foldl stepD 0
theorem foldD_snoc (l : Tx) (b : UInt8) : foldD (l ++ [b]) = stepD (foldD l) b := by
  unfold foldD
  rw [List.foldl_append]
  rfl
theorem foldD_num (n : Nat) : n < 18446744073709551616 → foldD (numL n) = n := by
  refine numL_ind (P := fun n => n < 18446744073709551616 → foldD (numL n) = n) ?_ ?_ n
  · intro n h _
    rw [numL_small h]
    show stepD 0 (dig n) = n
    unfold stepD
    rw [dig_nat h]
    omega
  · intro n h ih hn
    rw [numL_big h, foldD_snoc, ih (by omega)]
    unfold stepD
    rw [dig_nat (by omega)]
    omega
theorem foldD_lt (l : Tx) : foldD l < 18446744073709551616 := by
  rcases List.eq_nil_or_concat l with rfl | ⟨l', b, rfl⟩
  · decide
  · rw [List.concat_eq_append, foldD_snoc]
    unfold stepD
    omega
theorem numL_len (d : Nat) : ∀ n, n < 10 ^ (d + 1) → (numL n).length ≤ d + 1 := by
  induction d with
  | zero => intro n h; rw [numL_small (by simpa using h)]; simp
  | succ d ih =>
    intro n h
    by_cases hs : n < 10
    · rw [numL_small hs]; simp
    · rw [numL_big (by omega)]
      have := ih (n / 10) (by rw [Nat.pow_succ] at h; omega)
      simp
      omega
theorem numL_len20 {n : Nat} (h : n < 18446744073709551616) : (numL n).length ≤ 20 := numL_len 19 n (by omega)
theorem numL_inj {a b : Nat} (ha : a < 18446744073709551616) (hb : b < 18446744073709551616) (h : numL a = numL b) : a = b := by
  rw [← foldD_num a ha, h, foldD_num b hb]
/-- a text of which it is the number -/
def isNum (l : Tx) : Bool := decide (1 ≤ l.length) && (decide (l.length ≤ 20) && (l.all isDig && decide (numL (foldD l) = l)))
def readN (l : Tx) : Nat := if isNum l = true then foldD l else 0
theorem isNum_num {n : Nat} (h : n < 18446744073709551616) : isNum (numL n) = true := by
  unfold isNum
  rw [foldD_num n h]
  have h1 := numL_pos n
  have h2 := numL_len20 h
  have h3 : (numL n).all isDig = true := List.all_eq_true.2 (numL_digits n)
  simp [h1, h2, h3]
theorem readN_num {n : Nat} (h : n < 18446744073709551616) : readN (numL n) = n := by
  unfold readN
  rw [if_pos (isNum_num h), foldD_num n h]
theorem isNum_iff {l : Tx} : isNum l = true ↔ ∃ n, n < 18446744073709551616 ∧ numL n = l := by
  constructor
  · intro h
    unfold isNum at h
    simp only [Bool.and_eq_true, decide_eq_true_eq] at h
    exact ⟨foldD l, foldD_lt l, h.2.2.2⟩
  · rintro ⟨n, hn, rfl⟩
    exact isNum_num hn
theorem readN_lt (l : Tx) : readN l < 18446744073709551616 := by
  unfold readN
  split
  · exact foldD_lt l
  · decide
theorem numL_read {l : Tx} (h : isNum l = true) : numL (readN l) = l := by
  obtain ⟨n, hn, rfl⟩ := isNum_iff.1 h
  rw [readN_num hn]
theorem isLet_nat {b : UInt8} (h : isLet b = true) : 97 ≤ b.toNat ∧ b.toNat ≤ 122 := by
  unfold isLet at h
  simpa using h
theorem isDig_nat {b : UInt8} (h : isDig b = true) : 48 ≤ b.toNat ∧ b.toNat ≤ 57 := by
  unfold isDig at h
  simpa using h
theorem isDig_not {b : UInt8} (h : isDig b = false) : b.toNat < 48 ∨ 57 < b.toNat := by
  unfold isDig at h
  simp at h
  omega
theorem isLet_not {b : UInt8} (h : isLet b = false) : b.toNat < 97 ∨ 122 < b.toNat := by
  unfold isLet at h
  simp at h
  omega
end Go.Proofs.YtkfplichekebdaaGreatDoor.M
