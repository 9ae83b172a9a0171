/-
  Plain mathematics for the values of terms: what a node makes of its parts' values stays a word or a truth.
-/
import Derived.Test.YtmhpnkfibecnmaaDoorDo
namespace Go.Proofs.YtmhpnkfibecnmaaDoor
open Go Go.RowKit
open M

/-- a leaf's value; a node's of one part; of two -/
def val0 (st : List Int) (x : Nd) : Int := if x.1 = 2 then st.getD x.2.toNat 0 else x.2
def val1 (k : Nat) (x : Nd) (v : Int) : Int := if x.1 = 13 then pw k - 1 - v else 1 - v
def val2 (k : Nat) (x : Nd) (a b : Int) : Int := doOp k x.1 a b
/-- a value of a kind -/
def ValOk (k : Nat) (e : Ent Int) : Prop := (e.kind = 1 ∧ 0 ≤ e.val ∧ e.val < pw k) ∨ (e.kind = 2 ∧ (e.val = 0 ∨ e.val = 1))
theorem ValOk.word {k : Nat} {e : Ent Int} (hk1 : 1 ≤ k) (h : ValOk k e) : 0 ≤ e.val ∧ e.val < pw k := by
  have h2 := pw_mono 1 k hk1
  rw [show pw 1 = 2 from rfl] at h2
  rcases h with ⟨_, h0, h1⟩ | ⟨_, h0⟩
  · exact ⟨h0, h1⟩
  · omega
theorem and_word (k : Nat) (hk : k ≤ 64) (a b : Int) (ha0 : 0 ≤ a) (ha : a < pw k) (hb0 : 0 ≤ b) (hb : b < pw k) : 0 ≤ bits .and .u64 a b ∧ bits .and .u64 a b < pw k := by
  have hl := pw_le k hk
  rw [u64_and a b ha0 (by omega) hb0 (by omega)]
  have h := @Nat.and_le_left a.toNat b.toNat
  omega
theorem or_word (k : Nat) (hk : k ≤ 64) (a b : Int) (ha0 : 0 ≤ a) (ha : a < pw k) (hb0 : 0 ≤ b) (hb : b < pw k) : 0 ≤ bits .or .u64 a b ∧ bits .or .u64 a b < pw k := by
  have hl := pw_le k hk
  rw [u64_or a b ha0 (by omega) hb0 (by omega)]
  have h1 : a.toNat < 2 ^ k := by
    have : (a.toNat : Int) < ((2 ^ k : Nat) : Int) := by show (a.toNat : Int) < pw k; omega
    omega
  have h2 : b.toNat < 2 ^ k := by
    have : (b.toNat : Int) < ((2 ^ k : Nat) : Int) := by show (b.toNat : Int) < pw k; omega
    omega
  have h := Nat.or_lt_two_pow h1 h2
  refine ⟨by omega, ?_⟩
  show ((a.toNat ||| b.toNat : Nat) : Int) < ((2 ^ k : Nat) : Int)
  exact Int.ofNat_lt.2 h
theorem xor_word (k : Nat) (hk : k ≤ 64) (a b : Int) (ha0 : 0 ≤ a) (ha : a < pw k) (hb0 : 0 ≤ b) (hb : b < pw k) : 0 ≤ bits .xor .u64 a b ∧ bits .xor .u64 a b < pw k := by
  have hl := pw_le k hk
  rw [u64_xor a b ha0 (by omega) hb0 (by omega)]
  have h1 : a.toNat < 2 ^ k := by
    have : (a.toNat : Int) < ((2 ^ k : Nat) : Int) := by show (a.toNat : Int) < pw k; omega
    omega
  have h2 : b.toNat < 2 ^ k := by
    have : (b.toNat : Int) < ((2 ^ k : Nat) : Int) := by show (b.toNat : Int) < pw k; omega
    omega
  have h := Nat.xor_lt_two_pow h1 h2
  refine ⟨by omega, ?_⟩
  show ((a.toNat ^^^ b.toNat : Nat) : Int) < ((2 ^ k : Nat) : Int)
  exact Int.ofNat_lt.2 h
theorem moved_word (k : Nat) (a b : Int) (l : Bool) (ha0 : 0 ≤ a) (ha : a < pw k) : 0 ≤ moved k a b l ∧ moved k a b l < pw k := by
  have hp := pw_pos k
  unfold moved
  split
  · omega
  · split
    · exact ⟨cut_lo _ _, cut_hi _ _⟩
    · have := shr_bd b.toNat a ha0
      omega
theorem doOp_word (k : Nat) (hk : k ≤ 64) (op a b : Int) (hop : 3 ≤ op ∧ op ≤ 12) (ha0 : 0 ≤ a) (ha : a < pw k) (hb0 : 0 ≤ b) (hb : b < pw k) : 0 ≤ doOp k op a b ∧ doOp k op a b < pw k := by
  have hp := pw_pos k
  rcases (show op = 3 ∨ op = 4 ∨ op = 5 ∨ op = 6 ∨ op = 7 ∨ op = 8 ∨ op = 9 ∨ op = 10 ∨ op = 11 ∨ op = 12 by omega) with rfl | rfl | rfl | rfl | rfl | rfl | rfl | rfl | rfl | rfl
  · exact ⟨cut_lo _ _, cut_hi _ _⟩
  · exact ⟨cut_lo _ _, cut_hi _ _⟩
  · exact ⟨cut_lo _ _, cut_hi _ _⟩
  · show 0 ≤ quotOf k a b ∧ quotOf k a b < pw k
    unfold quotOf
    split
    · omega
    · exact div_good k a b ha0 ha (by omega)
  · show 0 ≤ remOf a b ∧ remOf a b < pw k
    unfold remOf
    split
    · omega
    · have h0 := Int.emod_nonneg a (show b ≠ 0 by omega)
      have h1 := Int.emod_lt_of_pos a (show 0 < b by omega)
      omega
  · exact and_word k hk a b ha0 ha hb0 hb
  · exact or_word k hk a b ha0 ha hb0 hb
  · exact xor_word k hk a b ha0 ha hb0 hb
  · exact moved_word k a b true ha0 ha
  · exact moved_word k a b false ha0 ha
theorem doOp_cond (k : Nat) (op a b : Int) (hop : 14 ≤ op ∧ op ≤ 16) : doOp k op a b = 0 ∨ doOp k op a b = 1 := by
  rcases (show op = 14 ∨ op = 15 ∨ op = 16 by omega) with rfl | rfl | rfl
  · show (if a = b then (1 : Int) else 0) = 0 ∨ (if a = b then (1 : Int) else 0) = 1
    split
    · exact Or.inr rfl
    · exact Or.inl rfl
  · show (if a < b then (1 : Int) else 0) = 0 ∨ (if a < b then (1 : Int) else 0) = 1
    split
    · exact Or.inr rfl
    · exact Or.inl rfl
  · show (if sgn k a < sgn k b then (1 : Int) else 0) = 0 ∨ (if sgn k a < sgn k b then (1 : Int) else 0) = 1
    split
    · exact Or.inr rfl
    · exact Or.inl rfl
theorem doOp_both (k : Nat) (op a b : Int) (hop : op = 17 ∨ op = 18) (ha : a = 0 ∨ a = 1) (hb : b = 0 ∨ b = 1) : doOp k op a b = 0 ∨ doOp k op a b = 1 := by
  rcases hop with rfl | rfl <;> rcases ha with rfl | rfl <;> rcases hb with rfl | rfl
  all_goals first | exact Or.inl rfl | exact Or.inr rfl
/-- every tree's value is a word or a truth -/
theorem tree_ok {k : Nat} (hk1 : 1 ≤ k) (hk : k ≤ 64) {vars : Int} {st : List Int} {t : List Nd} (hok : ∀ x ∈ t, 0 ≤ x.2) (hst : ∀ s ∈ st, 0 ≤ s ∧ s < pw k) :
    ∀ (n j : Nat), j ≤ n → ∀ (e : Ent Int), TreeAt k vars (val0 st) (val1 k) (val2 k) t j e → (∀ (i : Nat) (m : Int), e.at0 ≤ i → i ≤ j → t[i]? = some (2, m) → m.toNat < st.length) → ValOk k e
  | n, j, hj, e, ht, hv => by
    have hpw := pw_mono 1 k hk1
    rw [show pw 1 = 2 from rfl] at hpw
    obtain ⟨⟨op, m⟩, hx, n1, n2, hcase⟩ := tree_cases ht
    have hm0 := hok (op, m) (List.mem_of_getElem? hx)
    simp only at hcase n1 n2 hm0
    rcases hcase with ⟨m0, rfl⟩ | ⟨m1, hj1, d, hd, hdk, hdj, rfl⟩ | ⟨m2, hj1, d, c, hd, hdk, hd1, hdj, hc, hck, hcd, rfl⟩
    · have hop : op = 1 ∨ op = 2 ∨ op = 20 := by
        unfold manyOf at m0
        unfold ownOf at n1
        split at m0
        · omega
        · split at m0
          · omega
          · split at n1
            · omega
            · split at n1 <;> omega
      rcases hop with rfl | rfl | rfl
      · left
        obtain ⟨k', e1, _, _, h3⟩ := goodB_true (show goodB k m = true from n2)
        obtain rfl : k = k' := by omega
        exact ⟨rfl, hm0, h3⟩
      · left
        have hlt := hv j m (Nat.le_refl _) (Nat.le_refl _) hx
        have hmem : st.getD m.toNat 0 ∈ st := by
          rw [List.getD_eq_getElem?_getD, List.getElem?_eq_getElem hlt]
          exact List.getElem_mem hlt
        exact ⟨rfl, (hst _ hmem).1, (hst _ hmem).2⟩
      · right
        have h2 : m < 2 := of_decide_eq_true (show decide (m < 2) = true from n2)
        exact ⟨rfl, by show m = 0 ∨ m = 1; omega⟩
    · match n, hj with
      | 0, hj => omega
      | n' + 1, hj =>
        have ih := tree_ok hk1 hk hok hst n' (j - 1) (by omega) d hd (fun i q h0 h1 h2 => hv i q h0 (by omega) h2)
        have hop : op = 13 ∨ op = 19 := by
          unfold manyOf at m1
          split at m1
          · assumption
          · split at m1 <;> omega
        rcases hop with rfl | rfl
        · rcases ih with ⟨_, h0, h1⟩ | ⟨hk2, _⟩
          · exact Or.inl ⟨rfl, by show 0 ≤ pw k - 1 - d.val; omega, by show pw k - 1 - d.val < pw k; omega⟩
          · rw [hk2] at hdk
            cases hdk
        · rcases ih with ⟨hk2, _⟩ | ⟨_, h0⟩
          · rw [hk2] at hdk
            cases hdk
          · exact Or.inr ⟨rfl, by show 1 - d.val = 0 ∨ 1 - d.val = 1; omega⟩
    · match n, hj with
      | 0, hj => omega
      | n' + 1, hj =>
        have ih1 := tree_ok hk1 hk hok hst n' (j - 1) (by omega) d hd (fun i q h0 h1 h2 => hv i q (by simp only; omega) (by omega) h2)
        have ih2 := tree_ok hk1 hk hok hst n' (d.at0 - 1) (by omega) c hc (fun i q h0 h1 h2 => hv i q h0 (by omega) h2)
        have hop : (3 ≤ op ∧ op ≤ 12) ∨ (14 ≤ op ∧ op ≤ 16) ∨ (op = 17 ∨ op = 18) := by
          unfold manyOf at m2
          split at m2
          · cases m2
          · split at m2 <;> omega
        have w1 := ih1.word hk1
        have w2 := ih2.word hk1
        rcases hop with hop | hop | hop
        · left
          have h := doOp_word k hk op c.val d.val hop w2.1 w2.2 w1.1 w1.2
          exact ⟨by show ownOf op = 1; unfold ownOf; rw [if_pos (by omega)], h.1, h.2⟩
        · right
          exact ⟨by show ownOf op = 2; unfold ownOf; rw [if_neg (by omega), if_pos (by omega)], doOp_cond k op c.val d.val hop⟩
        · right
          have hp2 : partOf op = 2 := by
            unfold partOf
            rw [if_neg (by omega), if_pos (by omega)]
          rw [hp2] at hdk hck
          have v1 : d.val = 0 ∨ d.val = 1 := by
            rcases ih1 with ⟨h, _⟩ | ⟨_, h⟩
            · rw [h] at hdk
              cases hdk
            · exact h
          have v2 : c.val = 0 ∨ c.val = 1 := by
            rcases ih2 with ⟨h, _⟩ | ⟨_, h⟩
            · rw [h] at hck
              cases hck
            · exact h
          exact ⟨by show ownOf op = 2; unfold ownOf; rw [if_neg (by omega), if_pos (by omega)], doOp_both k op c.val d.val hop v2 v1⟩
end Go.Proofs.YtmhpnkfibecnmaaDoor
