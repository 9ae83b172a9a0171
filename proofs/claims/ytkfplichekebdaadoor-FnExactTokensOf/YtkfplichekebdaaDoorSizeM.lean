/-
  Plain mathematics: how long the token at the front of a text is, by its sorts. No program stands in it.
-/
import Derived.Test.YtkfplichekebdaaDoorISign
namespace Go.Proofs.YtkfplichekebdaaDoor
open Go Go.RowKit
open M
set_option linter.unusedVariables false

theorem signMax_bound (s : Tx) (n : Nat) : ∀ j, (∀ k, k < j → (signN k).isPrefixOf s = true → (signN k).length ≤ n) → signMax s j ≤ n
  | 0, _ => by simp [signMax]
  | j + 1, h => by
    have ih := signMax_bound s n j (fun k hk hp => h k (by omega) hp)
    simp only [signMax]
    split
    · rename_i hp
      have := h j (by omega) hp
      omega
    · exact ih
theorem signMax_ge (s : Tx) : ∀ j k, k < j → (signN k).isPrefixOf s = true → (signN k).length ≤ signMax s j
  | 0, k, hk, _ => by omega
  | j + 1, k, hk, hp => by
    simp only [signMax]
    by_cases e : k = j
    · subst e
      rw [if_pos hp]
      omega
    · have ih := signMax_ge s j k (by omega) hp
      split <;> omega
theorem isSign_ex {l : Tx} (h : isSign l = true) : ∃ k, k < 21 ∧ signN k = l := by
  unfold isSign at h
  obtain ⟨i, hi, he⟩ := List.any_eq_true.1 h
  rw [List.mem_range] at hi
  exact ⟨i + 3, by omega, of_decide_eq_true he⟩
theorem isSign_of {l : Tx} {k : Nat} (hk : k < 21) (hl : 1 ≤ l.length) (h : signN k = l) : isSign l = true := by
  unfold isSign
  rw [List.any_eq_true]
  have h3 : 3 ≤ k ∧ k ≤ 19 := by
    subst h
    match k, hk, hl with
    | 0, _, hl => simp [signN] at hl
    | 1, _, hl => simp [signN] at hl
    | 2, _, hl => simp [signN] at hl
    | 20, _, hl => simp [signN] at hl
    | 3, _, _ | 4, _, _ | 5, _, _ | 6, _, _ | 7, _, _ | 8, _, _ | 9, _, _ | 10, _, _ | 11, _, _ | 12, _, _ | 13, _, _ | 14, _, _ | 15, _, _ | 16, _, _ | 17, _, _ | 18, _, _ | 19, _, _ => omega
    | n + 21, hk, _ => omega
  exact ⟨k - 3, List.mem_range.2 (by omega), decide_eq_true (by rw [show k - 3 + 3 = k from by omega]; exact h)⟩
theorem prefix_take {l s : Tx} (h : l.isPrefixOf s = true) : s.take l.length = l ∧ l.length ≤ s.length := by
  obtain ⟨t, rfl⟩ := List.isPrefixOf_iff_prefix.1 h
  simp
theorem take_prefix (s : Tx) (n : Nat) : (s.take n).isPrefixOf s = true := List.isPrefixOf_iff_prefix.2 (List.take_prefix n s)
/-- the longest sign at the front -/
theorem signMax_eq (s : Tx) : signMax s 21 = if 2 ≤ s.length ∧ isSign (s.take 2) = true then 2 else if 1 ≤ s.length ∧ isSign (s.take 1) = true then 1 else 0 := by
  have hle := signMax_le s 21
  split
  · rename_i h
    obtain ⟨k, hk, he⟩ := isSign_ex h.2
    have hp : (signN k).isPrefixOf s = true := by rw [he]; exact take_prefix s 2
    have := signMax_ge s 21 k hk hp
    rw [he, List.length_take] at this
    omega
  · rename_i h2
    have hno2 : ∀ k, k < 21 → (signN k).isPrefixOf s = true → (signN k).length ≤ 1 := by
      intro k hk hp
      have hl := signN_len k
      by_cases e : (signN k).length = 2
      · exfalso
        obtain ⟨t1, t2⟩ := prefix_take hp
        rw [e] at t1 t2
        exact h2 ⟨t2, by rw [t1]; exact isSign_of hk (by omega) rfl⟩
      · omega
    have hle1 := signMax_bound s 1 21 hno2
    split
    · rename_i h
      obtain ⟨k, hk, he⟩ := isSign_ex h.2
      have hp : (signN k).isPrefixOf s = true := by rw [he]; exact take_prefix s 1
      have := signMax_ge s 21 k hk hp
      rw [he, List.length_take] at this
      omega
    · rename_i h1
      have := signMax_bound s 0 21 (fun k hk hp => by
        have hl := hno2 k hk hp
        by_cases e : (signN k).length = 1
        · exfalso
          obtain ⟨t1, t2⟩ := prefix_take hp
          rw [e] at t1 t2
          exact h1 ⟨t2, by rw [t1]; exact isSign_of hk (by omega) rfl⟩
        · omega)
      omega
theorem sign_head {k : Nat} {a : UInt8} {l : Tx} (h : signN k = a :: l) : isDig a = false ∧ isLet a = false := by
  unfold signN at h
  split at h <;> first | (cases h; exact ⟨by decide, by decide⟩) | cases h
theorem isSign_head {a : UInt8} {l : Tx} (h : isSign (a :: l) = true) : isDig a = false ∧ isLet a = false := by
  obtain ⟨k, _, he⟩ := isSign_ex h
  exact sign_head he
theorem runs_zero {p : UInt8 → Bool} {c : UInt8} {r : Tx} (h : p c = false) : ((c :: r).takeWhile p).length = 0 := by simp [h]
theorem runs_pos {p : UInt8 → Bool} {c : UInt8} {r : Tx} (h : p c = true) : 0 < ((c :: r).takeWhile p).length := by simp [h]
def brack (s : Tx) : Nat := if [40].isPrefixOf s || [41].isPrefixOf s then 1 else 0
theorem brack_cons (c : UInt8) (r : Tx) : brack (c :: r) = if c = 40 ∨ c = 41 then 1 else 0 := by
  unfold brack
  by_cases h1 : c = 40
  · subst h1; simp [List.isPrefixOf]
  · by_cases h2 : c = 41
    · subst h2; simp [List.isPrefixOf]
    · simp [List.isPrefixOf, h1, h2]
      refine ⟨fun h => h1 h.symm, fun h => h2 h.symm⟩
theorem longL_sorts (s : Tx) : longL s = max (max (max (s.takeWhile isDig).length (s.takeWhile isLet).length) (signMax s 21)) (brack s) := by
  match s with
  | [] => decide
  | c :: r =>
    rw [signMax_eq, brack_cons]
    unfold longL
    have h2 : ∀ n, 1 ≤ n → (c :: r).take n = c :: r.take (n - 1) := by
      intro n hn
      obtain ⟨m, rfl⟩ : ∃ m, n = m + 1 := ⟨n - 1, by omega⟩
      rfl
    by_cases hd : isDig c = true
    · have hpos := runs_pos (r := r) hd
      have hb := isDig_nat hd
      have hl : isLet c = false := by
        cases h : isLet c with
        | false => rfl
        | true => have := isLet_nat h; omega
      have s2 : ¬ (2 ≤ (c :: r).length ∧ isSign ((c :: r).take 2) = true) := by
        rintro ⟨_, h⟩
        rw [h2 2 (by omega)] at h
        rw [(isSign_head h).1] at hd
        cases hd
      have s1 : ¬ (1 ≤ (c :: r).length ∧ isSign ((c :: r).take 1) = true) := by
        rintro ⟨_, h⟩
        rw [h2 1 (by omega)] at h
        rw [(isSign_head h).1] at hd
        cases hd
      have nb : ¬ (c = 40 ∨ c = 41) := by
        rintro (rfl | rfl) <;> simp at hb
      rw [if_pos hpos, if_neg s2, if_neg s1, if_neg nb, runs_zero hl]
      omega
    · have hd' : isDig c = false := by simpa using hd
      rw [if_neg (by rw [runs_zero hd']; omega), runs_zero hd']
      by_cases hl : isLet c = true
      · have hpos := runs_pos (r := r) hl
        have hb := isLet_nat hl
        have s2 : ¬ (2 ≤ (c :: r).length ∧ isSign ((c :: r).take 2) = true) := by
          rintro ⟨_, h⟩
          rw [h2 2 (by omega)] at h
          rw [(isSign_head h).2] at hl
          cases hl
        have s1 : ¬ (1 ≤ (c :: r).length ∧ isSign ((c :: r).take 1) = true) := by
          rintro ⟨_, h⟩
          rw [h2 1 (by omega)] at h
          rw [(isSign_head h).2] at hl
          cases hl
        have nb : ¬ (c = 40 ∨ c = 41) := by
          rintro (rfl | rfl) <;> simp at hb
        rw [if_pos hpos, if_neg s2, if_neg s1, if_neg nb]
        omega
      · have hl' : isLet c = false := by simpa using hl
        rw [if_neg (by rw [runs_zero hl']; omega), runs_zero hl']
        by_cases s2 : 2 ≤ (c :: r).length ∧ isSign ((c :: r).take 2) = true
        · rw [if_pos s2, if_pos s2]
          split <;> omega
        · rw [if_neg s2, if_neg s2]
          have e1 : (c :: r).take 1 = [c] := rfl
          have n1 : 1 ≤ (c :: r).length := by simp
          rw [e1]
          by_cases s1 : isSign [c] = true
          · rw [if_pos ⟨n1, Or.inr (Or.inr s1)⟩, if_pos ⟨n1, s1⟩]
            split <;> omega
          · rw [if_neg (c := 1 ≤ (c :: r).length ∧ isSign [c] = true) (fun h => s1 h.2)]
            by_cases nb : c = 40 ∨ c = 41
            · rw [if_pos (c := c = 40 ∨ c = 41) nb, if_pos ⟨n1, by rcases nb with rfl | rfl <;> simp⟩]
              omega
            · rw [if_neg (c := c = 40 ∨ c = 41) nb, if_neg (by
                rintro ⟨_, h | h | h⟩
                · exact nb (Or.inl (by simpa using h))
                · exact nb (Or.inr (by simpa using h))
                · exact s1 h)]
              omega
end Go.Proofs.YtkfplichekebdaaDoor
