/-
  Plain mathematics for terms as texts: a tree is read back from its text, and what is read is the text of what is read. No program stands in it.
-/
import Derived.Test.YtkfplichekebdaaGreatDoorText
namespace Go.Proofs.YtkfplichekebdaaGreatDoor.M
open Go
set_option linter.unusedVariables false

/-- the texts of tokens, one behind the other -/
def joinT : List Tok → Tx
  | [] => []
  | x :: l => x.2 ++ joinT l
theorem joinT_append : ∀ l m : List Tok, joinT (l ++ m) = joinT l ++ joinT m
  | [], m => rfl
  | x :: l, m => by
    rw [List.cons_append]
    simp only [joinT]
    rw [joinT_append l m, List.append_assoc]
theorem opOf_cases {l : Tx} (h : ¬ opOf l = 0) : ∃ k, (3 ≤ k ∧ k ≤ 18) ∧ k ≠ 13 ∧ opOf l = k ∧ signN k = l := by
  by_cases e3 : l = [43]
  · subst e3
    exact ⟨3, by decide, by decide, by decide, by decide⟩
  by_cases e4 : l = [45]
  · subst e4
    exact ⟨4, by decide, by decide, by decide, by decide⟩
  by_cases e5 : l = [42]
  · subst e5
    exact ⟨5, by decide, by decide, by decide, by decide⟩
  by_cases e6 : l = [47]
  · subst e6
    exact ⟨6, by decide, by decide, by decide, by decide⟩
  by_cases e7 : l = [37]
  · subst e7
    exact ⟨7, by decide, by decide, by decide, by decide⟩
  by_cases e8 : l = [38]
  · subst e8
    exact ⟨8, by decide, by decide, by decide, by decide⟩
  by_cases e9 : l = [124]
  · subst e9
    exact ⟨9, by decide, by decide, by decide, by decide⟩
  by_cases e10 : l = [94]
  · subst e10
    exact ⟨10, by decide, by decide, by decide, by decide⟩
  by_cases e11 : l = [60, 60]
  · subst e11
    exact ⟨11, by decide, by decide, by decide, by decide⟩
  by_cases e12 : l = [62, 62]
  · subst e12
    exact ⟨12, by decide, by decide, by decide, by decide⟩
  by_cases e14 : l = [61, 61]
  · subst e14
    exact ⟨14, by decide, by decide, by decide, by decide⟩
  by_cases e15 : l = [60]
  · subst e15
    exact ⟨15, by decide, by decide, by decide, by decide⟩
  by_cases e16 : l = [60, 45]
  · subst e16
    exact ⟨16, by decide, by decide, by decide, by decide⟩
  by_cases e17 : l = [38, 38]
  · subst e17
    exact ⟨17, by decide, by decide, by decide, by decide⟩
  by_cases e18 : l = [124, 124]
  · subst e18
    exact ⟨18, by decide, by decide, by decide, by decide⟩
  refine absurd ?_ h
  unfold opOf
  rw [if_neg e3, if_neg e4, if_neg e5, if_neg e6, if_neg e7, if_neg e8, if_neg e9, if_neg e10, if_neg e11, if_neg e12, if_neg e14, if_neg e15, if_neg e16, if_neg e17, if_neg e18]
theorem op_two : ∀ k : Nat, (3 ≤ k ∧ k ≤ 18) → k ≠ 13 → manyOf k = 2 ∧ ¬ ownOf k = 0 ∧ okN 0 0 k 0 = true := by
  intro k h1 h2
  refine ⟨?_, ?_, ?_⟩
  · unfold manyOf
    rw [if_neg (by omega), if_pos (by omega)]
  · unfold ownOf
    split
    · decide
    · rw [if_pos (by omega)]
      decide
  · unfold okN
    rw [if_neg (by omega), if_neg (by omega), if_neg (by omega)]
    rfl
theorem opOf_sign {l : Tx} (h : ¬ opOf l = 0) : signN (opOf l) = l ∧ manyOf (opOf l) = 2 ∧ ¬ ownOf (opOf l) = 0 ∧ okN 0 0 (opOf l) 0 = true := by
  obtain ⟨k, h1, h2, h3, h4⟩ := opOf_cases h
  rw [h3]
  exact ⟨h4, op_two k h1 h2⟩
theorem opOne_sign {l : Tx} (h : l = [126] ∨ l = [33]) : signN (opOne l) = l ∧ manyOf (opOne l) = 1 ∧ ¬ ownOf (opOne l) = 0 ∧ okN 0 0 (opOne l) 0 = true := by
  rcases h with rfl | rfl <;> simp [opOne, signN, manyOf, ownOf, okN]
theorem okN_zero {wide vars op : Int} (h : okN 0 0 op 0 = true) (h1 : op ≠ 1) (h2 : op ≠ 2) (h3 : op ≠ 20) : okN wide vars op 0 = true := by
  unfold okN
  simp [h1, h2, h3]
theorem opOf_range {l : Tx} (h : ¬ opOf l = 0) : 3 ≤ opOf l ∧ opOf l ≤ 18 := by
  obtain ⟨k, h1, h2, h3, h4⟩ := opOf_cases h
  rw [h3]
  exact h1
theorem byte_of {b : UInt8} {n : Nat} (h : b.toNat = n) : b = UInt8.ofNat n := by
  rw [← h]
  simp
/-- a leaf that is read has the token's text -/
theorem leafRd_text {wide vars : Int} {l : Tx} {x : Nd} (hv : vars ≤ 4) (h : leafRd wide vars l = .ok x) (hl : isLeaf l = true) :
    leafL x = l ∧ ¬ ownOf x.1 = 0 ∧ okN wide vars x.1 x.2 = true ∧ manyOf x.1 = 0 ∧ 0 ≤ x.2 ∧ x.2 < 18446744073709551616 := by
  match l, h, hl with
  | [], h, hl => cases hl
  | c :: r, h, hl =>
    simp only [leafRd] at h
    split at h
    · split at h
      · rename_i hn
        simp only [Except.ok.injEq] at h
        subst h
        have hlt := readN_lt (c :: r)
        refine ⟨?_, by simp [ownOf], ?_, by simp [manyOf], by omega, by omega⟩
        · simp only [leafL]
          rw [if_neg (by decide), if_neg (by decide)]
          rw [Int.toNat_natCast]
          exact numL_read hn.1
        · simp only [okN]
          rw [if_pos trivial]
          exact hn.2
      · cases h
    · rename_i hd
      split at h
      · rename_i hy
        simp only [Except.ok.injEq] at h
        subst h
        exact ⟨by simp [leafL, hy], by simp [ownOf], by simp [okN], by simp [manyOf], by omega, by omega⟩
      · split at h
        · rename_i hy
          simp only [Except.ok.injEq] at h
          subst h
          exact ⟨by simp [leafL, hy], by simp [ownOf], by simp [okN], by simp [manyOf], by omega, by omega⟩
        · split at h
          · rename_i hn
            simp only [Except.ok.injEq] at h
            subst h
            have hc : isLet c = true := by
              simp only [isLeaf, Bool.or_eq_true] at hl
              rcases hl with hl | hl
              · exact absurd hl hd
              · exact hl
            have hb := isLet_nat hc
            have hr : r = [] := List.length_eq_zero_iff.1 (by have := hn.1; simp at this; simpa using this)
            subst hr
            refine ⟨?_, by simp [ownOf], ?_, by simp [manyOf], by omega, by omega⟩
            · simp only [leafL, nameL]
              rw [if_pos trivial, Int.toNat_natCast, show 97 + (c.toNat - 97) = c.toNat from by omega]
              simp
            · simp only [okN]
              rw [if_neg (by decide), if_pos trivial]
              exact decide_eq_true hn.2
          · cases h
/-- what is read from tokens is a good tree of their texts -/
theorem readT_ok {wide vars : Int} {long : Nat} (hv : vars ≤ 4) : ∀ (f : Nat) (l : List Tok) (t : Tr) (r : List Tok), readT wide vars long f l = .ok (t, r) →
    trText t ++ joinT r = joinT l ∧ t.Ok wide vars ∧ Wd t
  | 0, _, _, _, h => by cases h
  | _ + 1, [], _, _, h => by cases h
  | f + 1, x :: q, t, r, h => by
    simp only [readT] at h
    split at h
    · rename_i hlf
      split at h
      · cases h
      · rename_i nd e
        simp only [Except.ok.injEq, Prod.mk.injEq] at h
        obtain ⟨rfl, rfl⟩ := h
        obtain ⟨h1, h2, h3, h4, h5, h6⟩ := leafRd_text hv e hlf
        exact ⟨by simp only [trText, joinT]; rw [h1], ⟨h2, h3, h4⟩, h5, h6⟩
    · split at h
      · rename_i hs
        obtain ⟨s1, s2, s3, s4⟩ := opOne_sign hs
        split at h
        · cases h
        · rename_i e
          obtain ⟨i1, i2, i3⟩ := readT_ok hv f _ _ _ e
          split at h
          · rename_i hk
            simp only [Except.ok.injEq, Prod.mk.injEq] at h
            obtain ⟨rfl, rfl⟩ := h
            have hop : (opOne x.2 : Int) ≠ 1 ∧ (opOne x.2 : Int) ≠ 2 ∧ (opOne x.2 : Int) ≠ 20 := by
              unfold opOne
              split <;> exact ⟨by decide, by decide, by decide⟩
            refine ⟨?_, ⟨s3, okN_zero s4 hop.1 hop.2.1 hop.2.2, s2, hk, i2⟩, i3⟩
            simp only [trText, joinT, signL]
            rw [Int.toNat_natCast, s1, List.append_assoc, i1]
          · cases h
      · split at h
        · cases h
        · rename_i hp
          have hp' : x.2 = [40] := Decidable.not_not.1 hp
          split at h
          · cases h
          · cases h
          · rename_i e
            obtain ⟨i1, i2, i3⟩ := readT_ok hv f _ _ _ e
            split at h
            · cases h
            · rename_i hop
              obtain ⟨s1, s2, s3, s4⟩ := opOf_sign hop
              have hrg := opOf_range hop
              split at h
              · cases h
              · cases h
              · rename_i e2
                obtain ⟨j1, j2, j3⟩ := readT_ok hv f _ _ _ e2
                split at h
                · cases h
                · rename_i hz
                  have hz' := Decidable.not_not.1 hz
                  split at h
                  · rename_i hk
                    simp only [Except.ok.injEq, Prod.mk.injEq] at h
                    obtain ⟨rfl, rfl⟩ := h
                    refine ⟨?_, ⟨s3, okN_zero s4 (by omega) (by omega) (by omega), s2, hk.1, hk.2, i2, j2⟩, i3, j3⟩
                    simp only [trText, signL, joinT] at i1 j1 ⊢
                    rw [Int.toNat_natCast, s1, hp', ← i1, ← j1, hz']
                    simp only [List.append_assoc]
                  · cases h
/-- a fault that is met has a code and a place in the text -/
theorem readT_fault {wide vars : Int} {long : Nat} : ∀ (f : Nat) (l : List Tok) (e : Nat × Nat), (∀ x ∈ l, x.1 ≤ long) → readT wide vars long f l = .error e → (3 ≤ e.1 ∧ e.1 ≤ 6) ∧ e.2 ≤ long
  | 0, _, _, _, h => by
    simp only [readT, Except.error.injEq] at h
    subst h
    exact ⟨⟨by simp, by simp⟩, by simp⟩
  | _ + 1, [], _, _, h => by
    simp only [readT, Except.error.injEq] at h
    subst h
    exact ⟨⟨by simp, by simp⟩, by simp⟩
  | f + 1, x :: q, e, hp, h => by
    have hx := hp x (by simp)
    have hq : ∀ y ∈ q, y.1 ≤ long := fun y hy => hp y (by simp [hy])
    simp only [readT] at h
    split at h
    · split at h
      · rename_i c ec
        simp only [Except.error.injEq] at h
        subst h
        refine ⟨?_, hx⟩
        show 3 ≤ c ∧ c ≤ 6
        unfold leafRd at ec
        repeat' split at ec
        all_goals first
          | (cases ec; done)
          | (simp only [Except.error.injEq] at ec; omega)
      · cases h
    · split at h
      · split at h
        · rename_i e1
          simp only [Except.error.injEq] at h
          subst h
          exact readT_fault f _ _ hq e1
        · rename_i e1
          split at h
          · cases h
          · simp only [Except.error.injEq] at h
            subst h
            exact ⟨⟨by simp, by simp⟩, hx⟩
      · split at h
        · simp only [Except.error.injEq] at h
          subst h
          exact ⟨⟨by simp, by simp⟩, hx⟩
        · split at h
          · rename_i e1
            simp only [Except.error.injEq] at h
            subst h
            exact readT_fault f _ _ hq e1
          · simp only [Except.error.injEq] at h
            subst h
            exact ⟨⟨by simp, by simp⟩, by simp⟩
          · rename_i a y r1 e1
            have hs := readT_sub f _ _ _ e1
            have hy := hq y (hs y (by simp))
            split at h
            · simp only [Except.error.injEq] at h
              subst h
              exact ⟨⟨by simp, by simp⟩, hy⟩
            · have hr1 : ∀ z ∈ r1, z.1 ≤ long := fun z hz => hq z (hs z (by simp [hz]))
              split at h
              · rename_i e2
                simp only [Except.error.injEq] at h
                subst h
                exact readT_fault f _ _ hr1 e2
              · simp only [Except.error.injEq] at h
                subst h
                exact ⟨⟨by simp, by simp⟩, by simp⟩
              · rename_i b z r2 e2
                have hz := hr1 z (readT_sub f _ _ _ e2 z (by simp))
                split at h
                · simp only [Except.error.injEq] at h
                  subst h
                  exact ⟨⟨by simp, by simp⟩, hz⟩
                · split at h
                  · cases h
                  · simp only [Except.error.injEq] at h
                    subst h
                    exact ⟨⟨by simp, by simp⟩, hy⟩
where
  readT_sub {wide vars : Int} {long : Nat} : ∀ (f : Nat) (l : List Tok) (t : Tr) (r : List Tok), readT wide vars long f l = .ok (t, r) → ∀ x ∈ r, x ∈ l
  | 0, _, _, _, h => by cases h
  | _ + 1, [], _, _, h => by cases h
  | f + 1, x :: q, t, r, h => by
    simp only [readT] at h
    intro y hy
    split at h
    · split at h
      · cases h
      · simp only [Except.ok.injEq, Prod.mk.injEq] at h
        obtain ⟨rfl, rfl⟩ := h
        simp [hy]
    · split at h
      · split at h
        · cases h
        · rename_i e
          have ih := readT_sub f _ _ _ e
          split at h
          · simp only [Except.ok.injEq, Prod.mk.injEq] at h
            obtain ⟨rfl, rfl⟩ := h
            simp [ih y hy]
          · cases h
      · split at h
        · cases h
        · split at h
          · cases h
          · cases h
          · rename_i e
            have ih := readT_sub f _ _ _ e
            split at h
            · cases h
            · split at h
              · cases h
              · cases h
              · rename_i e2
                have ih2 := readT_sub f _ _ _ e2
                split at h
                · cases h
                · split at h
                  · simp only [Except.ok.injEq, Prod.mk.injEq] at h
                    obtain ⟨rfl, rfl⟩ := h
                    have h2 := ih2 y (by simp [hy])
                    have h3 := ih y (by simp [h2])
                    simp [h3]
                  · cases h
/-- tokens of a text lie one behind the other, none is empty -/
theorem toksL_order : ∀ (f p : Nat) (s : Tx) (l : List Tok), toksL f p s = .ok l → (∀ x ∈ l, p ≤ x.1 ∧ x.1 + x.2.length ≤ p + s.length ∧ 1 ≤ x.2.length) ∧ l.Pairwise (fun x y => x.1 + x.2.length ≤ y.1) ∧ (joinT l).length ≤ s.length
  | 0, _, _, l, h => by
    simp only [toksL, Except.ok.injEq] at h
    subst h
    exact ⟨fun x hx => (by cases hx), List.Pairwise.nil, by simp [joinT]⟩
  | _ + 1, _, [], l, h => by
    simp only [toksL, Except.ok.injEq] at h
    subst h
    exact ⟨fun x hx => (by cases hx), List.Pairwise.nil, by simp [joinT]⟩
  | f + 1, p, c :: r, l, h => by
    simp only [toksL] at h
    split at h
    · obtain ⟨i1, i2, i3⟩ := toksL_order f _ _ _ h
      refine ⟨fun x hx => ?_, i2, by simp only [List.length_cons]; omega⟩
      have := i1 x hx
      simp only [List.length_cons]
      omega
    · split at h
      · cases h
      · rename_i h0
        have hle := longL_le (c :: r)
        split at h
        · cases h
        · rename_i l' e
          simp only [Except.ok.injEq] at h
          subst h
          obtain ⟨i1, i2, i3⟩ := toksL_order f _ _ _ e
          simp only [List.length_drop] at i1 i3
          refine ⟨fun x hx => ?_, List.Pairwise.cons (fun y hy => ?_) i2, ?_⟩
          · rcases List.mem_cons.1 hx with rfl | hx
            · simp only [List.length_take]
              omega
            · have := i1 x hx
              omega
          · have := i1 y hy
            simp only [List.length_take]
            omega
          · simp only [joinT, List.length_append, List.length_take]
            omega
theorem toksL_fault : ∀ (f p : Nat) (s : Tx) (q : Nat), toksL f p s = .error q → p ≤ q ∧ q < p + s.length
  | 0, _, _, _, h => by cases h
  | _ + 1, _, [], _, h => by cases h
  | f + 1, p, c :: r, q, h => by
    simp only [toksL] at h
    split at h
    · have := toksL_fault f _ _ _ h
      simp only [List.length_cons]
      omega
    · split at h
      · simp only [Except.error.injEq] at h
        subst h
        simp only [List.length_cons]
        omega
      · have hle := longL_le (c :: r)
        split at h
        · rename_i e
          simp only [Except.error.injEq] at h
          subst h
          have := toksL_fault f _ _ _ e
          simp only [List.length_drop] at this
          omega
        · cases h
end Go.Proofs.YtkfplichekebdaaGreatDoor.M
