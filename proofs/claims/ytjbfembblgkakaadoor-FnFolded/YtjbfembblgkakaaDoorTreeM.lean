/-
  Plain mathematics for trees: what a tree comes to, the tree that is folded, the tree with trees put for its variables, and the variables of a term in their order.
-/
import Derived.Test.YtjbfembblgkakaaDoorTree
import Derived.Test.YtjbfembblgkakaaDoorPuts2
namespace Go.Proofs.YtjbfembblgkakaaDoor
open Go Go.RowKit
open M
set_option linter.unusedVariables false

/-- what a tree comes to -/
def trVal (k : Nat) (st : List Int) : Tr → Int
  | .leaf x => val0 st x
  | .one x a => val1 k x (trVal k st a)
  | .two x a b => val2 k x (trVal k st a) (trVal k st b)
/-- a variable is in it -/
def trVar : Tr → Bool
  | .leaf x => decide (x.1 = 2)
  | .one _ a => trVar a
  | .two _ a b => trVar a || trVar b
def trFold (k : Nat) : Tr → Tr
  | .leaf x => if x.1 = 2 then .leaf x else .leaf (litN x.1 x.2)
  | .one x a => if trVar a = true then .one x (trFold k a) else .leaf (litN x.1 (val1 k x (trVal k [] a)))
  | .two x a b => if (trVar a || trVar b) = true then .two x (trFold k a) (trFold k b) else .leaf (litN x.1 (val2 k x (trVal k [] a) (trVal k [] b)))
def trPut (bs : List Tr) : Tr → Tr
  | .leaf x => if x.1 = 2 then bs.getD x.2.toNat (.leaf x) else .leaf x
  | .one x a => .one x (trPut bs a)
  | .two x a b => .two x (trPut bs a) (trPut bs b)
/-- the values of a good term are those of its tree -/
theorem valueL_tree {wide : Int} {t : List Nd} {st : List Int} {r : Tr} (hs : saidV wide t st = true) (hr : pileT wide st.length t t.length = some [⟨0, r.kind, r⟩]) : valueL wide t st = trVal wide.toNat st r := by
  unfold valueL
  rw [if_pos hs, pileE_map (f0 := Tr.leaf) (f1 := Tr.one) (f2 := Tr.two) (g0 := val0 st) (g1 := val1 wide.toNat) (g2 := val2 wide.toNat) (trVal wide.toNat st) (fun _ => rfl) (fun _ _ => rfl) (fun _ _ _ => rfl)]
  rw [show pileE wide st.length Tr.leaf Tr.one Tr.two t t.length = some [⟨0, r.kind, r⟩] from hr]
  rfl
def trFV (k : Nat) : Tr → FV
  | .leaf x => fold0 x
  | .one x a => fold1 k x (trFV k a)
  | .two x a b => fold2 k x (trFV k a) (trFV k b)
theorem trFV_eq (k : Nat) : ∀ t : Tr, trFV k t = (trVar t, if trVar t = true then 0 else trVal k [] t, (trFold k t).flat)
  | .leaf x => by
    simp only [trFV, fold0, trVar, trFold, trVal, val0]
    by_cases h : x.1 = 2 <;> simp [h, Tr.flat]
  | .one x a => by
    have ha := trFV_eq k a
    simp only [trFV, ha, fold1, trVar, trFold, trVal]
    by_cases h : trVar a = true <;> simp [h, Tr.flat]
  | .two x a b => by
    have ha := trFV_eq k a
    have hb := trFV_eq k b
    simp only [trFV, ha, hb, fold2, trVar, trFold, trVal]
    by_cases h1 : trVar a = true <;> by_cases h2 : trVar b = true <;> simp [Tr.flat, val2, h1, h2]
theorem foldL_tree {wide vars : Int} {t : List Nd} {r : Tr} (h : 0 < kindL wide vars t) (hr : pileT wide vars t t.length = some [⟨0, r.kind, r⟩]) : foldL wide vars t = (trFold wide.toNat r).flat := by
  unfold foldL
  rw [if_pos h, pileE_map (f0 := Tr.leaf) (f1 := Tr.one) (f2 := Tr.two) (g0 := fold0) (g1 := fold1 wide.toNat) (g2 := fold2 wide.toNat) (trFV wide.toNat) (fun _ => rfl) (fun _ _ => rfl) (fun _ _ _ => rfl)]
  rw [show pileE wide vars Tr.leaf Tr.one Tr.two t t.length = some [⟨0, r.kind, r⟩] from hr]
  show (trFV wide.toNat r).2.2 = _
  rw [trFV_eq]
/-- all numbers of a tree are at least 0 -/
abbrev Pos (t : Tr) : Prop := ∀ x ∈ t.flat, 0 ≤ x.2
/-- its variables are below n -/
abbrev VarsBelow (t : Tr) (n : Nat) : Prop := ∀ x ∈ t.flat, x.1 = 2 → x.2.toNat < n
theorem ok_vars {wide vars : Int} : ∀ {t : Tr}, t.Ok wide vars → ∀ x ∈ t.flat, x.1 = 2 → x.2 < vars
  | .leaf y, h, x, hx, h2 => by
    simp only [Tr.flat, List.mem_singleton] at hx
    subst hx
    have := h.2.1
    rw [h2] at this
    exact of_decide_eq_true (show decide (x.2 < vars) = true from this)
  | .one y a, h, x, hx, h2 => by
    simp only [Tr.flat, List.mem_append, List.mem_singleton] at hx
    rcases hx with hx | rfl
    · exact ok_vars h.2.2.2.2 x hx h2
    · have := h.2.2.1
      rw [h2] at this
      exact absurd this (by decide)
  | .two y a b, h, x, hx, h2 => by
    simp only [Tr.flat, List.mem_append, List.mem_singleton] at hx
    rcases hx with (hx | hx) | rfl
    · exact ok_vars h.2.2.2.2.2.1 x hx h2
    · exact ok_vars h.2.2.2.2.2.2 x hx h2
    · have := h.2.2.1
      rw [h2] at this
      exact absurd this (by decide)
theorem trVar_iff : ∀ {wide vars : Int} {t : Tr}, t.Ok wide vars → (trVar t = true ↔ ∃ x ∈ t.flat, x.1 = 2)
  | wide, vars, .leaf y, h => by simp [trVar, Tr.flat]
  | wide, vars, .one y a, h => by
    have ha := trVar_iff h.2.2.2.2
    have hy : y.1 ≠ 2 := by intro e; have := h.2.2.1; rw [e] at this; exact absurd this (by decide)
    simp only [trVar, ha, Tr.flat, List.mem_append, List.mem_singleton]
    constructor
    · rintro ⟨x, hx, h2⟩
      exact ⟨x, Or.inl hx, h2⟩
    · rintro ⟨x, hx | rfl, h2⟩
      · exact ⟨x, hx, h2⟩
      · exact absurd h2 hy
  | wide, vars, .two y a b, h => by
    have ha := trVar_iff h.2.2.2.2.2.1
    have hb := trVar_iff h.2.2.2.2.2.2
    have hy : y.1 ≠ 2 := by intro e; have := h.2.2.1; rw [e] at this; exact absurd this (by decide)
    simp only [trVar, Bool.or_eq_true, ha, hb, Tr.flat, List.mem_append, List.mem_singleton]
    constructor
    · rintro (⟨x, hx, h2⟩ | ⟨x, hx, h2⟩)
      · exact ⟨x, Or.inl (Or.inl hx), h2⟩
      · exact ⟨x, Or.inl (Or.inr hx), h2⟩
    · rintro ⟨x, (hx | hx) | rfl, h2⟩
      · exact Or.inl ⟨x, hx, h2⟩
      · exact Or.inr ⟨x, hx, h2⟩
      · exact absurd h2 hy
/-- a tree's value is a word or a truth -/
theorem trVal_ok {k : Nat} (hk1 : 1 ≤ k) (hk : k ≤ 64) {vars : Int} {st : List Int} (hst : ∀ s ∈ st, 0 ≤ s ∧ s < pw k) : ∀ {t : Tr}, t.Ok k vars → Pos t → VarsBelow t st.length → ValOk k ⟨0, t.kind, trVal k st t⟩
  | .leaf ⟨op, m⟩, h, hp, hv => by
    obtain ⟨n1, n2, m0⟩ := h
    have hm0 := hp (op, m) (by simp [Tr.flat])
    have hvv := hv (op, m) (by simp [Tr.flat])
    simp only at n1 n2 m0 hm0 hvv
    have hop : op = 1 ∨ op = 2 ∨ op = 20 := by
      unfold manyOf at m0
      unfold ownOf at n1
      split at m0
      · omega
      · split at m0
        · omega
        · split at n1
          · omega
          · split at n1 <;> omega
    rcases hop with rfl | rfl | rfl
    · left
      obtain ⟨k', e1, _, _, h3⟩ := goodB_true (show goodB k m = true from n2)
      obtain rfl : k = k' := by omega
      exact ⟨rfl, hm0, h3⟩
    · left
      have hlt := hvv rfl
      have hmem : st.getD m.toNat 0 ∈ st := by
        rw [List.getD_eq_getElem?_getD, List.getElem?_eq_getElem hlt]
        exact List.getElem_mem hlt
      exact ⟨rfl, (hst _ hmem).1, (hst _ hmem).2⟩
    · right
      have h2 : m < 2 := of_decide_eq_true (show decide (m < 2) = true from n2)
      exact ⟨rfl, by show m = 0 ∨ m = 1; omega⟩
  | .one ⟨op, m⟩ a, h, hp, hv => by
    obtain ⟨n1, n2, m1, hk2, ha⟩ := h
    have ih := trVal_ok hk1 hk hst ha (fun x hx => hp x (by simp [Tr.flat, hx])) (fun x hx => hv x (by simp [Tr.flat, hx]))
    have hop : op = 13 ∨ op = 19 := by
      unfold manyOf at m1
      split at m1
      · assumption
      · split at m1 <;> omega
    rcases hop with rfl | rfl
    · rcases ih with ⟨_, h0, h1⟩ | ⟨hk3, _⟩
      · simp only at h0 h1
        exact Or.inl ⟨rfl, by show 0 ≤ pw k - 1 - trVal k st a; omega, by show pw k - 1 - trVal k st a < pw k; omega⟩
      · simp only at hk3
        rw [hk3] at hk2
        cases hk2
    · rcases ih with ⟨hk3, _⟩ | ⟨_, h0⟩
      · simp only at hk3
        rw [hk3] at hk2
        cases hk2
      · simp only at h0
        exact Or.inr ⟨rfl, by show 1 - trVal k st a = 0 ∨ 1 - trVal k st a = 1; omega⟩
  | .two ⟨op, m⟩ a b, h, hp, hv => by
    obtain ⟨n1, n2, m2, hka, hkb, ha, hb⟩ := h
    have ih1 := trVal_ok hk1 hk hst ha (fun x hx => hp x (by simp [Tr.flat, hx])) (fun x hx => hv x (by simp [Tr.flat, hx]))
    have ih2 := trVal_ok hk1 hk hst hb (fun x hx => hp x (by simp [Tr.flat, hx])) (fun x hx => hv x (by simp [Tr.flat, hx]))
    have hop : (3 ≤ op ∧ op ≤ 12) ∨ (14 ≤ op ∧ op ≤ 16) ∨ (op = 17 ∨ op = 18) := by
      unfold manyOf at m2
      split at m2
      · cases m2
      · split at m2 <;> omega
    have w1 := ih1.word hk1
    have w2 := ih2.word hk1
    simp only at w1 w2
    rcases hop with hop | hop | hop
    · left
      have h := doOp_word k hk op (trVal k st a) (trVal k st b) hop w1.1 w1.2 w2.1 w2.2
      exact ⟨by show ownOf op = 1; unfold ownOf; rw [if_pos (by omega)], h.1, h.2⟩
    · right
      exact ⟨by show ownOf op = 2; unfold ownOf; rw [if_neg (by omega), if_pos (by omega)], doOp_cond k op _ _ hop⟩
    · right
      have hp2 : partOf op = 2 := by
        unfold partOf
        rw [if_neg (by omega), if_pos (by omega)]
      simp only at hka hkb
      rw [hp2] at hka hkb
      have v1 : trVal k st a = 0 ∨ trVal k st a = 1 := by
        rcases ih1 with ⟨h, _⟩ | ⟨_, h⟩
        · simp only at h
          rw [h] at hka
          cases hka
        · exact h
      have v2 : trVal k st b = 0 ∨ trVal k st b = 1 := by
        rcases ih2 with ⟨h, _⟩ | ⟨_, h⟩
        · simp only at h
          rw [h] at hkb
          cases hkb
        · exact h
      exact ⟨by show ownOf op = 2; unfold ownOf; rw [if_neg (by omega), if_pos (by omega)], doOp_both k op _ _ hop v1 v2⟩
/-- the variables of a term in their order -/
def sorted4 (f : Int → Bool) : List Int := [0, 1, 2, 3].filter f
theorem putL_sorted (f : Int → Bool) (n : Int) (h : n = 0 ∨ n = 1 ∨ n = 2 ∨ n = 3) : putL (sorted4 f) n = sorted4 (fun i => f i || i == n) := by
  unfold sorted4
  simp only [List.filter]
  rcases h with rfl | rfl | rfl | rfl <;> cases f 0 <;> cases f 1 <;> cases f 2 <;> cases f 3 <;> rfl
theorem varsL_sorted : ∀ (n : Nat) (t : List Nd), t.length = n → (∀ x ∈ t, x.1 = 2 → 0 ≤ x.2 ∧ x.2 < 4) → varsL t = sorted4 (fun i => decide ((2, i) ∈ t))
  | 0, t, hn, _ => by
    obtain rfl := List.length_eq_zero_iff.1 hn
    rfl
  | n + 1, t, hn, h => by
    have hne : t ≠ [] := by intro e; subst e; simp at hn
    have e : t = t.dropLast ++ [t.getLast hne] := (List.dropLast_concat_getLast hne).symm
    generalize t.getLast hne = x at e
    generalize t.dropLast = u at e
    subst e
    have ih := varsL_sorted n u (by simpa using hn) (fun x hx => h x (by simp [hx]))
    rw [varsL_snoc, ih]
    have hx := h x (by simp)
    obtain ⟨op, m⟩ := x
    simp only at hx ⊢
    by_cases h2 : op = 2
    · subst h2
      have h4 := hx rfl
      rw [if_pos rfl, putL_sorted _ m (by omega)]
      congr 1
      funext i
      by_cases h1 : (2, i) ∈ u
      · simp [h1]
      · by_cases h3 : i = m
        · simp [h3]
        · simp [h1, h3]
    · rw [if_neg h2]
      congr 1
      funext i
      have : ((2, i) : Nd) ≠ (op, m) := by intro e; simp at e; exact h2 e.1.symm
      simp [this]
end Go.Proofs.YtjbfembblgkakaaDoor
