/-
  Plain mathematics for the values of terms: the pile with where each tree begins, its kind and its value; what lies below a tree is what lay there when it began. No program stands in it.
-/
import Derived.Test.YtmhpnkfibecnmaaDoorTerm
import Derived.Test.YtmhpnkfibecnmaaDoorMath2
namespace Go.Proofs.YtmhpnkfibecnmaaDoor.M
open Go

/-- what lies on the pile: where the tree begins, its kind, its value -/
structure Ent (α : Type) where
  at0 : Nat
  kind : Int
  val : α
/-- a step of the pile (its top is the head); f0, f1, f2: what a node makes of no, one or two values -/
def stepE {α : Type} (wide vars : Int) (f0 : Nd → α) (f1 : Nd → α → α) (f2 : Nd → α → α → α) (i : Nat) (p : List (Ent α)) (x : Nd) : Option (List (Ent α)) :=
  if ownOf x.1 = 0 ∨ okN wide vars x.1 x.2 = false then none
  else if manyOf x.1 = 0 then some (⟨i, ownOf x.1, f0 x⟩ :: p)
  else if manyOf x.1 = 1 then
    match p with
    | e :: r => if e.kind = partOf x.1 then some (⟨e.at0, ownOf x.1, f1 x e.val⟩ :: r) else none
    | [] => none
  else
    match p with
    | e :: d :: r => if e.kind = partOf x.1 ∧ d.kind = partOf x.1 then some (⟨d.at0, ownOf x.1, f2 x d.val e.val⟩ :: r) else none
    | _ => none
section
variable {α : Type} (wide vars : Int) (f0 : Nd → α) (f1 : Nd → α → α) (f2 : Nd → α → α → α)
/-- the pile behind the first j nodes -/
def pileE (t : List Nd) : Nat → Option (List (Ent α))
  | 0 => some []
  | j + 1 => (pileE t j).bind fun p => (t[j]?).bind fun x => stepE wide vars f0 f1 f2 j p x
/-- the pile's kinds are those of the plain pile -/
theorem pileE_kinds (t : List Nd) : ∀ (j : Nat) (q : List Int), j ≤ t.length → foldK wide vars (t.take j) [] = some q →
    ∃ p : List (Ent α), pileE wide vars f0 f1 f2 t j = some p ∧ (p.map Ent.kind).reverse = q
  | 0, q, _, h => by
    simp only [List.take_zero, foldK, Option.some.injEq] at h
    subst h
    exact ⟨[], rfl, rfl⟩
  | j + 1, q, hj, h => by
    obtain ⟨x, hx⟩ : ∃ x, t[j]? = some x := ⟨t[j], List.getElem?_eq_getElem (by omega)⟩
    have e : t.take (j + 1) = t.take j ++ [x] := by
      rw [List.take_add_one, hx]
      rfl
    rw [e, foldK_append] at h
    obtain ⟨q0, hq0, h1⟩ := Option.bind_eq_some_iff.1 h
    have hs : stepK wide vars q0 x = some q := by
      simp only [foldK] at h1
      obtain ⟨r, hr, h2⟩ := Option.bind_eq_some_iff.1 h1
      simp only [Option.some.injEq] at h2
      rw [hr, h2]
    obtain ⟨p, hp, hk⟩ := pileE_kinds t j q0 (by omega) hq0
    have goal : ∃ p', stepE wide vars f0 f1 f2 j p x = some p' ∧ (p'.map Ent.kind).reverse = q := by
      unfold stepK at hs
      split at hs
      · cases hs
      rename_i hn
      have n1 : ¬ ownOf x.1 = 0 := fun e => hn (Or.inl e)
      have n2 : ¬ okN wide vars x.1 x.2 = false := fun e => hn (Or.inr (Or.inl e))
      have n3 : ¬ q0.length < manyOf x.1 := fun e => hn (Or.inr (Or.inr e))
      obtain ⟨r, hr, rfl⟩ := Option.map_eq_some_iff.1 hs
      have hm := manyOf_le x.1
      unfold stepE
      rw [if_neg (fun e => e.elim n1 n2)]
      subst hk
      by_cases m0 : manyOf x.1 = 0
      · rw [if_pos m0]
        rw [m0] at hr
        simp only [popN, Option.some.injEq] at hr
        subst hr
        exact ⟨_, rfl, by simp⟩
      · rw [if_neg m0]
        by_cases m1 : manyOf x.1 = 1
        · rw [if_pos m1]
          rw [m1] at hr n3
          match p, hr, n3 with
          | [], _, n3 => simp at n3
          | d :: r', hr, _ =>
            simp only [popN, List.map_cons, List.reverse_cons, List.getLast?_concat, Option.some.injEq, List.dropLast_concat] at hr
            split at hr
            · rename_i hd
              simp only [Option.some.injEq] at hr
              subst hr
              simp only [hd, if_true]
              exact ⟨_, rfl, by simp⟩
            · cases hr
        · rw [if_neg m1]
          have m2 : manyOf x.1 = 2 := by omega
          rw [m2] at hr n3
          match p, hr, n3 with
          | [], _, n3 => simp at n3
          | [_], _, n3 => simp at n3
          | d :: c :: r', hr, _ =>
            simp only [popN, List.map_cons, List.reverse_cons, List.getLast?_concat, Option.some.injEq, List.dropLast_concat] at hr
            split at hr
            · rename_i hd
              split at hr
              · rename_i hc
                simp only [Option.some.injEq] at hr
                subst hr
                simp only [hd, hc, and_self, if_true]
                exact ⟨_, rfl, by simp⟩
              · cases hr
            · cases hr
    obtain ⟨p', hp', hk'⟩ := goal
    exact ⟨p', by simp only [pileE, hp, hx, Option.bind_some, hp'], hk'⟩
variable {wide vars f0 f1 f2}
theorem stepE_inv {j : Nat} {p q : List (Ent α)} {x : Nd} (h : stepE wide vars f0 f1 f2 j p x = some q) :
    ¬ ownOf x.1 = 0 ∧ okN wide vars x.1 x.2 = true ∧
    ((manyOf x.1 = 0 ∧ q = ⟨j, ownOf x.1, f0 x⟩ :: p) ∨
     (manyOf x.1 = 1 ∧ ∃ d r, p = d :: r ∧ d.kind = partOf x.1 ∧ q = ⟨d.at0, ownOf x.1, f1 x d.val⟩ :: r) ∨
     (manyOf x.1 = 2 ∧ ∃ d c r, p = d :: c :: r ∧ d.kind = partOf x.1 ∧ c.kind = partOf x.1 ∧ q = ⟨c.at0, ownOf x.1, f2 x c.val d.val⟩ :: r)) := by
  unfold stepE at h
  split at h
  · cases h
  rename_i hn
  have n1 : ¬ ownOf x.1 = 0 := fun e => hn (Or.inl e)
  have n2 : okN wide vars x.1 x.2 = true := by
    cases hk : okN wide vars x.1 x.2 with
    | true => rfl
    | false => exact absurd (Or.inr hk) hn
  refine ⟨n1, n2, ?_⟩
  split at h
  · rename_i m0
    simp only [Option.some.injEq] at h
    exact Or.inl ⟨m0, h.symm⟩
  · rename_i m0
    split at h
    · rename_i m1
      match p, h with
      | [], h => cases h
      | d :: r, h =>
        simp only at h
        split at h
        · rename_i hd
          simp only [Option.some.injEq] at h
          exact Or.inr (Or.inl ⟨m1, d, r, rfl, hd, h.symm⟩)
        · cases h
    · rename_i m1
      have m2 : manyOf x.1 = 2 := by
        have := manyOf_le x.1
        omega
      match p, h with
      | [], h => cases h
      | [_], h => cases h
      | d :: c :: r, h =>
        simp only at h
        split at h
        · rename_i hd
          simp only [Option.some.injEq] at h
          exact Or.inr (Or.inr ⟨m2, d, c, r, rfl, hd.1, hd.2, h.symm⟩)
        · cases h
theorem pileE_step {t : List Nd} {k : Nat} {q : List (Ent α)} (h : pileE wide vars f0 f1 f2 t (k + 1) = some q) :
    ∃ p x, pileE wide vars f0 f1 f2 t k = some p ∧ t[k]? = some x ∧ stepE wide vars f0 f1 f2 k p x = some q := by
  simp only [pileE] at h
  obtain ⟨p, hp, h1⟩ := Option.bind_eq_some_iff.1 h
  obtain ⟨x, hx, h2⟩ := Option.bind_eq_some_iff.1 h1
  exact ⟨p, x, hp, hx, h2⟩
/-- below a tree lies what lay there when it began -/
theorem pile_below {t : List Nd} : ∀ (n k : Nat), k ≤ n → ∀ (e : Ent α) (r : List (Ent α)), pileE wide vars f0 f1 f2 t (k + 1) = some (e :: r) → e.at0 ≤ k ∧ pileE wide vars f0 f1 f2 t e.at0 = some r
  | n, k, hk, e, r, h => by
    obtain ⟨p, x, hp, hx, hs⟩ := pileE_step h
    obtain ⟨_, _, h0 | ⟨m1, d, r', rfl, _, hq⟩ | ⟨m2, d, c, r', rfl, _, _, hq⟩⟩ := stepE_inv hs
    · obtain ⟨_, hq⟩ := h0
      simp only [List.cons.injEq] at hq
      obtain ⟨rfl, rfl⟩ := hq
      exact ⟨Nat.le_refl _, hp⟩
    · simp only [List.cons.injEq] at hq
      obtain ⟨rfl, rfl⟩ := hq
      match k, hp with
      | 0, hp => simp [pileE] at hp
      | k' + 1, hp =>
        match n, hk with
        | n' + 1, hk =>
          have ih := pile_below n' k' (by omega) d r hp
          exact ⟨by simp only; omega, ih.2⟩
    · simp only [List.cons.injEq] at hq
      obtain ⟨rfl, rfl⟩ := hq
      match k, hp with
      | 0, hp => simp [pileE] at hp
      | k' + 1, hp =>
        match n, hk with
        | n' + 1, hk =>
          have ih := pile_below n' k' (by omega) d (c :: r) hp
          obtain ⟨i1, i2⟩ := ih
          generalize hd : d.at0 = a at i1 i2
          match a, i1, i2 with
          | 0, _, i2 => simp [pileE] at i2
          | a' + 1, i1, i2 =>
            have ih2 := pile_below n' a' (by omega) c r i2
            exact ⟨by simp only; omega, ih2.2⟩
/-- the tree that ends at node k -/
def TreeAt {α : Type} (wide vars : Int) (f0 : Nd → α) (f1 : Nd → α → α) (f2 : Nd → α → α → α) (t : List Nd) (k : Nat) (e : Ent α) : Prop := ∃ r, pileE wide vars f0 f1 f2 t (k + 1) = some (e :: r)
theorem tree_cases {t : List Nd} {k : Nat} {e : Ent α} (h : TreeAt wide vars f0 f1 f2 t k e) : ∃ x, t[k]? = some x ∧ ¬ ownOf x.1 = 0 ∧ okN wide vars x.1 x.2 = true ∧
    ((manyOf x.1 = 0 ∧ e = ⟨k, ownOf x.1, f0 x⟩) ∨
     (manyOf x.1 = 1 ∧ 1 ≤ k ∧ ∃ d, TreeAt wide vars f0 f1 f2 t (k - 1) d ∧ d.kind = partOf x.1 ∧ d.at0 ≤ k - 1 ∧ e = ⟨d.at0, ownOf x.1, f1 x d.val⟩) ∨
     (manyOf x.1 = 2 ∧ 1 ≤ k ∧ ∃ d c, TreeAt wide vars f0 f1 f2 t (k - 1) d ∧ d.kind = partOf x.1 ∧ 1 ≤ d.at0 ∧ d.at0 ≤ k - 1 ∧ TreeAt wide vars f0 f1 f2 t (d.at0 - 1) c ∧ c.kind = partOf x.1 ∧ c.at0 ≤ d.at0 - 1 ∧ e = ⟨c.at0, ownOf x.1, f2 x c.val d.val⟩)) := by
  obtain ⟨r, h⟩ := h
  obtain ⟨p, x, hp, hx, hs⟩ := pileE_step h
  obtain ⟨n1, n2, h0 | ⟨m1, d, r', rfl, hd, hq⟩ | ⟨m2, d, c, r', rfl, hd, hc, hq⟩⟩ := stepE_inv hs
  · obtain ⟨m0, hq⟩ := h0
    simp only [List.cons.injEq] at hq
    exact ⟨x, hx, n1, n2, Or.inl ⟨m0, hq.1⟩⟩
  · simp only [List.cons.injEq] at hq
    match k, hp with
    | 0, hp => simp [pileE] at hp
    | k' + 1, hp =>
      have ih := pile_below k' k' (Nat.le_refl _) d r' hp
      exact ⟨x, hx, n1, n2, Or.inr (Or.inl ⟨m1, by omega, d, ⟨r', hp⟩, hd, ih.1, hq.1⟩)⟩
  · simp only [List.cons.injEq] at hq
    match k, hp with
    | 0, hp => simp [pileE] at hp
    | k' + 1, hp =>
      have ih := pile_below k' k' (Nat.le_refl _) d (c :: r') hp
      obtain ⟨i1, i2⟩ := ih
      have ha : 1 ≤ d.at0 := by
        by_cases h0 : d.at0 = 0
        · rw [h0] at i2
          simp [pileE] at i2
        · omega
      have e1 : d.at0 - 1 + 1 = d.at0 := by omega
      rw [← e1] at i2
      have ih2 := pile_below (d.at0 - 1) (d.at0 - 1) (Nat.le_refl _) c r' i2
      exact ⟨x, hx, n1, n2, Or.inr (Or.inr ⟨m2, by omega, d, c, ⟨_, hp⟩, hd, ha, i1, ⟨r', i2⟩, hc, ih2.1, hq.1⟩)⟩
/-- a good term's root -/
theorem tree_root {t : List Nd} (h : 0 < kindL wide vars t) : wideB wide = true ∧ 1 ≤ vars ∧ vars ≤ 4 ∧ 1 ≤ t.length ∧ t.length ≤ 48 ∧ ∃ e, TreeAt wide vars f0 f1 f2 t (t.length - 1) e ∧ e.kind = kindL wide vars t := by
  unfold kindL at h ⊢
  split at h
  · rename_i hg
    rw [if_pos hg]
    obtain ⟨g1, g2, g3, g4, g5⟩ := hg
    refine ⟨g1, g2, g3, g4, g5, ?_⟩
    cases hf : foldK wide vars t [] with
    | none =>
      rw [hf] at h
      simp at h
    | some q =>
      rw [hf] at h
      match q, h with
      | [], h => simp at h
      | [k], h =>
        obtain ⟨p, hp, hk⟩ := pileE_kinds wide vars f0 f1 f2 t t.length [k] (Nat.le_refl _) (by rw [List.take_length]; exact hf)
        match p, hk with
        | [], hk => simp at hk
        | [e], hk =>
          refine ⟨e, ⟨[], ?_⟩, by simpa using hk⟩
          rw [show t.length - 1 + 1 = t.length from by omega]
          exact hp
        | _ :: _ :: _, hk =>
          have := congrArg List.length hk
          simp at this
      | _ :: _ :: _, h => simp at h
  · simp at h
end
end Go.Proofs.YtmhpnkfibecnmaaDoor.M
