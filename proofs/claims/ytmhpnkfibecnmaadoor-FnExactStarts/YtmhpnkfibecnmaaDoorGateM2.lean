/-
  Plain mathematics of circuits: when a circuit is good.
-/
import Derived.Test.YtmhpnkfibecnmaaDoorGateM
namespace Go.Proofs.YtmhpnkfibecnmaaDoor.M
open Go
set_option linter.unusedVariables false
set_option linter.unusedSimpArgs false

/-- a number from 0 on and below an end -/
def inB (n x : Int) : Bool := decide (0 ≤ x ∧ x < n)
/-- a gate that makes wire own is good -/
def gateB (own : Int) (g : Gt) : Bool :=
  if g.1 = 1 then decide (0 ≤ g.2.1 ∧ g.2.1 ≤ 1) && decide (g.2.2 = 0)
  else if g.1 = 2 then inB own g.2.1 && decide (g.2.2 = 0)
  else if g.1 = 3 ∨ g.1 = 4 ∨ g.1 = 5 then inB own g.2.1 && inB own g.2.2
  else false
/-- gates, the first of which makes wire n -/
def gatesB : Int → List Gt → Bool
  | _, [] => true
  | n, g :: gs => gateB n g && gatesB (n + 1) gs
def goodC (c : Int × List Gt × List Int) : Bool :=
  decide (0 ≤ c.1 ∧ c.1 ≤ 16 ∧ c.2.1.length ≤ 300 ∧ c.2.2.length ≤ 16) && (gatesB c.1 c.2.1 && c.2.2.all (inB (c.1 + c.2.1.length)))
theorem gatesB_append : ∀ (n : Int) (a b : List Gt), gatesB n (a ++ b) = (gatesB n a && gatesB (n + a.length) b)
  | n, [], b => by simp [gatesB]
  | n, g :: a, b => by
    simp only [List.cons_append, gatesB, gatesB_append (n + 1) a b, List.length_cons, Bool.and_assoc]
    congr 3
    omega
theorem gatesB_at {n : Int} {gs : List Gt} (h : gatesB n gs = true) {i : Nat} {g : Gt} (hg : gs[i]? = some g) : gateB (n + i) g = true := by
  have hi : i < gs.length := (List.getElem?_eq_some_iff.1 hg).1
  have e : gs = gs.take i ++ g :: gs.drop (i + 1) := by
    have h1 := List.getElem?_eq_some_iff.1 hg
    obtain ⟨h2, h3⟩ := h1
    conv => lhs; rw [← List.take_append_drop i gs]
    rw [List.drop_eq_getElem_cons h2, h3]
  rw [e, gatesB_append] at h
  simp only [gatesB, Bool.and_eq_true, List.length_take] at h
  have h3 := h.2.1
  rw [Nat.min_eq_left (by omega)] at h3
  exact h3
theorem gatesB_false {n : Int} {gs : List Gt} {i : Nat} {g : Gt} (hg : gs[i]? = some g) (h : gateB (n + i) g = false) : gatesB n gs = false := by
  cases hb : gatesB n gs with
  | false => rfl
  | true => rw [gatesB_at hb hg] at h; exact h
theorem goodC_ins {c : Int × List Gt × List Int} (h : goodC c = true) : 0 ≤ c.1 ∧ c.1 ≤ 16 ∧ c.2.1.length ≤ 300 ∧ c.2.2.length ≤ 16 ∧ gatesB c.1 c.2.1 = true ∧ ∀ x ∈ c.2.2, 0 ≤ x ∧ x < c.1 + c.2.1.length := by
  unfold goodC at h
  simp only [Bool.and_eq_true, decide_eq_true_eq] at h
  obtain ⟨⟨h1, h2, h3, h4⟩, h5, h6⟩ := h
  refine ⟨h1, h2, h3, h4, h5, fun x hx => ?_⟩
  have := List.all_eq_true.1 h6 x hx
  simpa [inB] using this
theorem gateB_kind {own : Int} {g : Gt} (h : gateB own g = true) : (g.1 = 1 ∧ 0 ≤ g.2.1 ∧ g.2.1 ≤ 1 ∧ g.2.2 = 0) ∨ (g.1 = 2 ∧ (0 ≤ g.2.1 ∧ g.2.1 < own) ∧ g.2.2 = 0) ∨ ((g.1 = 3 ∨ g.1 = 4 ∨ g.1 = 5) ∧ (0 ≤ g.2.1 ∧ g.2.1 < own) ∧ (0 ≤ g.2.2 ∧ g.2.2 < own)) := by
  unfold gateB at h
  split at h
  · rename_i e
    simp only [Bool.and_eq_true, decide_eq_true_eq] at h
    exact Or.inl ⟨e, h.1.1, h.1.2, h.2⟩
  · split at h
    · rename_i e
      simp only [Bool.and_eq_true, decide_eq_true_eq, inB] at h
      exact Or.inr (Or.inl ⟨e, h.1, h.2⟩)
    · split at h
      · rename_i e
        simp only [Bool.and_eq_true, decide_eq_true_eq, inB] at h
        exact Or.inr (Or.inr ⟨e, h.1, h.2⟩)
      · cases h
theorem all_take_snoc {p : Int → Bool} {l : List Int} {j : Nat} {x : Int} (hx : l[j]? = some x) (h : (l.take j).all p = true) (hp : p x = true) : (l.take (j + 1)).all p = true := by
  rw [List.take_add_one, hx, List.all_append, h]
  simp [hp]
theorem all_false {p : Int → Bool} {l : List Int} {j : Nat} {x : Int} (hx : l[j]? = some x) (hp : p x = false) : l.all p = false := by
  cases hb : l.all p with
  | false => rfl
  | true => rw [List.all_eq_true.1 hb x (List.mem_of_getElem? hx)] at hp; exact hp
end Go.Proofs.YtmhpnkfibecnmaaDoor.M
