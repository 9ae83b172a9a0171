/-
  The value of a term in a state: the model's l2Value whole, l2Words, ValueOf.
-/
import Derived.Test.YthamdefkcjfjpaaValue3
namespace Go.Proofs.Ythamdefkcjfjpaa
open Go Go.RowKit
open M
set_option linter.unusedVariables false
section
variable {k : Nat} {vars : Int} {st : List Int} {t : List Nd} {b off cap : Nat} {sv : Value}
end

theorem pileE_prefix {α : Type} {wide vars : Int} {f0 : Nd → α} {f1 : Nd → α → α} {f2 : Nd → α → α → α} {t : List Nd} : ∀ (j : Nat) (p : List (Ent α)), pileE wide vars f0 f1 f2 t j = some p → ∀ i, i ≤ j → ∃ q, pileE wide vars f0 f1 f2 t i = some q
  | 0, p, h, i, hi => by
    obtain rfl : i = 0 := by omega
    exact ⟨p, h⟩
  | j + 1, p, h, i, hi => by
    by_cases e : i = j + 1
    · subst e
      exact ⟨p, h⟩
    · obtain ⟨q, x, hq, _, _⟩ := pileE_step h
      exact pileE_prefix j q hq i (by omega)
theorem node_ok {α : Type} {wide vars : Int} {f0 : Nd → α} {f1 : Nd → α → α} {f2 : Nd → α → α → α} {t : List Nd} {j : Nat} {p : List (Ent α)} (h : pileE wide vars f0 f1 f2 t j = some p) {i : Nat} (hi : i < j) {x : Nd} (hx : t[i]? = some x) : okN wide vars x.1 x.2 = true := by
  obtain ⟨q, hq⟩ := pileE_prefix j p h (i + 1) (by omega)
  obtain ⟨_, y, _, hy, hs⟩ := pileE_step hq
  rw [hx] at hy
  obtain rfl := Option.some.inj hy
  exact (stepE_inv hs).2.1
/-- the words of a state that fit -/
def StOk (st : List Int) : Prop := st.length ≤ 1048576 ∧ ∀ s ∈ st, 0 ≤ s ∧ s ≤ 18446744073709551615
/-- what a term comes to in a state, 0 where one of them is not as said -/
def saidV (wide : Int) (t : List Nd) (st : List Int) : Bool := decide (0 < kindL wide st.length t) && st.all (goodB wide)
def valueL (wide : Int) (t : List Nd) (st : List Int) : Int :=
  if saidV wide t st = true then
    match pileE wide st.length (val0 st) (val1 wide.toNat) (val2 wide.toNat) t t.length with
    | some (e :: _) => e.val
    | _ => 0
  else 0
theorem StAt.shape {w : World} {sv : Value} {st : List Int} (h : StAt w sv st) : ∃ (a : Option Addr) (cap : Nat), sv = .slice a st.length cap := by
  rcases h with ⟨rfl, a, cap, h⟩ | ⟨b, off, cap, h, _⟩
  · exact ⟨a, cap, h⟩
  · exact ⟨_, cap, h⟩
theorem valueL_root {wide : Int} {t : List Nd} {st : List Int} (hs : saidV wide t st = true) : ∃ k : Nat, wide = k ∧ 1 ≤ k ∧ k ≤ 64 ∧ 1 ≤ t.length ∧ t.length ≤ 48 ∧ (∀ s ∈ st, s < pw k) ∧
    ∃ e0, TreeAt k st.length (val0 st) (val1 k) (val2 k) t (t.length - 1) e0 ∧ valueL wide t st = e0.val ∧ ∀ (i : Nat) (n : Int), i ≤ t.length - 1 → t[i]? = some (2, n) → n < st.length := by
  obtain ⟨h1, h2⟩ := Bool.and_eq_true_iff.1 hs
  have h1 := of_decide_eq_true h1
  obtain ⟨g1, g2, g3, g4, g5, e0, ht, hk⟩ := tree_root (f0 := val0 st) (f1 := val1 wide.toNat) (f2 := val2 wide.toNat) h1
  obtain ⟨k, rfl, hk1, hk64⟩ := wideB_true g1
  refine ⟨k, rfl, hk1, hk64, g4, g5, ?_, e0, ?_, ?_, ?_⟩
  · intro s hsm
    have h3 := List.all_eq_true.1 h2 s hsm
    obtain ⟨k', e, _, _, h4⟩ := goodB_true h3
    obtain rfl : k = k' := by omega
    exact h4
  · simpa using ht
  · unfold valueL
    rw [if_pos hs]
    obtain ⟨r, hr⟩ := ht
    rw [show t.length - 1 + 1 = t.length from by omega] at hr
    rw [hr]
  · intro i n hi hx
    obtain ⟨r, hr⟩ := ht
    have h3 := node_ok hr (show i < t.length - 1 + 1 by omega) hx
    exact of_decide_eq_true (show decide (n < (st.length : Int)) = true from h3)
end Go.Proofs.Ythamdefkcjfjpaa
