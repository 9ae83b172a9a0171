/-
  The variables of a term: the model's l1Put whole, l2Vars and VarsIn.
-/
import Derived.Test.YthamdefkcjfjpaaPut
import Derived.Test.YthamdefkcjfjpaaValueOf
namespace Go.Proofs.Ythamdefkcjfjpaa
open Go Go.RowKit
open M
set_option linter.unusedVariables false

def varsL (t : List Nd) : List Int := t.foldl (fun l x => if x.1 = 2 then putL l x.2 else l) []
theorem varsL_snoc (t : List Nd) (x : Nd) : varsL (t ++ [x]) = if x.1 = 2 then putL (varsL t) x.2 else varsL t := by
  unfold varsL
  rw [List.foldl_append]
  rfl
theorem putL_len (l : List Int) (n : Int) : (putL l n).length ≤ l.length + 1 ∧ 1 ≤ (putL l n).length := by
  unfold putL
  split
  · rename_i h
    have := (List.getElem?_eq_some_iff.1 h).1
    omega
  · simp
    omega
theorem own_weaken {w : World} {B B' : Nat} {v : Value} {t : List Int} (h : OwnInts w B v t) (hB : B' ≤ B) : OwnInts w B' v t := by
  obtain ⟨h1, h2⟩ := h
  refine ⟨h1, ?_⟩
  rcases h2 with h2 | ⟨g, cap, cur, hv, hg, r⟩
  · exact Or.inl h2
  · exact Or.inr ⟨g, cap, cur, hv, Nat.le_trans hB hg, r⟩
/-- an owned list that is nil where it is empty -/
def VarsOwn (w : World) (B : Nat) (v : Value) (l : List Int) : Prop := OwnInts w B v l ∧ (l = [] → v = .slice none 0 0)
def varsInL (wide vars : Int) (t : List Nd) : List Int := if 0 < kindL wide vars t then varsL t else []
theorem good_var {wide vars : Int} {t : List Nd} (h : 0 < kindL wide vars t) : vars ≤ 4 ∧ 1 ≤ t.length ∧ t.length ≤ 48 ∧ ∀ x ∈ t, x.1 = 2 → x.2 < vars := by
  obtain ⟨_, _, h3, h4, h5, e0, ⟨r, hr⟩, _⟩ := tree_root (f0 := fun _ => (0 : Int)) (f1 := fun _ _ => 0) (f2 := fun _ _ _ => 0) h
  refine ⟨h3, h4, h5, ?_⟩
  rintro ⟨op, n⟩ hx hop
  simp only at hop
  subst hop
  obtain ⟨i, hi, hxi⟩ := List.mem_iff_getElem.1 hx
  have hx' : t[i]? = some (2, n) := by rw [List.getElem?_eq_getElem hi, hxi]
  have h6 := node_ok hr (show i < t.length - 1 + 1 by omega) hx'
  exact of_decide_eq_true (show decide (n < vars) = true from h6)
end Go.Proofs.Ythamdefkcjfjpaa
