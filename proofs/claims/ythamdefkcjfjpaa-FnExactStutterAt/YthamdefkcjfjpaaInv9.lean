/-
  A region whose operations come up in whatever order, by an invariant (as in the part Reg5 of chapter 5).
-/
import Derived.Test.YthamdefkcjfjpaaProg
import Derived.WalkKit
import Derived.Orders
namespace Go.Proofs.Ythamdefkcjfjpaa
open Go Go.RowKit
set_option linter.unusedVariables false
set_option linter.unusedSimpArgs false

/-- how many operations have not come up -/
def undoneN (l : Array Bool) : Nat := (l.toList.filter (fun b => !b)).length
theorem filter_setN : ∀ (l : List Bool) (i : Nat), l[i]? = some false → ((l.set i true).filter (fun b => !b)).length + 1 = (l.filter (fun b => !b)).length
  | [], i, h => by simp at h
  | x :: l, 0, h => by
    simp at h
    subst h
    simp
  | x :: l, i + 1, h => by
    have ih := filter_setN l i (by simpa using h)
    cases x <;> simp [List.set, ih]
theorem undone_setN {l : Array Bool} {i : Nat} (hi : l.getD i true = false) : undoneN (l.setIfInBounds i true) + 1 = undoneN l := by
  have h : l.toList[i]? = some false := by
    rw [Array.getElem?_toList]
    rw [Array.getD_eq_getD_getElem?] at hi
    cases e : l[i]? with
    | none => rw [e] at hi; simp at hi
    | some x => rw [e] at hi; simp at hi; rw [hi]
  unfold undoneN
  rw [Array.toList_setIfInBounds]
  exact filter_setN l.toList i h
theorem wpAny_invN {P : Program} {md : Region.Mode} {ops : Array Oper} {Q : Exit → Act → World → Prop} (I : Array Bool → Act → World → Prop)
    (hdone : ∀ l a w, I l a w → Region.ready md ops l = [] → Q .normal a w) (hstep : ∀ l a w, I l a w → ∀ i ∈ Region.ready md ops l, wpOp P ops Q i (I (l.setIfInBounds i true)) a w) :
    ∀ (fuel : Nat) (l : Array Bool) (a : Act) (w : World), I l a w → undoneN l ≤ fuel → wpAny P md ops Q fuel l a w
  | 0, l, a, w, h, hu => by
    have hr : Region.ready md ops l = [] := by
      cases e : Region.ready md ops l with
      | nil => rfl
      | cons i r =>
        have hi : i ∈ Region.ready md ops l := by rw [e]; simp
        have := undone_setN (mem_ready.1 hi).1
        omega
    exact ⟨hr, hdone l a w h hr⟩
  | fuel + 1, l, a, w, h, hu => ⟨hdone l a w h, fun i hi => wpOp_mono (fun a' w' h' => wpAny_invN I hdone hstep fuel _ a' w' h' (by have := undone_setN (mem_ready.1 hi).1; omega)) (hstep l a w h i hi)⟩
theorem wpOp_runN {P : Program} {ops : Array Oper} {Q : Exit → Act → World → Prop} {i : Nat} {o : Oper} {a : Act} {w : World} {K' : Act → World → Prop} (ho : ops[i]? = some o) (hg : o.guard = none)
    (h : ∀ K : Act → World → Prop, (∀ a w, K' a w → K a w) → o.wp P a w K Q) : wpOp P ops Q i K' a w := by
  unfold wpOp
  rw [ho]
  simp only
  rw [if_pos (by simp [Region.wanted, hg])]
  exact Or.inl (h K' (fun _ _ h => h))
theorem ready_noneN {md : Region.Mode} {ops : Array Oper} {l : Array Bool} (hr : Region.ready md ops l = []) (i : Nat) {o : Oper} (ho : ops[i]? = some o) (hl : l.getD i true = false) (hd : (o.after.toList.all fun e => l.getD e.on false) = true) : False := by
  have h : i ∈ Region.ready md ops l := mem_ready.2 ⟨hl, o, ho, fun e he _ => List.all_eq_true.1 hd e (Array.mem_def.1 he)⟩
  rw [hr] at h
  cases h
theorem ready_ltN {md : Region.Mode} {ops : Array Oper} {l : Array Bool} {i : Nat} (hi : i ∈ Region.ready md ops l) : i < ops.size := by
  unfold Region.ready at hi
  rw [List.mem_filter, List.mem_range] at hi
  exact hi.1
theorem ready_depN {md : Region.Mode} {ops : Array Oper} {l : Array Bool} {i : Nat} {o : Oper} (hi : i ∈ Region.ready md ops l) (ho : ops[i]? = some o) : l.getD i true = false ∧ ∀ e ∈ o.after, Region.binds md e = true → l.getD e.on false = true := by
  obtain ⟨h1, o', h2, h3⟩ := mem_ready.1 hi
  rw [ho] at h2
  obtain rfl := Option.some.inj h2
  exact ⟨h1, h3⟩
theorem ready_none2N {ops : Array Oper} {l : Array Bool} (hr : Region.ready .any ops l = []) (i : Nat) {o : Oper} (ho : ops[i]? = some o) (hl : l.getD i true = false) (hd : (o.after.toList.all fun e => !(Region.binds .any e) || l.getD e.on false) = true) : False := by
  have h : i ∈ Region.ready .any ops l := mem_ready.2 ⟨hl, o, ho, fun e he hb => by
    have h9 := List.all_eq_true.1 hd e (Array.mem_def.1 he)
    rw [hb] at h9
    simpa using h9⟩
  rw [hr] at h
  cases h
end Go.Proofs.Ythamdefkcjfjpaa
