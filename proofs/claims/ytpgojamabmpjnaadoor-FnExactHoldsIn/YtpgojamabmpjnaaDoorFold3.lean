/-
  A folded tree whole: the model's l2Fold.
-/
import Derived.Test.YtpgojamabmpjnaaDoorFold2
namespace Go.Proofs.YtpgojamabmpjnaaDoor
open Go Go.RowKit
open M
set_option linter.unusedVariables false

theorem vars_foldl : ∀ (l : List Nd) (a : List Int), (l.foldl (fun l x => if x.1 = 2 then putL l x.2 else l) a).length ≤ a.length + l.length ∧ (l.foldl (fun l x => if x.1 = 2 then putL l x.2 else l) a = [] ↔ a = [] ∧ ∀ x ∈ l, x.1 ≠ 2)
  | [], a => by simp
  | x :: l, a => by
    rw [List.foldl_cons]
    have hp := putL_len a x.2
    by_cases h : x.1 = 2
    · rw [if_pos h]
      obtain ⟨h1, h2⟩ := vars_foldl l (putL a x.2)
      refine ⟨by rw [List.length_cons]; omega, ?_, ?_⟩
      · intro h3
        rw [(h2.1 h3).1] at hp
        simp at hp
      · intro h3
        exact absurd h (h3.2 x (by simp))
    · rw [if_neg h]
      obtain ⟨h1, h2⟩ := vars_foldl l a
      refine ⟨by rw [List.length_cons]; omega, ?_, ?_⟩
      · intro h3
        refine ⟨(h2.1 h3).1, ?_⟩
        intro y hy
        rcases List.mem_cons.1 hy with rfl | hy
        · exact h
        · exact (h2.1 h3).2 y hy
      · intro h3
        exact h2.2 ⟨h3.1, fun y hy => h3.2 y (List.mem_cons_of_mem _ hy)⟩
theorem varsL_both (l : List Nd) : (varsL l).length ≤ l.length ∧ (varsL l = [] ↔ ∀ x ∈ l, x.1 ≠ 2) := by
  obtain ⟨h1, h2⟩ := vars_foldl l []
  refine ⟨by unfold varsL; simpa using h1, ?_⟩
  unfold varsL
  rw [h2]
  simp
theorem litN_ok (op v : Int) (h0 : 0 ≤ v) (h1 : v ≤ 18446744073709551615) : NdOk (litN op v) := by
  unfold litN NdOk
  simp only
  split <;> omega
/-- a folded tree is no longer than the tree, and of nodes that can be -/
theorem fold_ok {k : Nat} (hk1 : 1 ≤ k) (hk : k ≤ 64) {vars : Int} {t : List Nd} (hok : ∀ x ∈ t, NdOk x) {N : Nat} {p : List (Ent Int)} (hp : pileE k vars (val0 []) (val1 k) (val2 k) t N = some p) :
    ∀ (n j : Nat), j ≤ n → j < N → ∀ (f : Ent FV), TreeAt k vars fold0 (fold1 k) (fold2 k) t j f →
      f.at0 ≤ j ∧ f.val.2.2.length ≤ j + 1 - f.at0 ∧ f.val.2.2 ≠ [] ∧ (∀ x ∈ f.val.2.2, NdOk x) ∧ (f.val.1 = false → 0 ≤ f.val.2.1 ∧ f.val.2.1 ≤ 18446744073709551615 ∧ ∀ x, t[j]? = some x → f.val.2.2 = [litN x.1 f.val.2.1])
  | n, j, hj, hjN, f, hf => by
    obtain ⟨e, he⟩ := tree_exists hp hjN
    obtain ⟨t1, t2, t3, t4⟩ := tree_two n j hj e f he hf
    have hpw := pw_le k hk
    have hval : f.val.1 = false → 0 ≤ f.val.2.1 ∧ f.val.2.1 ≤ 18446744073709551615 := by
      intro h
      have h4 := t4.1 h
      have hv := tree_ok hk1 hk (st := []) (fun x hx => (hok x hx).2.2.1) (by simp) j j (Nat.le_refl _) e he (fun i m h0 h1 h2 => absurd h2 (h4 i m (by omega) h1))
      have hw := hv.word hk1
      rw [t3 h]
      omega
    clear he t1 t2 t3 t4
    obtain ⟨⟨op, m⟩, hx, n1, n2, hcase⟩ := tree_cases hf
    have hmem := hok (op, m) (List.mem_of_getElem? hx)
    simp only at hcase n1 n2
    rcases hcase with ⟨m0, rfl⟩ | ⟨m1, hj1, d, hd, hdk, hdj, rfl⟩ | ⟨m2, hj1, d, c, hd, hdk, hd1, hdj, hcc, hck, hcd, rfl⟩
    · simp only [fold0] at hval ⊢
      by_cases h2 : op = 2
      · subst h2
        simp only [if_true]
        refine ⟨Nat.le_refl _, by simp, by simp, ?_, by simp⟩
        intro x hx'
        simp at hx'
        subst hx'
        exact hmem
      · simp only [if_neg h2] at hval ⊢
        refine ⟨Nat.le_refl _, by simp, by simp, ?_, ?_⟩
        · intro x hx'
          simp at hx'
          subst hx'
          exact litN_ok _ _ (hval trivial).1 (hval trivial).2
        · intro _
          refine ⟨(hval trivial).1, (hval trivial).2, ?_⟩
          intro x hx'
          rw [hx] at hx'
          obtain rfl := Option.some.inj hx'
          rfl
    · match n, hj with
      | 0, hj => omega
      | n' + 1, hj =>
        obtain ⟨i1, i2, i3, i4, i5⟩ := fold_ok hk1 hk hok hp n' (j - 1) (by omega) (by omega) d hd
        simp only [fold1] at hval ⊢
        by_cases hv : d.val.1 = true
        · simp only [if_pos hv]
          refine ⟨by omega, by rw [List.length_append]; simp; omega, by simp, ?_, by simp⟩
          intro x hx'
          rcases List.mem_append.1 hx' with h | h
          · exact i4 x h
          · simp at h
            subst h
            exact hmem
        · simp only [if_neg hv] at hval ⊢
          refine ⟨by omega, by simp; omega, by simp, ?_, ?_⟩
          · intro x hx'
            simp only [List.mem_singleton] at hx'
            subst hx'
            exact litN_ok _ _ (hval trivial).1 (hval trivial).2
          · intro _
            refine ⟨(hval trivial).1, (hval trivial).2, ?_⟩
            intro x hx'
            rw [hx] at hx'
            obtain rfl := Option.some.inj hx'
            rfl
    · match n, hj with
      | 0, hj => omega
      | n' + 1, hj =>
        obtain ⟨i1, i2, i3, i4, i5⟩ := fold_ok hk1 hk hok hp n' (j - 1) (by omega) (by omega) d hd
        obtain ⟨k1, k2, k3, k4, k5⟩ := fold_ok hk1 hk hok hp n' (d.at0 - 1) (by omega) (by omega) c hcc
        simp only [fold2] at hval ⊢
        by_cases hv : (c.val.1 || d.val.1) = true
        · simp only [if_pos hv]
          refine ⟨by omega, by rw [List.length_append, List.length_append]; simp; omega, by simp, ?_, by simp⟩
          intro x hx'
          rcases List.mem_append.1 hx' with h | h
          · rcases List.mem_append.1 h with h | h
            · exact k4 x h
            · exact i4 x h
          · simp at h
            subst h
            exact hmem
        · simp only [if_neg hv] at hval ⊢
          refine ⟨by omega, by simp; omega, by simp, ?_, ?_⟩
          · intro x hx'
            simp only [List.mem_singleton] at hx'
            subst hx'
            exact litN_ok _ _ (hval trivial).1 (hval trivial).2
          · intro _
            refine ⟨(hval trivial).1, (hval trivial).2, ?_⟩
            intro x hx'
            rw [hx] at hx'
            obtain rfl := Option.some.inj hx'
            rfl
theorem sub_get (t : List Nd) (a j i : Nat) (x : Nd) (h : ((t.drop a).take (j + 1 - a))[i]? = some x) : t[a + i]? = some x ∧ i < j + 1 - a := by
  rw [List.getElem?_take] at h
  split at h
  · rw [List.getElem?_drop] at h
    exact ⟨h, by assumption⟩
  · cases h
theorem sub_novar (t : List Nd) (a j : Nat) : NoVar t a j ↔ ∀ x ∈ (t.drop a).take (j + 1 - a), x.1 ≠ 2 := by
  constructor
  · intro h x hx h2
    obtain ⟨i, hi⟩ := List.mem_iff_getElem?.1 hx
    obtain ⟨h3, h4⟩ := sub_get t a j i x hi
    obtain ⟨x1, x2⟩ := x
    simp only at h2
    subst h2
    exact h (a + i) x2 (by omega) (by omega) h3
  · intro h i m h0 h1 h2
    refine h (2, m) ?_ rfl
    apply List.mem_iff_getElem?.2
    refine ⟨i - a, ?_⟩
    rw [List.getElem?_take, if_pos (by omega), List.getElem?_drop, show a + (i - a) = i by omega]
    exact h2
end Go.Proofs.YtpgojamabmpjnaaDoor
