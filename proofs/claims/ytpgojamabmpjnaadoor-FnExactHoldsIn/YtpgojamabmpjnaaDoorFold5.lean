/-
  A folded term: the model's FoldTerm.
-/
import Derived.Test.YtpgojamabmpjnaaDoorFold4
namespace Go.Proofs.YtpgojamabmpjnaaDoor
open Go Go.RowKit
open M
set_option linter.unusedVariables false

/-- a slice whose length is within its capacity -/
def CapOk (v : Value) : Prop := ∀ (a : Option Addr) (n c : Nat), v = .slice a n c → n ≤ c ∧ c ≤ 9223372036854775807
theorem cap_of_own {w : World} {B : Nat} {v : Value} {t : List Nd} (h : OwnNodes w B v t) : CapOk v := by
  intro a n c e
  rcases h.2 with ⟨h1, h2⟩ | ⟨g, cap, cur, h1, _, _, h2, h3, _⟩
  · rw [h1] at e
    simp at e
    omega
  · rw [h1] at e
    simp at e
    unfold maxLen at h3
    omega
theorem fold_len {k : Nat} {vars : Int} {t : List Nd} : ∀ (n j : Nat), j ≤ n → ∀ (f : Ent FV), TreeAt k vars fold0 (fold1 k) (fold2 k) t j f → f.at0 ≤ j ∧ f.val.2.2.length ≤ j + 1 - f.at0
  | n, j, hj, f, hf => by
    obtain ⟨⟨op, m⟩, hx, n1, n2, hcase⟩ := tree_cases hf
    simp only at hcase n1 n2
    rcases hcase with ⟨m0, rfl⟩ | ⟨m1, hj1, d, hd, hdk, hdj, rfl⟩ | ⟨m2, hj1, d, c, hd, hdk, hd1, hdj, hcc, hck, hcd, rfl⟩
    · simp only [fold0]
      refine ⟨Nat.le_refl _, ?_⟩
      split <;> simp
    · match n, hj with
      | 0, hj => omega
      | n' + 1, hj =>
        obtain ⟨i1, i2⟩ := fold_len n' (j - 1) (by omega) d hd
        simp only [fold1]
        refine ⟨by omega, ?_⟩
        split
        · rw [List.length_append]
          simp only [List.length_singleton]
          omega
        · simp only [List.length_singleton]
          omega
    · match n, hj with
      | 0, hj => omega
      | n' + 1, hj =>
        obtain ⟨i1, i2⟩ := fold_len n' (j - 1) (by omega) d hd
        obtain ⟨k1, k2⟩ := fold_len n' (d.at0 - 1) (by omega) c hcc
        simp only [fold2]
        refine ⟨by omega, ?_⟩
        split
        · rw [List.length_append, List.length_append]
          simp only [List.length_singleton]
          omega
        · simp only [List.length_singleton]
          omega
def foldL (wide vars : Int) (t : List Nd) : List Nd :=
  if 0 < kindL wide vars t then
    match pileE wide vars fold0 (fold1 wide.toNat) (fold2 wide.toNat) t t.length with
    | some (f :: _) => f.val.2.2
    | _ => []
  else []
theorem foldL_root {wide vars : Int} {t : List Nd} (h : 0 < kindL wide vars t) : ∃ k : Nat, wide = k ∧ 1 ≤ k ∧ k ≤ 64 ∧ vars ≤ 4 ∧ 1 ≤ t.length ∧ t.length ≤ 48 ∧
    (∃ f, TreeAt k vars fold0 (fold1 k) (fold2 k) t (t.length - 1) f ∧ foldL wide vars t = f.val.2.2) ∧ ∃ p, pileE k vars (val0 []) (val1 k) (val2 k) t t.length = some p := by
  obtain ⟨g1, g2, g3, g4, g5, f, ht, hk⟩ := tree_root (f0 := fold0) (f1 := fold1 wide.toNat) (f2 := fold2 wide.toNat) h
  obtain ⟨_, _, _, _, _, e, he, _⟩ := tree_root (f0 := val0 []) (f1 := val1 wide.toNat) (f2 := val2 wide.toNat) h
  obtain ⟨k, rfl, hk1, hk64⟩ := wideB_true g1
  refine ⟨k, rfl, hk1, hk64, g3, g4, g5, ⟨f, by simpa using ht, ?_⟩, ?_⟩
  · unfold foldL
    rw [if_pos h]
    obtain ⟨r, hr⟩ := ht
    rw [show t.length - 1 + 1 = t.length from by omega] at hr
    rw [hr]
  · obtain ⟨r, hr⟩ := he
    rw [show t.length - 1 + 1 = t.length from by omega] at hr
    exact ⟨e :: r, by simpa using hr⟩
theorem foldTerm_len0 (wide vars : Int) (t : List Nd) : (foldL wide vars t).length ≤ t.length := by
  by_cases h : 0 < kindL wide vars t
  · obtain ⟨k, rfl, _, _, _, h1, _, ⟨f, hf, e⟩, _⟩ := foldL_root h
    have := fold_len (t.length - 1) (t.length - 1) (Nat.le_refl _) f hf
    rw [e]
    omega
  · unfold foldL
    rw [if_neg h]
    simp
theorem foldTerm_reads0 (wide vars : Int) (t : List Nd) (hwide0 : -9223372036854775808 ≤ wide) (hwide1 : wide ≤ 9223372036854775807) (hvars0 : -9223372036854775808 ≤ vars) (hvars1 : vars ≤ 9223372036854775807) (hok : ∀ x ∈ t, NdOk x) (hl : t.length ≤ 1048576) :
    ∀ (w1 : World) (B : Nat) (v1 : Value), OwnNodes w1 B v1 (foldL wide vars t) → NodesAt w1 v1 (foldL wide vars t) := by
  intro w1 B v1 ho
  have hlen := foldTerm_len0 wide vars t
  refine nodes_of_own ?_ (by omega) ho
  by_cases h : 0 < kindL wide vars t
  · obtain ⟨k, rfl, hk1, hk, _, h1, _, ⟨f, hf, e⟩, p, hp⟩ := foldL_root h
    rw [e]
    exact (fold_ok hk1 hk hok hp (t.length - 1) (t.length - 1) (Nat.le_refl _) (by omega) f hf).2.2.2.1
  · unfold foldL
    rw [if_neg h]
    simp
end Go.Proofs.YtpgojamabmpjnaaDoor
