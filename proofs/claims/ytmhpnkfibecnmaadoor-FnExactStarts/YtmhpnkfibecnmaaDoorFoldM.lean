/-
  Plain mathematics for folded terms: the pile with, for each tree, whether a variable is in it, its value where none is, and its folded nodes.
-/
import Derived.Test.YtmhpnkfibecnmaaDoorValueOf
namespace Go.Proofs.YtmhpnkfibecnmaaDoor
open Go Go.RowKit
open M

abbrev FV := Bool × Int × List Nd
/-- the one node of a value -/
def litN (op v : Int) : Nd := (if ownOf op = 2 then 20 else 1, v)
def fold0 (x : Nd) : FV := if x.1 = 2 then (true, 0, [x]) else (false, x.2, [litN x.1 x.2])
def fold1 (k : Nat) (x : Nd) (a : FV) : FV := if a.1 = true then (true, 0, a.2.2 ++ [x]) else (false, val1 k x a.2.1, [litN x.1 (val1 k x a.2.1)])
def fold2 (k : Nat) (x : Nd) (a b : FV) : FV := if (a.1 || b.1) = true then (true, 0, a.2.2 ++ b.2.2 ++ [x]) else (false, doOp k x.1 a.2.1 b.2.1, [litN x.1 (doOp k x.1 a.2.1 b.2.1)])
theorem tree_exists {α : Type} {wide vars : Int} {f0 : Nd → α} {f1 : Nd → α → α} {f2 : Nd → α → α → α} {t : List Nd} {n : Nat} {p : List (Ent α)} (h : pileE wide vars f0 f1 f2 t n = some p) {j : Nat} (hj : j < n) : ∃ e, TreeAt wide vars f0 f1 f2 t j e := by
  obtain ⟨q, hq⟩ := pileE_prefix n p h (j + 1) (by omega)
  obtain ⟨p0, x, _, _, hs⟩ := pileE_step hq
  obtain ⟨_, _, ⟨_, rfl⟩ | ⟨_, d, r, rfl, _, rfl⟩ | ⟨_, d, c, r, rfl, _, _, rfl⟩⟩ := stepE_inv hs
  · exact ⟨_, _, hq⟩
  · exact ⟨_, _, hq⟩
  · exact ⟨_, _, hq⟩
/-- no variable between two nodes -/
def NoVar (t : List Nd) (a j : Nat) : Prop := ∀ (i : Nat) (m : Int), a ≤ i → i ≤ j → t[i]? ≠ some (2, m)
theorem tree_two {k : Nat} {vars : Int} {t : List Nd} : ∀ (n j : Nat), j ≤ n → ∀ (e : Ent Int) (f : Ent FV), TreeAt k vars (val0 []) (val1 k) (val2 k) t j e → TreeAt k vars fold0 (fold1 k) (fold2 k) t j f →
    e.at0 = f.at0 ∧ e.kind = f.kind ∧ (f.val.1 = false → f.val.2.1 = e.val) ∧ (f.val.1 = false ↔ NoVar t f.at0 j)
  | n, j, hj, e, f, he, hf => by
    obtain ⟨⟨op, m⟩, hx, n1, n2, hcase⟩ := tree_cases he
    obtain ⟨y, hy, _, _, hcase'⟩ := tree_cases hf
    rw [hx] at hy
    obtain rfl := Option.some.inj hy
    simp only at hcase hcase' n1 n2
    rcases hcase with ⟨m0, rfl⟩ | ⟨m1, hj1, d, hd, hdk, hdj, rfl⟩ | ⟨m2, hj1, d, c, hd, hdk, hd1, hdj, hcc, hck, hcd, rfl⟩
    · rcases hcase' with ⟨_, rfl⟩ | ⟨m1, _⟩ | ⟨m2, _⟩
      · refine ⟨rfl, rfl, ?_, ?_⟩
        · intro h
          simp only [fold0] at h ⊢
          by_cases h2 : op = 2
          · subst h2
            simp at h
          · simp [val0, h2]
        · simp only [fold0]
          by_cases h2 : op = 2
          · subst h2
            simp only [if_true]
            constructor
            · intro h
              cases h
            · intro h
              exact absurd hx (h j m (Nat.le_refl _) (Nat.le_refl _))
          · simp only [if_neg h2]
            refine ⟨fun _ => ?_, fun _ => trivial⟩
            intro i q h0 h1 h3
            obtain rfl : i = j := by omega
            rw [hx] at h3
            simp at h3
            exact h2 h3.1
      · omega
      · omega
    · rcases hcase' with ⟨m0, _⟩ | ⟨_, _, d', hd', _, hdj', rfl⟩ | ⟨m2, _⟩
      · omega
      · match n, hj with
        | 0, hj => omega
        | n' + 1, hj =>
          obtain ⟨i1, i2, i3, i4⟩ := tree_two n' (j - 1) (by omega) d d' hd hd'
          have hop : op ≠ 2 := by
            intro e
            subst e
            exact absurd m1 (by decide)
          refine ⟨i1, rfl, ?_, ?_⟩
          · intro h
            simp only [fold1] at h ⊢
            split at h
            · cases h
            · rename_i hv
              have hv' : d'.val.1 = false := by simpa using hv
              rw [if_neg hv]
              simp only
              rw [i3 hv']
          · simp only [fold1]
            constructor
            · intro h
              split at h
              · cases h
              · rename_i hv
                have hv' : d'.val.1 = false := by simpa using hv
                have h4 := i4.1 hv'
                intro i q h0 h1 h3
                by_cases e : i = j
                · subst e
                  rw [hx] at h3
                  simp at h3
                  exact hop h3.1
                · exact h4 i q h0 (by omega) h3
            · intro h
              have h4 : d'.val.1 = false := i4.2 (fun i q h0 h1 => h i q h0 (by omega))
              rw [if_neg (by rw [h4]; decide)]
      · omega
    · rcases hcase' with ⟨m0, _⟩ | ⟨m1, _⟩ | ⟨_, _, d', c', hd', _, hd1', hdj', hcc', _, hcd', rfl⟩
      · omega
      · omega
      · match n, hj with
        | 0, hj => omega
        | n' + 1, hj =>
          obtain ⟨i1, i2, i3, i4⟩ := tree_two n' (j - 1) (by omega) d d' hd hd'
          rw [← i1] at hcc'
          obtain ⟨k1, k2, k3, k4⟩ := tree_two n' (d.at0 - 1) (by omega) c c' hcc hcc'
          have hop : op ≠ 2 := by
            intro e
            subst e
            exact absurd m2 (by decide)
          refine ⟨k1, rfl, ?_, ?_⟩
          · intro h
            simp only [fold2] at h ⊢
            split at h
            · cases h
            · rename_i hv
              have hv' : c'.val.1 = false ∧ d'.val.1 = false := by simpa using hv
              rw [if_neg hv]
              simp only
              rw [i3 hv'.2, k3 hv'.1]
              rfl
          · simp only [fold2]
            constructor
            · intro h
              split at h
              · cases h
              · rename_i hv
                have hv' : c'.val.1 = false ∧ d'.val.1 = false := by simpa using hv
                have h4 := i4.1 hv'.2
                have h5 := k4.1 hv'.1
                intro i q h0 h1 h3
                by_cases e : i = j
                · subst e
                  rw [hx] at h3
                  simp at h3
                  exact hop h3.1
                · by_cases hi : i ≤ d.at0 - 1
                  · exact h5 i q h0 hi h3
                  · exact h4 i q (by omega) (by omega) h3
            · intro h
              have h4 : d'.val.1 = false := i4.2 (fun i q h0 h1 => h i q (by omega) (by omega))
              have h5 : c'.val.1 = false := k4.2 (fun i q h0 h1 => h i q h0 (by omega))
              rw [if_neg (by rw [h4, h5]; decide)]
end Go.Proofs.YtmhpnkfibecnmaaDoor
