/-
  A folded tree whole, and a folded term: the model's l2Fold, FoldTerm.
-/
import Derived.Test.YtjbfembblgkakaaDoorFold3
namespace Go.Proofs.YtjbfembblgkakaaDoor
open Go Go.RowKit
open M
set_option linter.unusedVariables false

section
variable {k : Nat} {vars : Int} {t : List Nd} {b off cap : Nat} {p : List (Ent Int)}
theorem l2Fold_any (hk1 : 1 ≤ k) (hk : k ≤ 64) (hok : ∀ x ∈ t, NdOk x) (hsm : ∀ x ∈ t, x.1 = 2 → x.2 ≤ 1000000) (hl : t.length ≤ 1048576) (hcap : t.length ≤ cap) (hcm : cap ≤ 9223372036854775807)
    (hp : pileE k vars (val0 []) (val1 k) (val2 k) t t.length = some p) :
    ∀ (n j : Nat), j ≤ n → j < t.length → ∀ (f : Ent FV), TreeAt k vars fold0 (fold1 k) (fold2 k) t j f → ∀ (w : World), b < w.heap.size → Cells w b off t →
    Calls Tryd.prog 87 #[.int .i64 k, .slice (some ⟨b, off, none⟩) t.length cap, .int .i64 j] w fun e w' => ∃ v, e = .returned v ∧ OwnNodes w' w.heap.size v f.val.2.2 ∧ Below w.heap.size w w'
  | n, j, hjn, hj, f, hf, w, hlt, hc => by
    obtain ⟨e, he⟩ := tree_exists hp hj
    obtain ⟨t1, t2, t3, t4⟩ := tree_two j j (Nat.le_refl _) e f he hf
    obtain ⟨o1, o2, o3, o4, o5⟩ := fold_ok hk1 hk hok hp j j (Nat.le_refl _) hj f hf
    have g1 := l2From_any b off cap t hl w hc j j (Nat.le_refl _) f hf
    have gv := l2Vars_cut b off cap f.at0 j t hj o1 hl hok hsm w hlt hc
    obtain ⟨b1, b2⟩ := varsL_both ((t.drop f.at0).take (j + 1 - f.at0))
    have hlen : ((t.drop f.at0).take (j + 1 - f.at0)).length = j + 1 - f.at0 := by
      rw [List.length_take, List.length_drop]
      omega
    rw [← sub_novar, ← t4] at b2
    rw [hlen] at b1
    by_cases hv : f.val.1 = false
    · have hnil := b2.2 hv
      rw [hnil] at gv
      obtain ⟨⟨op, m⟩, hx, _⟩ := tree_cases hf
      obtain ⟨c0, c1⟩ := hc j (op, m) hx
      obtain ⟨v0, v1, v2⟩ := o5 hv
      rw [v2 _ hx]
      refine l2Fold_novar b off t.length cap j f.at0 k op m w hj hl hcap hcm o1 c0 c1 hlt g1 f.val.2.1 ?_ ?_
      · refine gv.mono ?_
        rintro e' w' ⟨v, rfl, ⟨_, h⟩, hb⟩
        rw [h rfl]
        exact ⟨rfl, hb⟩
      · intro w1 hb
        rw [t3 hv]
        exact l2Value_any hk1 hk (fun x hx => (hok x hx).2.2.1) (by simp) hl (by simp) j j (Nat.le_refl _) e he (fun i m h0 h1 h2 => absurd h2 (t4.1 hv i m (by omega) h1)) w1 (Nat.lt_of_lt_of_le hlt hb.size) (hc.below hlt hb) (Or.inl ⟨rfl, none, 0, rfl⟩)
    · have hne : varsL ((t.drop f.at0).take (j + 1 - f.at0)) ≠ [] := fun h => hv (b2.1 h)
      have hvl : 1 ≤ (varsL ((t.drop f.at0).take (j + 1 - f.at0))).length := List.length_pos_iff.2 hne
      have g2 : Calls Tryd.prog 91 #[.slice (some ⟨b, off + f.at0 * 2, none⟩) (j + 1 - f.at0) (cap - f.at0)] w fun e w' => ∃ (va : Option Addr) (vc : Nat), e = .returned (.slice va (varsL ((t.drop f.at0).take (j + 1 - f.at0))).length vc) ∧ Below w.heap.size w w' := by
        refine gv.mono ?_
        rintro e' w' ⟨v, rfl, ⟨⟨_, h⟩, _⟩, hb⟩
        rcases h with ⟨_, h0⟩ | ⟨g, vc, cur, rfl, _⟩
        · omega
        · exact ⟨_, _, rfl, hb⟩
      clear gv b2 he t1 t2 t3 t4 hne
      generalize (varsL ((t.drop f.at0).take (j + 1 - f.at0))).length = vl at *
      obtain ⟨⟨op, m⟩, hx, n1, n2, hcase⟩ := tree_cases hf
      obtain ⟨c0, c1⟩ := hc j (op, m) hx
      simp only at hcase n1 n2 c0 c1
      have ihj : ∀ (j' : Nat) (f' : Ent FV), j' < j → TreeAt k vars fold0 (fold1 k) (fold2 k) t j' f' → ∀ (i : Int) (w1 : World), i.toNat = j' → 0 ≤ i → Below w.heap.size w w1 → Calls Tryd.prog 87 #[.int .i64 k, .slice (some ⟨b, off, none⟩) t.length cap, .int .i64 i] w1 fun e w' => ∃ v, e = .returned v ∧ OwnNodes w' w1.heap.size v f'.val.2.2 ∧ Below w1.heap.size w1 w' := by
        intro j' f' hj' hf' i w1 hi h0 hb
        match n, hjn with
        | 0, hjn => omega
        | n' + 1, hjn =>
          have g := l2Fold_any hk1 hk hok hsm hl hcap hcm hp n' j' (by omega) (by omega) f' hf' w1 (Nat.lt_of_lt_of_le hlt hb.size) (hc.below hlt hb)
          rw [show i = (j' : Int) by omega]
          exact g
      rcases hcase with ⟨m0, rfl⟩ | ⟨m1, hj1, d, hd, hdk, hdj, rfl⟩ | ⟨m2, hj1, d, c, hd, hdk, hd1, hdj, hcc, hck, hcd, rfl⟩
      · simp only [fold0] at hv ⊢
        by_cases h2 : op = 2
        · rw [if_pos h2]
          exact l2Fold_leaf b off t.length cap j j k op m w hj hl hcap hcm (Nat.le_refl _) c0 c1 hlt g1 m0 vl hvl (by omega) g2
        · rw [if_neg h2] at hv
          exact absurd rfl hv
      · obtain ⟨p1, p2, p3, p4, _⟩ := fold_ok hk1 hk hok hp (j - 1) (j - 1) (Nat.le_refl _) (by omega) d hd
        simp only [fold1] at hv ⊢
        by_cases h2 : d.val.1 = true
        · rw [if_pos h2]
          exact l2Fold_one b off t.length cap j d.at0 k op m w hj hl hcap hcm (by omega) c0 c1 hlt g1 hj1 m1 vl hvl (by simp only at b1; omega) g2 d.val.2.2 (by omega) (ihj (j - 1) d (by omega) hd)
        · rw [if_neg h2] at hv
          exact absurd rfl hv
      · obtain ⟨p1, p2, p3, p4, _⟩ := fold_ok hk1 hk hok hp (j - 1) (j - 1) (Nat.le_refl _) (by omega) d hd
        obtain ⟨q1, q2, q3, q4, _⟩ := fold_ok hk1 hk hok hp (d.at0 - 1) (d.at0 - 1) (Nat.le_refl _) (by omega) c hcc
        simp only [fold2] at hv ⊢
        by_cases h2 : (c.val.1 || d.val.1) = true
        · rw [if_pos h2]
          refine l2Fold_two b off t.length cap j c.at0 k op m w hj hl hcap hcm (by omega) c0 c1 hlt g1 hj1 d.at0 hd1 hdj m2 vl hvl (by simp only at b1; omega) g2 d.val.2.2 c.val.2.2 (by omega) (by omega) p3 p4 (ihj (j - 1) d (by omega) hd) ?_ (ihj (d.at0 - 1) c (by omega) hcc)
          intro i w1 hi h0 hb
          have g := l2From_any b off cap t hl w1 (hc.below hlt hb) (j - 1) (j - 1) (Nat.le_refl _) d hd
          rw [show i = ((j - 1 : Nat) : Int) by omega]
          exact g
        · rw [if_neg h2] at hv
          exact absurd rfl hv
end
end Go.Proofs.YtjbfembblgkakaaDoor
