/-
  Terms that are joined: the model's JoinTerms.
  A folded tree with parts: the model's l2Fold at a node of one part.
  A folded tree whole: the model's l2Fold.
  A folded tree whole, and a folded term: the model's l2Fold, FoldTerm.
  A folded term: the model's FoldTerm.
  What is put for variables: the model's PutAll.
  A slice of slices of nodes that came in, as the walks take it.
  Programs that came in, as the walks take them.
  The laws' sizes of changes, commands and programs.
  The laws' comparisons of changes, commands and programs.
  The laws' copies of changes, commands and programs.
  What the walks of the exact laws of chapter 4 use besides.
  Plain mathematics for terms as trees: a term's tree, its nodes in a row, its kind and size; what the pile makes of trees it makes of all that is read off them. No program stands in it.
  The program's terms as they lie in memory: nodes that are pointed to, each with a row of pointers to its parts; S holds of all blocks that a tree uses.
  Marks that the laws lay into a program: what they may change.
  What is put for variables: the model's PutAll whole.
  Plain mathematics for trees: what a tree comes to, the tree that is folded, the tree with trees put for its variables, and the variables of a term in their order.
  When a circuit is good: the model's l4Gate, l1All and GoodCircuit.
  When a circuit is good: the model's GoodCircuit.
  When a set of clauses is good: the model's and the program's GoodCnf.
  When a program is good: plain mathematics.
  Plain mathematics for trees: the tree that is folded is good, no longer, of the same kind, comes to the same, has the same variables and is folded already; what is put for variables does as their values do.
  Plain mathematics for trees: a list of nodes is the row of one good tree alone; what folded, joined, turned and put terms come to.
  What a good program does with a state: plain mathematics, and what its terms come to.
  When a program is good and when it is small: the model's l7Asks, l7Command, GoodProgram, l7Small, IsSmall.
-/
import Derived.Test.YtmhpnkfibecnmaaDoorTurn
import Derived.Test.YtmhpnkfibecnmaaDoorFold
import Derived.Test.YtmhpnkfibecnmaaDoorArgNodes
import Derived.Test.YtmhpnkfibecnmaaDoorProgOwn
import Derived.Deep.Slices
import Derived.Deep.Strs
import Derived.OpenShut
import Derived.ProofKit
import Derived.Test.YtmhpnkfibecnmaaDoorPairs
import Derived.Test.YtmhpnkfibecnmaaDoorShapes
import Derived.Test.YtmhpnkfibecnmaaDoorStrong
import Derived.Deep.CutRange
import Derived.Deep.RegionWith
import Derived.Test.YtmhpnkfibecnmaaDoorValue
import Derived.Test.YtmhpnkfibecnmaaDoorKind
import Derived.Test.YtmhpnkfibecnmaaDoorOwn5
import Derived.Test.YtmhpnkfibecnmaaDoorOwn3
import Derived.Test.YtmhpnkfibecnmaaDoorGateM2
import Derived.Lib.QuietBelow
import Derived.Test.YtmhpnkfibecnmaaDoorCnf
import Derived.Test.YtmhpnkfibecnmaaDoorValueOf
namespace Go.Proofs.YtmhpnkfibecnmaaDoor
open Go Go.RowKit
open M
set_option linter.unusedVariables false

def saidJoin (wide vars op : Int) (a b : List Nd) : Bool := decide (manyOf op = 2 ∧ kindL wide vars a = partOf op ∧ kindL wide vars b = partOf op ∧ 0 < kindL wide vars (a ++ b ++ [(op, 0)]))
end Go.Proofs.YtmhpnkfibecnmaaDoor

namespace Go.Proofs.YtmhpnkfibecnmaaDoor
open Go Go.RowKit
open M
set_option linter.unusedVariables false

theorem OwnNodes.low {w : World} {B C : Nat} {v : Value} {t : List Nd} (h : OwnNodes w B v t) (hc : C ≤ B) : OwnNodes w C v t := by
  obtain ⟨h1, h2⟩ := h
  refine ⟨h1, ?_⟩
  rcases h2 with h2 | ⟨g, cp, cur, hv, hg, r⟩
  · exact Or.inl h2
  · exact Or.inr ⟨g, cp, cur, hv, Nat.le_trans hc hg, r⟩
theorem one_cells2 (w : World) (op n : Int) : ∀ (j : Nat) (u : Value), ([.int .i64 op, .int .u64 n] : List Value)[j]? = some u → (w.alloc (.cells #[.int .i64 op, .int .u64 n] 159)).cell? ((⟨w.heap.size, 0, none⟩ : Addr).add j) = some u := by
  intro j u hu
  match j, hu with
  | 0, hu => simp at hu; subst hu; simp [Addr.add]
  | 1, hu => simp at hu; subst hu; simp [Addr.add]
end Go.Proofs.YtmhpnkfibecnmaaDoor

namespace Go.Proofs.YtmhpnkfibecnmaaDoor
open Go Go.RowKit
open M
set_option linter.unusedVariables false

theorem vars_foldl : ∀ (l : List Nd) (a : List Int), (l.foldl (fun l x => if x.1 = 2 then putL l x.2 else l) a).length ≤ a.length + l.length ∧ (l.foldl (fun l x => if x.1 = 2 then putL l x.2 else l) a = [] ↔ a = [] ∧ ∀ x ∈ l, x.1 ≠ 2)
  | [], a => by simp
  | x :: l, a => by
    rw [List.foldl_cons]
    have hp := putL_len a x.2
    by_cases h : x.1 = 2
    · rw [if_pos h]
      obtain ⟨h1, h2⟩ := vars_foldl l (putL a x.2)
      refine ⟨by rw [List.length_cons]; omega, ?_, ?_⟩
      · intro h3
        rw [(h2.1 h3).1] at hp
        simp at hp
      · intro h3
        exact absurd h (h3.2 x (by simp))
    · rw [if_neg h]
      obtain ⟨h1, h2⟩ := vars_foldl l a
      refine ⟨by rw [List.length_cons]; omega, ?_, ?_⟩
      · intro h3
        refine ⟨(h2.1 h3).1, ?_⟩
        intro y hy
        rcases List.mem_cons.1 hy with rfl | hy
        · exact h
        · exact (h2.1 h3).2 y hy
      · intro h3
        exact h2.2 ⟨h3.1, fun y hy => h3.2 y (List.mem_cons_of_mem _ hy)⟩
theorem varsL_both (l : List Nd) : (varsL l).length ≤ l.length ∧ (varsL l = [] ↔ ∀ x ∈ l, x.1 ≠ 2) := by
  obtain ⟨h1, h2⟩ := vars_foldl l []
  refine ⟨by unfold varsL; simpa using h1, ?_⟩
  unfold varsL
  rw [h2]
  simp
theorem litN_ok (op v : Int) (h0 : 0 ≤ v) (h1 : v ≤ 18446744073709551615) : NdOk (litN op v) := by
  unfold litN NdOk
  simp only
  split <;> omega
/-- a folded tree is no longer than the tree, and of nodes that can be -/
theorem fold_ok {k : Nat} (hk1 : 1 ≤ k) (hk : k ≤ 64) {vars : Int} {t : List Nd} (hok : ∀ x ∈ t, NdOk x) {N : Nat} {p : List (Ent Int)} (hp : pileE k vars (val0 []) (val1 k) (val2 k) t N = some p) :
    ∀ (n j : Nat), j ≤ n → j < N → ∀ (f : Ent FV), TreeAt k vars fold0 (fold1 k) (fold2 k) t j f →
      f.at0 ≤ j ∧ f.val.2.2.length ≤ j + 1 - f.at0 ∧ f.val.2.2 ≠ [] ∧ (∀ x ∈ f.val.2.2, NdOk x) ∧ (f.val.1 = false → 0 ≤ f.val.2.1 ∧ f.val.2.1 ≤ 18446744073709551615 ∧ ∀ x, t[j]? = some x → f.val.2.2 = [litN x.1 f.val.2.1])
  | n, j, hj, hjN, f, hf => by
    obtain ⟨e, he⟩ := tree_exists hp hjN
    obtain ⟨t1, t2, t3, t4⟩ := tree_two n j hj e f he hf
    have hpw := pw_le k hk
    have hval : f.val.1 = false → 0 ≤ f.val.2.1 ∧ f.val.2.1 ≤ 18446744073709551615 := by
      intro h
      have h4 := t4.1 h
      have hv := tree_ok hk1 hk (st := []) (fun x hx => (hok x hx).2.2.1) (by simp) j j (Nat.le_refl _) e he (fun i m h0 h1 h2 => absurd h2 (h4 i m (by omega) h1))
      have hw := hv.word hk1
      rw [t3 h]
      omega
    clear he t1 t2 t3 t4
    obtain ⟨⟨op, m⟩, hx, n1, n2, hcase⟩ := tree_cases hf
    have hmem := hok (op, m) (List.mem_of_getElem? hx)
    simp only at hcase n1 n2
    rcases hcase with ⟨m0, rfl⟩ | ⟨m1, hj1, d, hd, hdk, hdj, rfl⟩ | ⟨m2, hj1, d, c, hd, hdk, hd1, hdj, hcc, hck, hcd, rfl⟩
    · simp only [fold0] at hval ⊢
      by_cases h2 : op = 2
      · subst h2
        simp only [if_true]
        refine ⟨Nat.le_refl _, by simp, by simp, ?_, by simp⟩
        intro x hx'
        simp at hx'
        subst hx'
        exact hmem
      · simp only [if_neg h2] at hval ⊢
        refine ⟨Nat.le_refl _, by simp, by simp, ?_, ?_⟩
        · intro x hx'
          simp at hx'
          subst hx'
          exact litN_ok _ _ (hval trivial).1 (hval trivial).2
        · intro _
          refine ⟨(hval trivial).1, (hval trivial).2, ?_⟩
          intro x hx'
          rw [hx] at hx'
          obtain rfl := Option.some.inj hx'
          rfl
    · match n, hj with
      | 0, hj => omega
      | n' + 1, hj =>
        obtain ⟨i1, i2, i3, i4, i5⟩ := fold_ok hk1 hk hok hp n' (j - 1) (by omega) (by omega) d hd
        simp only [fold1] at hval ⊢
        by_cases hv : d.val.1 = true
        · simp only [if_pos hv]
          refine ⟨by omega, by rw [List.length_append]; simp; omega, by simp, ?_, by simp⟩
          intro x hx'
          rcases List.mem_append.1 hx' with h | h
          · exact i4 x h
          · simp at h
            subst h
            exact hmem
        · simp only [if_neg hv] at hval ⊢
          refine ⟨by omega, by simp; omega, by simp, ?_, ?_⟩
          · intro x hx'
            simp only [List.mem_singleton] at hx'
            subst hx'
            exact litN_ok _ _ (hval trivial).1 (hval trivial).2
          · intro _
            refine ⟨(hval trivial).1, (hval trivial).2, ?_⟩
            intro x hx'
            rw [hx] at hx'
            obtain rfl := Option.some.inj hx'
            rfl
    · match n, hj with
      | 0, hj => omega
      | n' + 1, hj =>
        obtain ⟨i1, i2, i3, i4, i5⟩ := fold_ok hk1 hk hok hp n' (j - 1) (by omega) (by omega) d hd
        obtain ⟨k1, k2, k3, k4, k5⟩ := fold_ok hk1 hk hok hp n' (d.at0 - 1) (by omega) (by omega) c hcc
        simp only [fold2] at hval ⊢
        by_cases hv : (c.val.1 || d.val.1) = true
        · simp only [if_pos hv]
          refine ⟨by omega, by rw [List.length_append, List.length_append]; simp; omega, by simp, ?_, by simp⟩
          intro x hx'
          rcases List.mem_append.1 hx' with h | h
          · rcases List.mem_append.1 h with h | h
            · exact k4 x h
            · exact i4 x h
          · simp at h
            subst h
            exact hmem
        · simp only [if_neg hv] at hval ⊢
          refine ⟨by omega, by simp; omega, by simp, ?_, ?_⟩
          · intro x hx'
            simp only [List.mem_singleton] at hx'
            subst hx'
            exact litN_ok _ _ (hval trivial).1 (hval trivial).2
          · intro _
            refine ⟨(hval trivial).1, (hval trivial).2, ?_⟩
            intro x hx'
            rw [hx] at hx'
            obtain rfl := Option.some.inj hx'
            rfl
theorem sub_get (t : List Nd) (a j i : Nat) (x : Nd) (h : ((t.drop a).take (j + 1 - a))[i]? = some x) : t[a + i]? = some x ∧ i < j + 1 - a := by
  rw [List.getElem?_take] at h
  split at h
  · rw [List.getElem?_drop] at h
    exact ⟨h, by assumption⟩
  · cases h
theorem sub_novar (t : List Nd) (a j : Nat) : NoVar t a j ↔ ∀ x ∈ (t.drop a).take (j + 1 - a), x.1 ≠ 2 := by
  constructor
  · intro h x hx h2
    obtain ⟨i, hi⟩ := List.mem_iff_getElem?.1 hx
    obtain ⟨h3, h4⟩ := sub_get t a j i x hi
    obtain ⟨x1, x2⟩ := x
    simp only at h2
    subst h2
    exact h (a + i) x2 (by omega) (by omega) h3
  · intro h i m h0 h1 h2
    refine h (2, m) ?_ rfl
    apply List.mem_iff_getElem?.2
    refine ⟨i - a, ?_⟩
    rw [List.getElem?_take, if_pos (by omega), List.getElem?_drop, show a + (i - a) = i by omega]
    exact h2
/-- a tree's variables, by the model's l2Vars on its cut -/
theorem l2Vars_cut (b off cap a j : Nat) (t : List Nd) (hj : j < t.length) (ha : a ≤ j) (hl : t.length ≤ 1048576) (hok : ∀ x ∈ t, NdOk x) (hsm : ∀ x ∈ t, x.1 = 2 → x.2 ≤ 1000000) (w : World) (hlt : b < w.heap.size) (hc : Cells w b off t) :
    Calls Tryd.prog 71 #[.slice (some ⟨b, off + a * 2, none⟩) (j + 1 - a) (cap - a)] w fun e w' => ∃ v, e = .returned v ∧ VarsOwn w' w.heap.size v (varsL ((t.drop a).take (j + 1 - a))) ∧ Below w.heap.size w w' := by
  have hlen : ((t.drop a).take (j + 1 - a)).length = j + 1 - a := by
    rw [List.length_take, List.length_drop]
    omega
  have hmem : ∀ x ∈ (t.drop a).take (j + 1 - a), x ∈ t := fun x hx => List.mem_of_mem_drop (List.mem_of_mem_take hx)
  have g := l2Vars_in b (off + a * 2) (cap - a) ((t.drop a).take (j + 1 - a)) (by omega) (fun x hx => hok x (hmem x hx)) (fun x hx => hsm x (hmem x hx)) w hlt (by
    intro i x hx
    obtain ⟨h1, _⟩ := sub_get t a j i x hx
    have h2 := hc (a + i) x h1
    rw [show off + a * 2 + i * 2 = off + (a + i) * 2 by omega]
    exact h2)
  rw [hlen] at g
  exact g
end Go.Proofs.YtmhpnkfibecnmaaDoor

namespace Go.Proofs.YtmhpnkfibecnmaaDoor
open Go Go.RowKit
open M
set_option linter.unusedVariables false

section
variable {k : Nat} {vars : Int} {t : List Nd} {b off cap : Nat} {p : List (Ent Int)}
end
end Go.Proofs.YtmhpnkfibecnmaaDoor

namespace Go.Proofs.YtmhpnkfibecnmaaDoor
open Go Go.RowKit
open M
set_option linter.unusedVariables false

/-- a slice whose length is within its capacity -/
def CapOk (v : Value) : Prop := ∀ (a : Option Addr) (n c : Nat), v = .slice a n c → n ≤ c ∧ c ≤ 9223372036854775807
theorem cap_of_own {w : World} {B : Nat} {v : Value} {t : List Nd} (h : OwnNodes w B v t) : CapOk v := by
  intro a n c e
  rcases h.2 with ⟨h1, h2⟩ | ⟨g, cap, cur, h1, _, _, h2, h3, _⟩
  · rw [h1] at e
    simp at e
    omega
  · rw [h1] at e
    simp at e
    unfold maxLen at h3
    omega
theorem fold_len {k : Nat} {vars : Int} {t : List Nd} : ∀ (n j : Nat), j ≤ n → ∀ (f : Ent FV), TreeAt k vars fold0 (fold1 k) (fold2 k) t j f → f.at0 ≤ j ∧ f.val.2.2.length ≤ j + 1 - f.at0
  | n, j, hj, f, hf => by
    obtain ⟨⟨op, m⟩, hx, n1, n2, hcase⟩ := tree_cases hf
    simp only at hcase n1 n2
    rcases hcase with ⟨m0, rfl⟩ | ⟨m1, hj1, d, hd, hdk, hdj, rfl⟩ | ⟨m2, hj1, d, c, hd, hdk, hd1, hdj, hcc, hck, hcd, rfl⟩
    · simp only [fold0]
      refine ⟨Nat.le_refl _, ?_⟩
      split <;> simp
    · match n, hj with
      | 0, hj => omega
      | n' + 1, hj =>
        obtain ⟨i1, i2⟩ := fold_len n' (j - 1) (by omega) d hd
        simp only [fold1]
        refine ⟨by omega, ?_⟩
        split
        · rw [List.length_append]
          simp only [List.length_singleton]
          omega
        · simp only [List.length_singleton]
          omega
    · match n, hj with
      | 0, hj => omega
      | n' + 1, hj =>
        obtain ⟨i1, i2⟩ := fold_len n' (j - 1) (by omega) d hd
        obtain ⟨k1, k2⟩ := fold_len n' (d.at0 - 1) (by omega) c hcc
        simp only [fold2]
        refine ⟨by omega, ?_⟩
        split
        · rw [List.length_append, List.length_append]
          simp only [List.length_singleton]
          omega
        · simp only [List.length_singleton]
          omega
def foldL (wide vars : Int) (t : List Nd) : List Nd :=
  if 0 < kindL wide vars t then
    match pileE wide vars fold0 (fold1 wide.toNat) (fold2 wide.toNat) t t.length with
    | some (f :: _) => f.val.2.2
    | _ => []
  else []
theorem foldL_root {wide vars : Int} {t : List Nd} (h : 0 < kindL wide vars t) : ∃ k : Nat, wide = k ∧ 1 ≤ k ∧ k ≤ 64 ∧ vars ≤ 4 ∧ 1 ≤ t.length ∧ t.length ≤ 48 ∧
    (∃ f, TreeAt k vars fold0 (fold1 k) (fold2 k) t (t.length - 1) f ∧ foldL wide vars t = f.val.2.2) ∧ ∃ p, pileE k vars (val0 []) (val1 k) (val2 k) t t.length = some p := by
  obtain ⟨g1, g2, g3, g4, g5, f, ht, hk⟩ := tree_root (f0 := fold0) (f1 := fold1 wide.toNat) (f2 := fold2 wide.toNat) h
  obtain ⟨_, _, _, _, _, e, he, _⟩ := tree_root (f0 := val0 []) (f1 := val1 wide.toNat) (f2 := val2 wide.toNat) h
  obtain ⟨k, rfl, hk1, hk64⟩ := wideB_true g1
  refine ⟨k, rfl, hk1, hk64, g3, g4, g5, ⟨f, by simpa using ht, ?_⟩, ?_⟩
  · unfold foldL
    rw [if_pos h]
    obtain ⟨r, hr⟩ := ht
    rw [show t.length - 1 + 1 = t.length from by omega] at hr
    rw [hr]
  · obtain ⟨r, hr⟩ := he
    rw [show t.length - 1 + 1 = t.length from by omega] at hr
    exact ⟨e :: r, by simpa using hr⟩
theorem foldTerm_len0 (wide vars : Int) (t : List Nd) : (foldL wide vars t).length ≤ t.length := by
  by_cases h : 0 < kindL wide vars t
  · obtain ⟨k, rfl, _, _, _, h1, _, ⟨f, hf, e⟩, _⟩ := foldL_root h
    have := fold_len (t.length - 1) (t.length - 1) (Nat.le_refl _) f hf
    rw [e]
    omega
  · unfold foldL
    rw [if_neg h]
    simp
theorem foldTerm_reads0 (wide vars : Int) (t : List Nd) (hwide0 : -9223372036854775808 ≤ wide) (hwide1 : wide ≤ 9223372036854775807) (hvars0 : -9223372036854775808 ≤ vars) (hvars1 : vars ≤ 9223372036854775807) (hok : ∀ x ∈ t, NdOk x) (hl : t.length ≤ 1048576) :
    ∀ (w1 : World) (B : Nat) (v1 : Value), OwnNodes w1 B v1 (foldL wide vars t) → NodesAt w1 v1 (foldL wide vars t) := by
  intro w1 B v1 ho
  have hlen := foldTerm_len0 wide vars t
  refine nodes_of_own ?_ (by omega) ho
  by_cases h : 0 < kindL wide vars t
  · obtain ⟨k, rfl, hk1, hk, _, h1, _, ⟨f, hf, e⟩, p, hp⟩ := foldL_root h
    rw [e]
    exact (fold_ok hk1 hk hok hp (t.length - 1) (t.length - 1) (Nat.le_refl _) (by omega) f hf).2.2.2.1
  · unfold foldL
    rw [if_neg h]
    simp
end Go.Proofs.YtmhpnkfibecnmaaDoor

namespace Go.Proofs.YtmhpnkfibecnmaaDoor
open Go Go.RowKit
open M
set_option linter.unusedVariables false

/-- a slice of slices of nodes -/
def NodesSS (w : World) (v : Value) (bs : List (List Nd)) : Prop :=
  bs.length ≤ 9223372036854775807 ∧ ((bs = [] ∧ ∃ (a : Option Addr) (cap : Nat), v = .slice a 0 cap) ∨
  ∃ b off cap : Nat, v = .slice (some ⟨b, off, none⟩) bs.length cap ∧ b < w.heap.size ∧ ∀ (i : Nat) (t : List Nd), bs[i]? = some t → ∃ u : Value, w.cell? ⟨b, off + i, none⟩ = some u ∧ NodesAt w u t)
theorem NodesSS.below {w w' : World} {v : Value} {bs : List (List Nd)} (h : NodesSS w v bs) (hb : Below w.heap.size w w') : NodesSS w' v bs := by
  obtain ⟨h1, h2⟩ := h
  refine ⟨h1, ?_⟩
  rcases h2 with h2 | ⟨b, off, cap, hv, hlt, hc⟩
  · exact Or.inl h2
  · refine Or.inr ⟨b, off, cap, hv, Nat.lt_of_lt_of_le hlt hb.size, fun i t ht => ?_⟩
    obtain ⟨u, h3, h4⟩ := hc i t ht
    refine ⟨u, ?_, h4.below hb⟩
    rw [hb.cell (p := ⟨b, off + i, none⟩) hlt]
    exact h3
/-- for each variable its nodes, for any other node itself -/
def putsL (bs : List (List Nd)) (t : List Nd) : List Nd := t.flatMap fun x => if x.1 = 2 then bs.getD x.2.toNat [] else [x]
theorem putsL_snoc (bs : List (List Nd)) (t : List Nd) (x : Nd) : putsL bs (t ++ [x]) = putsL bs t ++ (if x.1 = 2 then bs.getD x.2.toNat [] else [x]) := by
  unfold putsL
  rw [List.flatMap_append]
  simp
end Go.Proofs.YtmhpnkfibecnmaaDoor

namespace Go.Proofs.YtmhpnkfibecnmaaDoor
open Go Go.ChangeShapes Go.WideShapes Go.ChangeAt Go.RowKit
open M
set_option linter.unusedVariables false

theorem cellsNodes : Tryd.prog.cellsOf 66 = 1 := by kernel_rfl
theorem nodesAt_cell {H : Type} {enc : TypeId × Value → H} {W : World} {u : Value} {n : Nat} {x : DataW H × List MemPlace}
    (h : DataW.trod enc Tryd.prog W 0 (fun _ => true) true n 66 [u] = some x) : ∃ t : List Nd, NodesAt W u t := by
  rcases Deep.open_slice Tryd.underlying66 h with ⟨hcs, _⟩ | ⟨a, l, c, m, n', D, Pl, hcs, _⟩
  · simp at hcs
    subst hcs
    exact nodesAt_of (d := x.1) (p := x.2) ⟨n, h⟩
  · simp at hcs
    subst hcs
    exact nodesAt_of (d := x.1) (p := x.2) ⟨n, h⟩
end Go.Proofs.YtmhpnkfibecnmaaDoor

namespace Go.Proofs.YtmhpnkfibecnmaaDoor
open Go Go.ChangeShapes Go.WideShapes Go.ChangeAt Go.RowKit
open M
set_option linter.unusedVariables false

theorem cellsInt7 : Tryd.prog.cellsOf 3 = 1 := by kernel_rfl
theorem cellsNodes7 : Tryd.prog.cellsOf 66 = 1 := by kernel_rfl
theorem cellsChs7 : Tryd.prog.cellsOf 161 = 1 := by kernel_rfl
theorem cellsCms7 : Tryd.prog.cellsOf 67 = 1 := by kernel_rfl
theorem cellsCh7 : Tryd.prog.cellsOf 200 = 2 := by kernel_rfl
theorem cellsCm7 : Tryd.prog.cellsOf 163 = 2 := by kernel_rfl
theorem two_cells7 {w : World} {a : Addr} {cs : List Value} (h : w.cells? 0 a 2 = some cs) : ∃ c0 c1, cs = [c0, c1] ∧ w.cell? a = some c0 ∧ w.cell? (a.add 1) = some c1 := by
  obtain ⟨_, hl, hc⟩ := World.cells?_some h
  match cs, hl with
  | [c0, c1], _ =>
    refine ⟨c0, c1, rfl, ?_, ?_⟩
    · have h0 := hc 0 (by omega)
      simpa [Addr.add] using h0
    · have h1 := hc 1 (by omega)
      simpa using h1
theorem nodes7 {H : Type} {enc : TypeId × Value → H} {W : World} {u : Value} {n : Nat} {x : DataW H × List MemPlace}
    (h : DataW.trod enc Tryd.prog W 0 (fun _ => true) true n 66 [u] = some x) : ∃ t : List Nd, NodesAt W u t := by
  rcases Deep.open_slice Tryd.underlying66 h with ⟨hcs, _⟩ | ⟨a, l, c, m, n', D, Pl, hcs, _⟩
  · simp at hcs
    subst hcs
    exact nodesAt_of (d := x.1) (p := x.2) ⟨n, h⟩
  · simp at hcs
    subst hcs
    exact nodesAt_of (d := x.1) (p := x.2) ⟨n, h⟩
theorem pairsAt_of {α : Type} [Inhabited α] {V : World → α → Value → Value → Prop} {H : Type} {enc : TypeId × Value → H} {W : World} {tS tE : TypeId} (hS : Tryd.prog.underlying tS = some (.slice tE)) (hE : Tryd.prog.cellsOf tE = 2)
    (hV : ∀ (n : Nat) (c0 c1 : Value) (x : DataW H × List MemPlace), DataW.trod enc Tryd.prog W 0 (fun _ => true) true n tE [c0, c1] = some x → ∃ a : α, V W a c0 c1)
    {m0 : Nat} {v : Value} {y : DataW H × List MemPlace} (hf : DataW.trod enc Tryd.prog W 0 (fun _ => true) true m0 tS [v] = some y) : ∃ cs : List α, PairsAt V W v cs := by
  rcases Deep.open_slice hS hf with ⟨hcs, _⟩ | ⟨x, len, cap, m, n, D, Pl, hcs, _, hl, hm, hmm, _, hel⟩
  · simp at hcs
    subst hcs
    exact ⟨[], by simp, Or.inl ⟨rfl, none, 0, rfl⟩⟩
  · simp at hcs
    subst hcs
    have hmx := hm
    unfold maxLen at hmx
    simp only [if_true] at hmm
    subst hmm
    rw [hE] at hel
    have each : ∀ i, i < len → ∃ q : α × Value × Value, W.cell? (x.add (i * 2)) = some q.2.1 ∧ W.cell? (x.add (i * 2 + 1)) = some q.2.2 ∧ V W q.1 q.2.1 q.2.2 := by
      intro i hi
      obtain ⟨cs', hc, ht⟩ := hel i (by omega)
      obtain ⟨c0, c1, rfl, k0, k1⟩ := two_cells7 hc
      obtain ⟨a, ha⟩ := hV _ _ _ _ ht
      rw [Deep.add_add] at k1
      exact ⟨(a, c0, c1), k0, k1, ha⟩
    obtain ⟨f, hf⟩ := Deep.choose_lt each
    refine ⟨(List.range len).map (fun i => (f i).1), by simpa using (by omega), ?_⟩
    by_cases h0 : len = 0
    · subst h0
      exact Or.inl ⟨rfl, _, _, rfl⟩
    · obtain ⟨b, off, spot⟩ := x
      have hc := (hf 0 (by omega)).1
      have hspot : spot = none := by simpa [Addr.add] using World.cell?_spot hc
      subst hspot
      refine Or.inr ⟨b, off, _, by rw [List.length_map, List.length_range], ?_, ?_⟩
      · have h1 : W.cell? ⟨b, off, none⟩ = some (f 0).2.1 := by simpa [Addr.add] using hc
        by_cases hb : b < W.heap.size
        · exact hb
        · have e : W.heap[b]? = none := Array.getElem?_eq_none (by omega)
          simp [World.cell?, e] at h1
      · intro i y hy
        have hi : i < len := by
          have := (List.getElem?_eq_some_iff.1 hy).1
          simpa using this
        have hy' : y = (f i).1 := by
          simp [hi] at hy
          exact hy.symm
        subst hy'
        obtain ⟨k0, k1, k2⟩ := hf i hi
        refine ⟨(f i).2.1, (f i).2.2, ?_, ?_, k2⟩
        · by_cases hi0 : i = 0
          · subst hi0
            simpa [Addr.add] using k0
          · simpa [Addr.add, show ¬ i * 2 = 0 from by omega] using k0
        · simpa [Addr.add, Nat.add_assoc] using k1
theorem change7 {H : Type} {enc : TypeId × Value → H} {W : World} (n : Nat) (c0 c1 : Value) (x : DataW H × List MemPlace) (h : DataW.trod enc Tryd.prog W 0 (fun _ => true) true n 200 [c0, c1] = some x) : ∃ c : Ch, ChV W c c0 c1 := by
  obtain ⟨y0, y1, m, _, hl, h0, h1⟩ := trod_two Tryd.underlying200 h
  simp only [cellsInt7, cellsNodes7] at h0 h1
  obtain ⟨a, e0, _, wa⟩ := DataW.trod_int Tryd.underlying3 h0
  simp at e0 h1
  subst e0
  obtain ⟨t, ht⟩ := nodes7 h1
  exact ⟨(a, t), bounds_i64 wa, rfl, ht⟩
theorem command7 {H : Type} {enc : TypeId × Value → H} {W : World} (n : Nat) (c0 c1 : Value) (x : DataW H × List MemPlace) (h : DataW.trod enc Tryd.prog W 0 (fun _ => true) true n 163 [c0, c1] = some x) : ∃ c : Cm, CmV W c c0 c1 := by
  obtain ⟨y0, y1, m, _, hl, h0, h1⟩ := trod_two Tryd.underlying163 h
  simp only [cellsChs7, cellsNodes7] at h0 h1
  simp at h0 h1
  obtain ⟨t, ht⟩ := nodes7 h0
  obtain ⟨cs, hcs⟩ := pairsAt_of Tryd.underlying161 cellsCh7 change7 h1
  exact ⟨(t, cs), ht, hcs⟩
theorem trod_four {H : Type} {enc : TypeId × Value → H} {P : Program} {w : World} {base : Nat} {spare : Nat → Bool} {held : Bool} {t : TypeId} {f0 f1 f2 f3 : Field} {fuel : Nat} {cs : List Value} {x : DataW H × List MemPlace} (ht : P.underlying t = some (.struct #[f0, f1, f2, f3])) (h : DataW.trod enc P w base spare held fuel t cs = some x) :
    ∃ y0 y1 y2 y3 n, DataW.trod enc P w base spare held n f0.type ((cs.drop f0.offset).take (P.cellsOf f0.type)) = some y0 ∧
      DataW.trod enc P w base spare held n f1.type ((cs.drop f1.offset).take (P.cellsOf f1.type)) = some y1 ∧ DataW.trod enc P w base spare held n f2.type ((cs.drop f2.offset).take (P.cellsOf f2.type)) = some y2 ∧ DataW.trod enc P w base spare held n f3.type ((cs.drop f3.offset).take (P.cellsOf f3.type)) = some y3 := by
  obtain ⟨xs, n, _, rfl, hl, hlen, hf⟩ := DataW.trod_struct ht h
  match xs, hlen with
  | [y0, y1, y2, y3], _ => exact ⟨y0, y1, y2, y3, n, by simpa using hf 0 f0 rfl, by simpa using hf 1 f1 rfl, by simpa using hf 2 f2 rfl, by simpa using hf 3 f3 rfl⟩
set_option maxRecDepth 100000 in
theorem progAt_of {H : Type} {enc : TypeId × Value → H} {W : World} {base : Nat} {v : Value} {d : DataW H} {p : List MemPlace} (hv : Value.okWide Tryd.prog W .any base 69 v)
    (h : DataW.Trod enc Tryd.prog W 0 (fun _ => true) true 69 v d p) : ∃ q : Pg, AtProg W v q := by
  obtain ⟨cs, rfl, hsz⟩ := okWide_struct Tryd.underlying69 hv
  obtain ⟨fuel, hf⟩ := h
  obtain ⟨y0, y1, y2, y3, m, h0, h1, h2, h3⟩ := trod_four Tryd.underlying69 hf
  simp only [cellsInt7, cellsNodes7, cellsCms7] at h0 h1 h2 h3
  have hsz2 : cs.size = 4 := hsz.trans (by kernel_rfl)
  obtain ⟨l⟩ := cs
  match l, hsz2 with
  | [c0, c1, c2, c3], _ =>
    obtain ⟨a, e0, _, wa⟩ := DataW.trod_int Tryd.underlying3 h0
    obtain ⟨b, e1, _, wb⟩ := DataW.trod_int Tryd.underlying3 h1
    simp [Value.cells] at e0 e1 h2 h3
    subst e0 e1
    obtain ⟨t, ht⟩ := nodes7 h2
    obtain ⟨cms, hcms⟩ := pairsAt_of Tryd.underlying67 cellsCm7 command7 h3
    exact ⟨(a, b, t, cms), bounds_i64 wa, bounds_i64 wb, _, _, rfl, ht, hcms⟩
end Go.Proofs.YtmhpnkfibecnmaaDoor

namespace Go.Proofs.YtmhpnkfibecnmaaDoor
open Go Go.RowKit
open M
set_option linter.unusedVariables false
set_option linter.unusedSimpArgs false

set_option maxRecDepth 100000 in
theorem szChange_any (x y : Value) (c : Ch) (left : Int) (h0 : 0 ≤ left) (h1 : left ≤ 1048576) (w : World) (h : ChV w c x y) :
    Calls Tryd.prog 152 #[.agg #[x, y], .int .i64 left] w fun e w' => e = .returned (.int .i64 (leftN left (sCh c))) ∧ Below w.heap.size w w' := by
  obtain ⟨_, rfl, h2⟩ := h
  have hl := h2.2.1
  obtain ⟨a, cap, rfl⟩ := h2.shape
  unfold sCh
  have HB : Hid (Below w.heap.size w (w.alloc (.cells #[.int .i64 c.1, .slice a c.2.length cap] 200))) := (Below.refl _ _).alloc (Nat.le_refl _) _
  have g := szNodeS_any a c.2.length cap left hl h0 (by omega) (w.alloc (.cells #[.int .i64 c.1, .slice a c.2.length cap] 200))
  generalize c.2.length = n at *
  generalize c.1 = k at *
  clear h2
  by_cases h : left < n
  · rw [if_pos h] at g
    rw [leftN_no h]
    clear h
    go_enter Tryd.func152, Tryd.ntmps152
    go_wp2_with fail
    refine g.mono ?_
    rintro e w1 ⟨rfl, rfl⟩
    clear g
    go_wp2_with fail
    go_ret
    exact ⟨rfl, HB.out⟩
  · rw [if_neg h] at g
    rw [leftN_yes (by omega)]
    go_enter Tryd.func152, Tryd.ntmps152
    go_wp2_with fail
    refine g.mono ?_
    rintro e w1 ⟨rfl, rfl⟩
    clear g
    go_wp2_with fail
    go_ret
    exact ⟨rfl, HB.out⟩
theorem szChangeS_much (a : Option Addr) (n cp : Nat) (left : Int) (h0 : 0 ≤ left) (h1 : left ≤ 1048576) (hn : n ≤ 9223372036854775807) (hl : left < n) (w : World) :
    Calls Tryd.prog 135 #[.slice a n cp, .int .i64 left] w fun e w' => e = .returned (.int .i64 (-1)) ∧ w' = w := by
  go_enter Tryd.func135, Tryd.ntmps135
  go_wp2_with fail
  go_ret
  exact ⟨rfl, rfl⟩
set_option maxRecDepth 100000 in
set_option maxHeartbeats 1000000 in
theorem szChangeS_any (v : Value) (bs : List Ch) (left : Int) (h0 : 0 ≤ left) (h1 : left ≤ 1048576) (w : World) (h : PairsAt ChV w v bs) :
    Calls Tryd.prog 135 #[v, .int .i64 left] w fun e w' => e = .returned (.int .i64 (leftN left (bs.length + sumBy sCh bs))) ∧ Below w.heap.size w w' := by
  have hle := h.1
  obtain ⟨a, cp, rfl, hc⟩ := h.opened
  by_cases hl : (bs.length : Int) ≤ left
  case neg =>
    rw [leftN_no (by omega)]
    exact (szChangeS_much a bs.length cp left h0 h1 hle (by omega) w).mono fun e w' ⟨he, hw⟩ => ⟨he, by rw [hw]; exact Below.refl _ _⟩
  have HCS : Hid (∀ w1 : World, Below w.heap.size w w1 → ∀ (i : Nat) (c : Ch), bs[i]? = some c → ∃ b off : Nat, a = some ⟨b, off, none⟩ ∧ ∃ x y : Value, w1.cell? ⟨b, off + i * 2, none⟩ = some x ∧ w1.cell? ⟨b, off + i * 2 + 1, none⟩ = some y ∧ ChV w1 c x y) := fun w1 hb i c hi => by
    obtain ⟨b, off, e, hlt, x, y, h3, h4, h5⟩ := hc i c hi
    exact ⟨b, off, e, x, y, by rw [hb.cell (p := ⟨b, off + i * 2, none⟩) hlt]; exact h3, by rw [hb.cell (p := ⟨b, off + i * 2 + 1, none⟩) hlt]; exact h4, chV_frame _ _ _ _ _ h5 hb⟩
  clear h hc
  generalize hR : leftN left (bs.length + sumBy sCh bs) = R at *
  have HR : Hid _ := hR
  clear hR
  go_enter Tryd.func135, Tryd.ntmps135
  go_wp2_with fail
  go_loopw [1, 5] (fun l i wr => ∃ j : Nat, j ≤ bs.length ∧ i = .int .i64 j ∧ l = .int .i64 (left - bs.length - sumBy sCh (bs.take j)) ∧ 0 ≤ left - bs.length - sumBy sCh (bs.take j) ∧ Hid (Below w.heap.size w wr)) (fun _ i _ => bs.length - (intOf i).toNat)
  case atStart => exact ⟨0, by omega, rfl, by simp [sumBy], by simp [sumBy]; omega, Below.refl _ _⟩
  case round =>
    obtain ⟨j, hj, rfl, rfl, hpos, HB⟩ := hrel
    by_cases hlt' : j < bs.length
    · obtain ⟨u, hu⟩ : ∃ u, bs[j]? = some u := ⟨bs[j], List.getElem?_eq_getElem hlt'⟩
      obtain ⟨b, off, rfl, x, y, cx, cy, hV⟩ := HCS.out wr HB.out j u hu
      have hs1 := sumBy_snoc sCh bs j u hu
      have hs2 := sumBy_take sCh bs (j + 1)
      have g := szChange_any x y u (left - bs.length - sumBy sCh (bs.take j)) hpos (by omega) wr hV
      clear hu hV HCS
      by_cases h : left - bs.length - sumBy sCh (bs.take j) < sCh u
      · rw [leftN_no h] at g
        have eR : (-1 : Int) = R := by
          have h3 := HR.out
          rw [leftN_no (by omega)] at h3
          exact h3
        clear h
        go_wp2_with fail
        refine g.mono ?_
        rintro e w2 ⟨rfl, hs⟩
        have HB2 : Hid (Below w.heap.size w w2) := HB.out.trans (hs.mono HB.out.size)
        clear g hs
        go_wp2_with fail
        go_ret
        exact ⟨congrArg (fun x => Ending.returned (Value.int .i64 x)) eR, HB2.out⟩
      · rw [leftN_yes (by omega)] at g
        go_wp2_with fail
        refine g.mono ?_
        rintro e w2 ⟨rfl, hs⟩
        have HB2 : Hid (Below w.heap.size w w2) := HB.out.trans (hs.mono HB.out.size)
        clear g hs
        go_wp2_with fail
        go_roundw
        case rel => exact ⟨j + 1, by omega, by go_num, by go_num, by omega, HB2⟩
        case measure => simp [intOf]; omega
    · obtain rfl : j = bs.length := by omega
      have eR : left - bs.length - sumBy sCh bs = R := by
        have h3 := HR.out
        rw [List.take_length] at hpos
        rw [leftN_yes (by omega)] at h3
        omega
      rw [List.take_length] at *
      clear HCS
      go_wp2_with fail
      go_ret
      exact ⟨congrArg (fun x => Ending.returned (Value.int .i64 x)) eR, HB.out⟩
set_option maxRecDepth 100000 in
theorem szCommand_any (x y : Value) (c : Cm) (left : Int) (h0 : 0 ≤ left) (h1 : left ≤ 1048576) (w : World) (h : CmV w c x y) :
    Calls Tryd.prog 114 #[.agg #[x, y], .int .i64 left] w fun e w' => e = .returned (.int .i64 (leftN left (sCm c))) ∧ Below w.heap.size w w' := by
  obtain ⟨h2, h3⟩ := h
  have hl := h2.2.1
  obtain ⟨a, cap, rfl⟩ := h2.shape
  obtain ⟨a2, cap2, rfl⟩ := h3.shape
  unfold sCm sChs
  generalize hS2 : c.2.length + sumBy sCh c.2 = S2 at *
  have HB : Hid (Below w.heap.size w (w.alloc (.cells #[.slice a c.1.length cap, .slice a2 c.2.length cap2] 163))) := (Below.refl _ _).alloc (Nat.le_refl _) _
  have g := szNodeS_any a c.1.length cap left hl h0 (by omega) (w.alloc (.cells #[.slice a c.1.length cap, .slice a2 c.2.length cap2] 163))
  have G2 : Hid (∀ (l2 : Int), 0 ≤ l2 → l2 ≤ 1048576 → Calls Tryd.prog 135 #[.slice a2 c.2.length cap2, .int .i64 l2] (w.alloc (.cells #[.slice a c.1.length cap, .slice a2 c.2.length cap2] 163)) fun e w' => e = .returned (.int .i64 (leftN l2 S2)) ∧ Below (w.alloc (.cells #[.slice a c.1.length cap, .slice a2 c.2.length cap2] 163)).heap.size (w.alloc (.cells #[.slice a c.1.length cap, .slice a2 c.2.length cap2] 163)) w') := fun l2 q0 q1 => by
    rw [← hS2]
    exact szChangeS_any _ _ l2 q0 q1 _ (h3.below chV_frame HB.out)
  have x0 := box2_alloc w 163 (.slice a c.1.length cap) (.slice a2 c.2.length cap2)
  generalize c.1.length = n at *
  generalize c.2.length = n2 at *
  skip
  clear h2 h3 hS2
  by_cases h : left < n
  · rw [if_pos h] at g
    rw [leftN_no (by omega)]
    clear h G2
    go_enter Tryd.func114, Tryd.ntmps114
    go_wp2_with fail
    refine g.mono ?_
    rintro e w1 ⟨rfl, rfl⟩
    clear g
    go_wp2_with fail
    go_ret
    exact ⟨rfl, HB.out⟩
  · rw [if_neg h] at g
    have g2 := G2.out (left - n) (by omega) (by omega)
    clear G2
    by_cases h' : left - n < S2
    · rw [leftN_no h'] at g2
      rw [leftN_no (by omega)]
      go_enter Tryd.func114, Tryd.ntmps114
      go_wp2_with fail
      refine g.mono ?_
      rintro e w1 ⟨rfl, rfl⟩
      clear g
      go_wp2_with fail
      refine g2.mono ?_
      rintro e w2 ⟨rfl, hs⟩
      have HB2 : Hid (Below w.heap.size w w2) := Below.step HB.out HB.out.size hs
      clear g2 hs
      go_wp2_with fail
      go_ret
      exact ⟨rfl, HB2.out⟩
    · rw [leftN_yes (by omega)] at g2
      rw [leftN_yes (by omega)]
      have eR : left - n - S2 = left - (n + S2 : Nat) := by omega
      go_enter Tryd.func114, Tryd.ntmps114
      go_wp2_with fail
      refine g.mono ?_
      rintro e w1 ⟨rfl, rfl⟩
      clear g
      go_wp2_with fail
      refine g2.mono ?_
      rintro e w2 ⟨rfl, hs⟩
      have HB2 : Hid (Below w.heap.size w w2) := Below.step HB.out HB.out.size hs
      clear g2 hs
      go_wp2_with fail
      go_ret
      exact ⟨congrArg (fun x => Ending.returned (Value.int .i64 x)) (by omega), HB2.out⟩
theorem szCommandS_much (a : Option Addr) (n cp : Nat) (left : Int) (h0 : 0 ≤ left) (h1 : left ≤ 1048576) (hn : n ≤ 9223372036854775807) (hl : left < n) (w : World) :
    Calls Tryd.prog 85 #[.slice a n cp, .int .i64 left] w fun e w' => e = .returned (.int .i64 (-1)) ∧ w' = w := by
  go_enter Tryd.func85, Tryd.ntmps85
  go_wp2_with fail
  go_ret
  exact ⟨rfl, rfl⟩
set_option maxRecDepth 100000 in
set_option maxHeartbeats 1000000 in
theorem szCommandS_any (v : Value) (bs : List Cm) (left : Int) (h0 : 0 ≤ left) (h1 : left ≤ 1048576) (w : World) (h : PairsAt CmV w v bs) :
    Calls Tryd.prog 85 #[v, .int .i64 left] w fun e w' => e = .returned (.int .i64 (leftN left (bs.length + sumBy sCm bs))) ∧ Below w.heap.size w w' := by
  have hle := h.1
  obtain ⟨a, cp, rfl, hc⟩ := h.opened
  by_cases hl : (bs.length : Int) ≤ left
  case neg =>
    rw [leftN_no (by omega)]
    exact (szCommandS_much a bs.length cp left h0 h1 hle (by omega) w).mono fun e w' ⟨he, hw⟩ => ⟨he, by rw [hw]; exact Below.refl _ _⟩
  have HCS : Hid (∀ w1 : World, Below w.heap.size w w1 → ∀ (i : Nat) (c : Cm), bs[i]? = some c → ∃ b off : Nat, a = some ⟨b, off, none⟩ ∧ ∃ x y : Value, w1.cell? ⟨b, off + i * 2, none⟩ = some x ∧ w1.cell? ⟨b, off + i * 2 + 1, none⟩ = some y ∧ CmV w1 c x y) := fun w1 hb i c hi => by
    obtain ⟨b, off, e, hlt, x, y, h3, h4, h5⟩ := hc i c hi
    exact ⟨b, off, e, x, y, by rw [hb.cell (p := ⟨b, off + i * 2, none⟩) hlt]; exact h3, by rw [hb.cell (p := ⟨b, off + i * 2 + 1, none⟩) hlt]; exact h4, cmV_frame _ _ _ _ _ h5 hb⟩
  clear h hc
  generalize hR : leftN left (bs.length + sumBy sCm bs) = R at *
  have HR : Hid _ := hR
  clear hR
  go_enter Tryd.func85, Tryd.ntmps85
  go_wp2_with fail
  go_loopw [1, 5] (fun l i wr => ∃ j : Nat, j ≤ bs.length ∧ i = .int .i64 j ∧ l = .int .i64 (left - bs.length - sumBy sCm (bs.take j)) ∧ 0 ≤ left - bs.length - sumBy sCm (bs.take j) ∧ Hid (Below w.heap.size w wr)) (fun _ i _ => bs.length - (intOf i).toNat)
  case atStart => exact ⟨0, by omega, rfl, by simp [sumBy], by simp [sumBy]; omega, Below.refl _ _⟩
  case round =>
    obtain ⟨j, hj, rfl, rfl, hpos, HB⟩ := hrel
    by_cases hlt' : j < bs.length
    · obtain ⟨u, hu⟩ : ∃ u, bs[j]? = some u := ⟨bs[j], List.getElem?_eq_getElem hlt'⟩
      obtain ⟨b, off, rfl, x, y, cx, cy, hV⟩ := HCS.out wr HB.out j u hu
      have hs1 := sumBy_snoc sCm bs j u hu
      have hs2 := sumBy_take sCm bs (j + 1)
      have g := szCommand_any x y u (left - bs.length - sumBy sCm (bs.take j)) hpos (by omega) wr hV
      clear hu hV HCS
      by_cases h : left - bs.length - sumBy sCm (bs.take j) < sCm u
      · rw [leftN_no h] at g
        have eR : (-1 : Int) = R := by
          have h3 := HR.out
          rw [leftN_no (by omega)] at h3
          exact h3
        clear h
        go_wp2_with fail
        refine g.mono ?_
        rintro e w2 ⟨rfl, hs⟩
        have HB2 : Hid (Below w.heap.size w w2) := HB.out.trans (hs.mono HB.out.size)
        clear g hs
        go_wp2_with fail
        go_ret
        exact ⟨congrArg (fun x => Ending.returned (Value.int .i64 x)) eR, HB2.out⟩
      · rw [leftN_yes (by omega)] at g
        go_wp2_with fail
        refine g.mono ?_
        rintro e w2 ⟨rfl, hs⟩
        have HB2 : Hid (Below w.heap.size w w2) := HB.out.trans (hs.mono HB.out.size)
        clear g hs
        go_wp2_with fail
        go_roundw
        case rel => exact ⟨j + 1, by omega, by go_num, by go_num, by omega, HB2⟩
        case measure => simp [intOf]; omega
    · obtain rfl : j = bs.length := by omega
      have eR : left - bs.length - sumBy sCm bs = R := by
        have h3 := HR.out
        rw [List.take_length] at hpos
        rw [leftN_yes (by omega)] at h3
        omega
      rw [List.take_length] at *
      clear HCS
      go_wp2_with fail
      go_ret
      exact ⟨congrArg (fun x => Ending.returned (Value.int .i64 x)) eR, HB.out⟩
set_option maxRecDepth 100000 in
theorem szProgram_any (v : Value) (p : Pg) (left : Int) (h0 : 0 ≤ left) (h1 : left ≤ 1048576) (w : World) (h : AtProg w v p) :
    Calls Tryd.prog 39 #[v, .int .i64 left] w fun e w' => e = .returned (.int .i64 (leftN left (sPg p))) ∧ Below w.heap.size w w' := by
  obtain ⟨_, _, s, c, rfl, h2, h3⟩ := h
  have hl := h2.2.1
  obtain ⟨a, cap, rfl⟩ := h2.shape
  obtain ⟨a2, cap2, rfl⟩ := h3.shape
  unfold sPg sCms
  generalize hS2 : p.2.2.2.length + sumBy sCm p.2.2.2 = S2 at *
  have HB : Hid (Below w.heap.size w (w.alloc (.cells #[.int .i64 p.1, .int .i64 p.2.1, .slice a p.2.2.1.length cap, .slice a2 p.2.2.2.length cap2] 69))) := (Below.refl _ _).alloc (Nat.le_refl _) _
  have g := szNodeS_any a p.2.2.1.length cap left hl h0 (by omega) (w.alloc (.cells #[.int .i64 p.1, .int .i64 p.2.1, .slice a p.2.2.1.length cap, .slice a2 p.2.2.2.length cap2] 69))
  have G2 : Hid (∀ (l2 : Int), 0 ≤ l2 → l2 ≤ 1048576 → Calls Tryd.prog 85 #[.slice a2 p.2.2.2.length cap2, .int .i64 l2] (w.alloc (.cells #[.int .i64 p.1, .int .i64 p.2.1, .slice a p.2.2.1.length cap, .slice a2 p.2.2.2.length cap2] 69)) fun e w' => e = .returned (.int .i64 (leftN l2 S2)) ∧ Below (w.alloc (.cells #[.int .i64 p.1, .int .i64 p.2.1, .slice a p.2.2.1.length cap, .slice a2 p.2.2.2.length cap2] 69)).heap.size (w.alloc (.cells #[.int .i64 p.1, .int .i64 p.2.1, .slice a p.2.2.1.length cap, .slice a2 p.2.2.2.length cap2] 69)) w') := fun l2 q0 q1 => by
    rw [← hS2]
    exact szCommandS_any _ _ l2 q0 q1 _ (h3.below cmV_frame HB.out)
  have x0 := box4_alloc w 69 (.int .i64 p.1) (.int .i64 p.2.1) (.slice a p.2.2.1.length cap) (.slice a2 p.2.2.2.length cap2)
  generalize p.2.2.1.length = n at *
  generalize p.2.2.2.length = n2 at *
  generalize p.1 = pw at *
  generalize p.2.1 = pv at *
  clear h2 h3 hS2
  by_cases h : left < n
  · rw [if_pos h] at g
    rw [leftN_no (by omega)]
    clear h G2
    go_enter Tryd.func39, Tryd.ntmps39
    go_wp2_with fail
    refine g.mono ?_
    rintro e w1 ⟨rfl, rfl⟩
    clear g
    go_wp2_with fail
    go_ret
    exact ⟨rfl, HB.out⟩
  · rw [if_neg h] at g
    have g2 := G2.out (left - n) (by omega) (by omega)
    clear G2
    by_cases h' : left - n < S2
    · rw [leftN_no h'] at g2
      rw [leftN_no (by omega)]
      go_enter Tryd.func39, Tryd.ntmps39
      go_wp2_with fail
      refine g.mono ?_
      rintro e w1 ⟨rfl, rfl⟩
      clear g
      go_wp2_with fail
      refine g2.mono ?_
      rintro e w2 ⟨rfl, hs⟩
      have HB2 : Hid (Below w.heap.size w w2) := Below.step HB.out HB.out.size hs
      clear g2 hs
      go_wp2_with fail
      go_ret
      exact ⟨rfl, HB2.out⟩
    · rw [leftN_yes (by omega)] at g2
      rw [leftN_yes (by omega)]
      have eR : left - n - S2 = left - (n + S2 : Nat) := by omega
      go_enter Tryd.func39, Tryd.ntmps39
      go_wp2_with fail
      refine g.mono ?_
      rintro e w1 ⟨rfl, rfl⟩
      clear g
      go_wp2_with fail
      refine g2.mono ?_
      rintro e w2 ⟨rfl, hs⟩
      have HB2 : Hid (Below w.heap.size w w2) := Below.step HB.out HB.out.size hs
      clear g2 hs
      go_wp2_with fail
      go_ret
      exact ⟨congrArg (fun x => Ending.returned (Value.int .i64 x)) (by omega), HB2.out⟩
theorem szProgram_small (v : Value) (p : Pg) (hok : sPg p ≤ 1048576) (w : World) (h : AtProg w v p) :
    Calls Tryd.prog 39 #[v, .int .i64 1048576] w fun e w' => e = .returned (.int .i64 (1048576 - (sPg p : Int))) ∧ Below w.heap.size w w' := by
  have g := szProgram_any v p 1048576 (by omega) (by omega) w h
  rw [leftN_yes (by omega)] at g
  exact g
theorem szProgram_big (v : Value) (p : Pg) (hok : 1048576 < sPg p) (w : World) (h : AtProg w v p) :
    Calls Tryd.prog 39 #[v, .int .i64 1048576] w fun e w' => e = .returned (.int .i64 (-1)) ∧ Below w.heap.size w w' := by
  have g := szProgram_any v p 1048576 (by omega) (by omega) w h
  rw [leftN_no (by omega)] at g
  exact g
end Go.Proofs.YtmhpnkfibecnmaaDoor

namespace Go.Proofs.YtmhpnkfibecnmaaDoor
open Go Go.RowKit
open M
set_option linter.unusedVariables false
set_option linter.unusedSimpArgs false

set_option maxRecDepth 100000 in
set_option maxHeartbeats 2000000 in
theorem eqChange_same (x y x2 y2 : Value) (c : Ch) (w : World) (h : ChV w c x y) (h' : ChV w c x2 y2) :
    Calls Tryd.prog 154 #[.agg #[x, y], .agg #[x2, y2]] w fun e w' => e = .returned (.bool true) ∧ Below w.heap.size w w' := by
  obtain ⟨_, rfl, h1⟩ := h
  obtain ⟨_, rfl, h2⟩ := h'
  have G : Hid (∀ w1 : World, Below w.heap.size w w1 → Calls Tryd.prog 91 #[y, y2] w1 fun e w' => e = .returned (.bool true) ∧ Below w1.heap.size w1 w') := fun w1 hb => by
    have g := eqNodeS_any _ _ c.2 c.2 w1 (h1.below hb) (h2.below hb)
    rw [decide_eq_true rfl] at g
    exact g
  obtain ⟨a, cap, rfl⟩ := h1.shape
  obtain ⟨a', cap', rfl⟩ := h2.shape
  generalize c.2.length = n at *
  generalize c.1 = ck at *
  clear h1 h2
  have hb2 : Below w.heap.size w ((w.alloc (.cells #[.int .i64 ck, .slice a n cap] 118)).alloc (.cells #[.int .i64 ck, .slice a' n cap'] 118)) := ((Below.refl _ _).alloc (Nat.le_refl _) _).alloc (by rw [World.size_alloc]; omega) _
  have x0 := (box2_alloc w 118 (.int .i64 ck) (.slice a n cap)).alloc (.cells #[.int .i64 ck, .slice a' n cap'] 118)
  have x1 := box2_alloc (w.alloc (.cells #[.int .i64 ck, .slice a n cap] 118)) 118 (.int .i64 ck) (.slice a' n cap')
  simp only [World.size_alloc] at x1
  have hsz : ((w.alloc (.cells #[.int .i64 ck, .slice a n cap] 118)).alloc (.cells #[.int .i64 ck, .slice a' n cap'] 118)).heap.size = w.heap.size + 1 + 1 := by simp only [World.size_alloc]
  go_enter Tryd.func154, Tryd.ntmps154
  go_wp2_with fail
  refine (G.out _ hb2).mono ?_
  generalize ((w.alloc (.cells #[.int .i64 ck, .slice a n cap] 118)).alloc (.cells #[.int .i64 ck, .slice a' n cap'] 118)) = wa at *
  rintro e wn0 ⟨rfl, hs⟩
  have hbn0 := hb2.trans (hs.mono hb2.size)
  have HB : Hid (Below w.heap.size w wn0) := hbn0
  clear hs
  go_wp2_with fail
  go_ret
  exact ⟨rfl, HB.out⟩
set_option maxRecDepth 100000 in
set_option maxHeartbeats 1000000 in
theorem eqChangeS_same (u v : Value) (bs : List Ch) (w : World) (h1 : PairsAt ChV w u bs) (h2 : PairsAt ChV w v bs) :
    Calls Tryd.prog 138 #[u, v] w fun e w' => e = .returned (.bool true) ∧ Below w.heap.size w w' := by
  have hle := h1.1
  obtain ⟨a, cp, rfl, hc⟩ := h1.opened
  obtain ⟨a2, cp2, rfl, hd⟩ := h2.opened
  have HCS : Hid (∀ w1 : World, Below w.heap.size w w1 → ∀ (i : Nat) (c : Ch), bs[i]? = some c → ∃ b off : Nat, a = some ⟨b, off, none⟩ ∧ ∃ x y : Value, w1.cell? ⟨b, off + i * 2, none⟩ = some x ∧ w1.cell? ⟨b, off + i * 2 + 1, none⟩ = some y ∧ ChV w c x y) := fun w1 hb i c hi => by
    obtain ⟨b, off, e, hlt, x, y, h3, h4, h5⟩ := hc i c hi
    exact ⟨b, off, e, x, y, by rw [hb.cell (p := ⟨b, off + i * 2, none⟩) hlt]; exact h3, by rw [hb.cell (p := ⟨b, off + i * 2 + 1, none⟩) hlt]; exact h4, h5⟩
  have HDS : Hid (∀ w1 : World, Below w.heap.size w w1 → ∀ (i : Nat) (c : Ch), bs[i]? = some c → ∃ b off : Nat, a2 = some ⟨b, off, none⟩ ∧ ∃ x y : Value, w1.cell? ⟨b, off + i * 2, none⟩ = some x ∧ w1.cell? ⟨b, off + i * 2 + 1, none⟩ = some y ∧ ChV w c x y) := fun w1 hb i c hi => by
    obtain ⟨b, off, e, hlt, x, y, h3, h4, h5⟩ := hd i c hi
    exact ⟨b, off, e, x, y, by rw [hb.cell (p := ⟨b, off + i * 2, none⟩) hlt]; exact h3, by rw [hb.cell (p := ⟨b, off + i * 2 + 1, none⟩) hlt]; exact h4, h5⟩
  clear h1 h2 hc hd
  go_enter Tryd.func138, Tryd.ntmps138
  go_wp2_with fail
  go_loopw [5] (fun i wr => ∃ j : Nat, j ≤ bs.length ∧ i = .int .i64 j ∧ Hid (Below w.heap.size w wr)) (fun i _ => bs.length - (intOf i).toNat)
  case atStart => exact ⟨0, by omega, rfl, Below.refl _ _⟩
  case round =>
    obtain ⟨j, hj, rfl, HB⟩ := hrel
    by_cases hlt' : j < bs.length
    · obtain ⟨c, hu⟩ : ∃ c, bs[j]? = some c := ⟨bs[j], List.getElem?_eq_getElem hlt'⟩
      obtain ⟨b, off, rfl, x, y, cx, cy, hV⟩ := HCS.out wr HB.out j c hu
      obtain ⟨b2, off2, rfl, x2, y2, cx2, cy2, hV2⟩ := HDS.out wr HB.out j c hu
      have G : Hid (∀ w1 : World, Below w.heap.size w w1 → Calls Tryd.prog 154 #[.agg #[x, y], .agg #[x2, y2]] w1 fun e w' => e = .returned (.bool true) ∧ Below w1.heap.size w1 w') := fun w1 hb => eqChange_same x y x2 y2 c w1 (chV_frame _ _ _ _ _ hV hb) (chV_frame _ _ _ _ _ hV2 hb)
      clear hu hV hV2 HCS HDS
      go_wp2_with fail
      go_region_with (go_at_call 154; refine (G.out _ (by first | exact HB.out | exact HB.out.drew | exact HB.out.drew.drew)).mono ?_; rintro e w2 ⟨rfl, hb2⟩; have HB2 : Hid (Below w.heap.size w w2) := (by first | exact HB.out.trans (hb2.mono HB.out.size) | exact HB.out.drew.trans (hb2.mono HB.out.size) | exact HB.out.drew.drew.trans (hb2.mono HB.out.size)); clear hb2)
      all_goals
        clear G HB
        go_wp2_with fail
        go_roundw
        case rel => exact ⟨j + 1, by omega, by go_num, by assumption⟩
        case measure => simp [intOf]; omega
    · obtain rfl : j = bs.length := by omega
      clear HCS HDS
      go_wp2_with fail
      go_ret
      exact ⟨rfl, HB.out⟩
set_option maxRecDepth 100000 in
set_option maxHeartbeats 2000000 in
theorem eqCommand_same (x y x2 y2 : Value) (c : Cm) (w : World) (h : CmV w c x y) (h' : CmV w c x2 y2) :
    Calls Tryd.prog 121 #[.agg #[x, y], .agg #[x2, y2]] w fun e w' => e = .returned (.bool true) ∧ Below w.heap.size w w' := by
  obtain ⟨h1, k1⟩ := h
  obtain ⟨h2, k2⟩ := h'
  have G : Hid (∀ w1 : World, Below w.heap.size w w1 → Calls Tryd.prog 91 #[x, x2] w1 fun e w' => e = .returned (.bool true) ∧ Below w1.heap.size w1 w') := fun w1 hb => by
    have g := eqNodeS_any _ _ c.1 c.1 w1 (h1.below hb) (h2.below hb)
    rw [decide_eq_true rfl] at g
    exact g
  have G2 : Hid (∀ w1 : World, Below w.heap.size w w1 → Calls Tryd.prog 138 #[y, y2] w1 fun e w' => e = .returned (.bool true) ∧ Below w1.heap.size w1 w') := fun w1 hb => eqChangeS_same _ _ c.2 w1 (k1.below chV_frame hb) (k2.below chV_frame hb)
  obtain ⟨a, cap, rfl⟩ := h1.shape
  obtain ⟨a', cap', rfl⟩ := h2.shape
  obtain ⟨b, bc, rfl⟩ := k1.shape
  obtain ⟨b', bc', rfl⟩ := k2.shape
  generalize c.1.length = n at *
  generalize c.2.length = m at *
  clear h1 h2 k1 k2
  have hb2 : Below w.heap.size w ((w.alloc (.cells #[.slice a n cap, .slice b m bc] 98)).alloc (.cells #[.slice a' n cap', .slice b' m bc'] 98)) := ((Below.refl _ _).alloc (Nat.le_refl _) _).alloc (by rw [World.size_alloc]; omega) _
  have x0 := (box2_alloc w 98 (.slice a n cap) (.slice b m bc)).alloc (.cells #[.slice a' n cap', .slice b' m bc'] 98)
  have x1 := box2_alloc (w.alloc (.cells #[.slice a n cap, .slice b m bc] 98)) 98 (.slice a' n cap') (.slice b' m bc')
  simp only [World.size_alloc] at x1
  have hsz : ((w.alloc (.cells #[.slice a n cap, .slice b m bc] 98)).alloc (.cells #[.slice a' n cap', .slice b' m bc'] 98)).heap.size = w.heap.size + 1 + 1 := by simp only [World.size_alloc]
  go_enter Tryd.func121, Tryd.ntmps121
  go_wp2_with fail
  refine (G.out _ hb2).mono ?_
  generalize ((w.alloc (.cells #[.slice a n cap, .slice b m bc] 98)).alloc (.cells #[.slice a' n cap', .slice b' m bc'] 98)) = wa at *
  rintro e wn0 ⟨rfl, hs⟩
  have hbn0 := hb2.trans (hs.mono hb2.size)
  have x0n := x0.below hs (by omega)
  obtain ⟨x0a, x0b⟩ := x0n.cells
  have x0h := x0n.heap
  have x0l := x0n.lt
  have x1n := x1.below hs (by omega)
  obtain ⟨x1a, x1b⟩ := x1n.cells
  have x1h := x1n.heap
  have x1l := x1n.lt
  clear hs
  go_wp2_with fail
  refine (G2.out _ hbn0).mono ?_
  rintro e wn1 ⟨rfl, hs⟩
  have hbn1 := hbn0.trans (hs.mono hbn0.size)
  have HB : Hid (Below w.heap.size w wn1) := hbn1
  clear hs
  go_wp2_with fail
  go_ret
  exact ⟨rfl, HB.out⟩
set_option maxRecDepth 100000 in
set_option maxHeartbeats 1000000 in
theorem eqCommandS_same (u v : Value) (bs : List Cm) (w : World) (h1 : PairsAt CmV w u bs) (h2 : PairsAt CmV w v bs) :
    Calls Tryd.prog 92 #[u, v] w fun e w' => e = .returned (.bool true) ∧ Below w.heap.size w w' := by
  have hle := h1.1
  obtain ⟨a, cp, rfl, hc⟩ := h1.opened
  obtain ⟨a2, cp2, rfl, hd⟩ := h2.opened
  have HCS : Hid (∀ w1 : World, Below w.heap.size w w1 → ∀ (i : Nat) (c : Cm), bs[i]? = some c → ∃ b off : Nat, a = some ⟨b, off, none⟩ ∧ ∃ x y : Value, w1.cell? ⟨b, off + i * 2, none⟩ = some x ∧ w1.cell? ⟨b, off + i * 2 + 1, none⟩ = some y ∧ CmV w c x y) := fun w1 hb i c hi => by
    obtain ⟨b, off, e, hlt, x, y, h3, h4, h5⟩ := hc i c hi
    exact ⟨b, off, e, x, y, by rw [hb.cell (p := ⟨b, off + i * 2, none⟩) hlt]; exact h3, by rw [hb.cell (p := ⟨b, off + i * 2 + 1, none⟩) hlt]; exact h4, h5⟩
  have HDS : Hid (∀ w1 : World, Below w.heap.size w w1 → ∀ (i : Nat) (c : Cm), bs[i]? = some c → ∃ b off : Nat, a2 = some ⟨b, off, none⟩ ∧ ∃ x y : Value, w1.cell? ⟨b, off + i * 2, none⟩ = some x ∧ w1.cell? ⟨b, off + i * 2 + 1, none⟩ = some y ∧ CmV w c x y) := fun w1 hb i c hi => by
    obtain ⟨b, off, e, hlt, x, y, h3, h4, h5⟩ := hd i c hi
    exact ⟨b, off, e, x, y, by rw [hb.cell (p := ⟨b, off + i * 2, none⟩) hlt]; exact h3, by rw [hb.cell (p := ⟨b, off + i * 2 + 1, none⟩) hlt]; exact h4, h5⟩
  clear h1 h2 hc hd
  go_enter Tryd.func92, Tryd.ntmps92
  go_wp2_with fail
  go_loopw [5] (fun i wr => ∃ j : Nat, j ≤ bs.length ∧ i = .int .i64 j ∧ Hid (Below w.heap.size w wr)) (fun i _ => bs.length - (intOf i).toNat)
  case atStart => exact ⟨0, by omega, rfl, Below.refl _ _⟩
  case round =>
    obtain ⟨j, hj, rfl, HB⟩ := hrel
    by_cases hlt' : j < bs.length
    · obtain ⟨c, hu⟩ : ∃ c, bs[j]? = some c := ⟨bs[j], List.getElem?_eq_getElem hlt'⟩
      obtain ⟨b, off, rfl, x, y, cx, cy, hV⟩ := HCS.out wr HB.out j c hu
      obtain ⟨b2, off2, rfl, x2, y2, cx2, cy2, hV2⟩ := HDS.out wr HB.out j c hu
      have G : Hid (∀ w1 : World, Below w.heap.size w w1 → Calls Tryd.prog 121 #[.agg #[x, y], .agg #[x2, y2]] w1 fun e w' => e = .returned (.bool true) ∧ Below w1.heap.size w1 w') := fun w1 hb => eqCommand_same x y x2 y2 c w1 (cmV_frame _ _ _ _ _ hV hb) (cmV_frame _ _ _ _ _ hV2 hb)
      clear hu hV hV2 HCS HDS
      go_wp2_with fail
      go_region_with (go_at_call 121; refine (G.out _ (by first | exact HB.out | exact HB.out.drew | exact HB.out.drew.drew)).mono ?_; rintro e w2 ⟨rfl, hb2⟩; have HB2 : Hid (Below w.heap.size w w2) := (by first | exact HB.out.trans (hb2.mono HB.out.size) | exact HB.out.drew.trans (hb2.mono HB.out.size) | exact HB.out.drew.drew.trans (hb2.mono HB.out.size)); clear hb2)
      all_goals
        clear G HB
        go_wp2_with fail
        go_roundw
        case rel => exact ⟨j + 1, by omega, by go_num, by assumption⟩
        case measure => simp [intOf]; omega
    · obtain rfl : j = bs.length := by omega
      clear HCS HDS
      go_wp2_with fail
      go_ret
      exact ⟨rfl, HB.out⟩
set_option maxRecDepth 100000 in
set_option maxHeartbeats 2000000 in
theorem eqProgram_same (u v : Value) (p : Pg) (w : World) (h : AtProg w u p) (h' : AtProg w v p) :
    Calls Tryd.prog 44 #[u, v] w fun e w' => e = .returned (.bool true) ∧ Below w.heap.size w w' := by
  obtain ⟨_, _, x, y, rfl, h1, k1⟩ := h
  obtain ⟨_, _, x2, y2, rfl, h2, k2⟩ := h'
  have G : Hid (∀ w1 : World, Below w.heap.size w w1 → Calls Tryd.prog 91 #[x, x2] w1 fun e w' => e = .returned (.bool true) ∧ Below w1.heap.size w1 w') := fun w1 hb => by
    have g := eqNodeS_any _ _ p.2.2.1 p.2.2.1 w1 (h1.below hb) (h2.below hb)
    rw [decide_eq_true rfl] at g
    exact g
  have G2 : Hid (∀ w1 : World, Below w.heap.size w w1 → Calls Tryd.prog 92 #[y, y2] w1 fun e w' => e = .returned (.bool true) ∧ Below w1.heap.size w1 w') := fun w1 hb => eqCommandS_same _ _ p.2.2.2 w1 (k1.below cmV_frame hb) (k2.below cmV_frame hb)
  obtain ⟨a, cap, rfl⟩ := h1.shape
  obtain ⟨a', cap', rfl⟩ := h2.shape
  obtain ⟨b, bc, rfl⟩ := k1.shape
  obtain ⟨b', bc', rfl⟩ := k2.shape
  generalize p.2.2.1.length = n at *
  generalize p.2.2.2.length = m at *
  generalize p.1 = pw at *
  generalize p.2.1 = pv at *
  clear h1 h2 k1 k2
  have hb2 : Below w.heap.size w ((w.alloc (.cells #[.int .i64 pw, .int .i64 pv, .slice a n cap, .slice b m bc] 27)).alloc (.cells #[.int .i64 pw, .int .i64 pv, .slice a' n cap', .slice b' m bc'] 27)) := ((Below.refl _ _).alloc (Nat.le_refl _) _).alloc (by rw [World.size_alloc]; omega) _
  have x0 := (box4_alloc w 27 (.int .i64 pw) (.int .i64 pv) (.slice a n cap) (.slice b m bc)).alloc (.cells #[.int .i64 pw, .int .i64 pv, .slice a' n cap', .slice b' m bc'] 27)
  have x1 := box4_alloc (w.alloc (.cells #[.int .i64 pw, .int .i64 pv, .slice a n cap, .slice b m bc] 27)) 27 (.int .i64 pw) (.int .i64 pv) (.slice a' n cap') (.slice b' m bc')
  simp only [World.size_alloc] at x1
  have hsz : ((w.alloc (.cells #[.int .i64 pw, .int .i64 pv, .slice a n cap, .slice b m bc] 27)).alloc (.cells #[.int .i64 pw, .int .i64 pv, .slice a' n cap', .slice b' m bc'] 27)).heap.size = w.heap.size + 1 + 1 := by simp only [World.size_alloc]
  go_enter Tryd.func44, Tryd.ntmps44
  go_wp2_with fail
  refine (G.out _ hb2).mono ?_
  generalize ((w.alloc (.cells #[.int .i64 pw, .int .i64 pv, .slice a n cap, .slice b m bc] 27)).alloc (.cells #[.int .i64 pw, .int .i64 pv, .slice a' n cap', .slice b' m bc'] 27)) = wa at *
  rintro e wn0 ⟨rfl, hs⟩
  have hbn0 := hb2.trans (hs.mono hb2.size)
  have x0n := x0.below hs (by omega)
  obtain ⟨x0a, x0b, x0c, x0d⟩ := x0n.cells
  have x0h := x0n.heap
  have x0l := x0n.lt
  have x1n := x1.below hs (by omega)
  obtain ⟨x1a, x1b, x1c, x1d⟩ := x1n.cells
  have x1h := x1n.heap
  have x1l := x1n.lt
  clear hs
  go_wp2_with fail
  refine (G2.out _ hbn0).mono ?_
  rintro e wn1 ⟨rfl, hs⟩
  have hbn1 := hbn0.trans (hs.mono hbn0.size)
  have HB : Hid (Below w.heap.size w wn1) := hbn1
  clear hs
  go_wp2_with fail
  go_ret
  exact ⟨rfl, HB.out⟩
end Go.Proofs.YtmhpnkfibecnmaaDoor

namespace Go.Proofs.YtmhpnkfibecnmaaDoor
open Go Go.RowKit
open M
set_option linter.unusedVariables false
set_option linter.unusedSimpArgs false

set_option maxRecDepth 100000 in
set_option maxHeartbeats 2000000 in
theorem toChange_any (x y : Value) (c : Ch) (ok : ChOk c) (w : World) (h : ChV w c x y) :
    Calls Tryd.prog 153 #[.agg #[x, y]] w fun e w' => ∃ x' y', e = .returned (.agg #[x', y']) ∧ OwnChV w' w.heap.size w'.heap.size c x' y' ∧ Below w.heap.size w w' := by
  obtain ⟨h0, rfl, h1⟩ := h
  have G : Hid (∀ w1 : World, Below w.heap.size w w1 → Calls Tryd.prog 87 #[y] w1 fun e w' => ∃ v', e = .returned v' ∧ OwnNS w' w1.heap.size w'.heap.size v' c.2 ∧ Below w1.heap.size w1 w') := fun w1 hb => toNS_any y c.2 ok.2 w1 (h1.below hb)
  obtain ⟨ya, ycap, rfl⟩ := h1.shape
  generalize c.2.length = yn at *
  obtain ⟨k, t⟩ := c
  simp only at *
  clear h1 h0 ok
  go_enter Tryd.func153, Tryd.ntmps153
  go_wp2_with fail
  have hb0 : Below w.heap.size w (((w.alloc (.cells #[.int .i64 k, .slice ya yn ycap] 200)).alloc (.cells #[.int .i64 0, .slice none 0 0] 118)).alloc (.cells #[.int .i64 k, .slice none 0 0] 118)) := (((Below.refl _ _).alloc (Nat.le_refl _) _).alloc (by simp) _).alloc (by simp; omega) _
  have x0 := box2_alloc w 200 (.int .i64 k) (.slice ya yn ycap)
  have x1 := box2_alloc (w.alloc (.cells #[.int .i64 k, .slice ya yn ycap] 200)) 118 (.int .i64 0) (.slice none 0 0)
  have x2 := box2_alloc ((w.alloc (.cells #[.int .i64 k, .slice ya yn ycap] 200)).alloc (.cells #[.int .i64 0, .slice none 0 0] 118)) 118 (.int .i64 k) (.slice none 0 0)
  have y0 := (x0.alloc (.cells #[.int .i64 0, .slice none 0 0] 118)).alloc (.cells #[.int .i64 k, .slice none 0 0] 118)
  have y1 := x1.alloc (.cells #[.int .i64 k, .slice none 0 0] 118)
  simp only [World.size_alloc] at x2 y1
  have hsz : (((w.alloc (.cells #[.int .i64 k, .slice ya yn ycap] 200)).alloc (.cells #[.int .i64 0, .slice none 0 0] 118)).alloc (.cells #[.int .i64 k, .slice none 0 0] 118)).heap.size = w.heap.size + 1 + 1 + 1 := by simp only [World.size_alloc]
  refine (G.out _ hb0).mono ?_
  generalize (((w.alloc (.cells #[.int .i64 k, .slice ya yn ycap] 200)).alloc (.cells #[.int .i64 0, .slice none 0 0] 118)).alloc (.cells #[.int .i64 k, .slice none 0 0] 118)) = wa at *
  clear x0 x1
  rintro e w1 ⟨v0, rfl, o0, hs⟩
  obtain ⟨a0, n0, c0, rfl⟩ := o0.shape
  have y0A := y0.below hs (by omega)
  have y1A := y1.below hs (by omega)
  have x2A := x2.below hs (by omega)
  have hs_w1 := hs.size
  clear y0 y1 x2 
  obtain ⟨da, db⟩ := x2A.cells
  have xf1 := x2A.frozen 1
  have hb1 : Below w.heap.size w (w1.setCell ⟨w.heap.size + 1 + 1, 1, none⟩ (.slice a0 n0 c0)) := (hb0.trans (hs.mono hb0.size)).setCell (by show w.heap.size ≤ w.heap.size + 1 + 1; omega) _
  have y0 := y0A.other (o := 1) (b' := w.heap.size + 1 + 1) (by omega) (.slice a0 n0 c0)
  have y1 := y1A.other (o := 1) (b' := w.heap.size + 1 + 1) (by omega) (.slice a0 n0 c0)
  have x2 := x2A.set1 (.slice a0 n0 c0)
  have hsz_wb1 : (w1.setCell ⟨w.heap.size + 1 + 1, 1, none⟩ (.slice a0 n0 c0)).heap.size = w1.heap.size := size_set _ _ _
  have o0B := ownNS_frame (w' := w1.setCell ⟨w.heap.size + 1 + 1, 1, none⟩ (.slice a0 n0 c0))  o0 (by omega) (same_set (by omega)) (Nat.le_refl _) (Nat.le_refl _) (by omega)
  clear hs o0 y0A y1A x2A 
  have HB : Hid _ := hb1
  have HY : Hid _ := y1
  have hh := x2.heap
  obtain ⟨ra, rb⟩ := y1.cells
  have f0 := y1.frozen 0
  have f1 := y1.frozen 1
  obtain ⟨ea, eb⟩ := x2.cells
  have O0 : Hid _ := o0B
  clear y0 y1 x2  o0B hb1
  go_wp2_with fail
  have z9 := ((HY.out.set0 (.int .i64 k)).set1 (.slice a0 n0 c0))
  refine bodyPost_ret (results_cell_row rfl _ _ (w.heap.size + 1) 118 _ (0, 0) _ rfl z9.heap Tryd.underlying118 rfl (by kernel_rfl)) rfl ?_
  refine ⟨_, _, rfl, ⟨rfl, ownNS_frame O0.out (by simp only [size_set]; omega) (fun q h1 h2 => by rw [Below.heap_setCell _ _ _ _ (by show q ≠ w.heap.size + 1; omega), Below.heap_setCell _ _ _ _ (by show q ≠ w.heap.size + 1; omega)]) (by omega) (by simp only [size_set]; omega) (Nat.le_refl _)⟩, ((HB.out.setCell (by show w.heap.size ≤ w.heap.size + 1; omega) _).setCell (by show w.heap.size ≤ w.heap.size + 1; omega) _)⟩
theorem infoChange : (Tryd.prog.info? 118).map (fun i => (i.zero, i.size, i.bytes)) = some (some (.agg #[.int .i64 0, .slice none 0 0]), 2, 32) := by kernel_rfl
set_option maxRecDepth 100000 in
theorem toChangeS_nil (a : Option Addr) (cap : Nat) (w : World) :
    Calls Tryd.prog 136 #[.slice a 0 cap] w fun e w' => ∃ v, e = .returned v ∧ OwnPs 118 OwnChV w' w.heap.size w'.heap.size v [] ∧ Below w.heap.size w w' := by
  obtain ⟨i0, hi, hz0, hz1, hz2⟩ := info_parts infoChange
  go_enter Tryd.func136, Tryd.ntmps136
  go_wp2_with (at_make; refine wpList_make_full _ rfl _ _ 96 rfl w.heap.size 118 i0 (.agg #[.int .i64 0, .slice none 0 0]) 2 Tryd.underlying96 hi hz0 hz1 .i64 .i64 _ _ 0 rfl rfl (by omega) (by omega) (by rw [hz2]; omega) (by unfold maxLen; omega) (Nat.le_refl _) ?_)
  intro w1 hown hgrow
  have HB : Hid (Below w.heap.size w w1) := (Below.refl _ _).grown hgrow (Nat.le_refl _) (fun k hk => by cases hk)
  have HO : Hid (w1.ownsRow w.heap.size 118 2 (.slice (some ⟨w.heap.size, 0, none⟩) 0 0) 0 (flatP [])) := by
    have h : (madeCells #[.int .i64 0, .slice none 0 0] 0).toList = flatP [] := made_zero2 _ _ 0
    have h2 := hown
    rw [h] at h2
    exact h2
  clear hown hgrow
  go_wp2_with fail
  go_loopw [4] (fun i wr => i = .int .i64 0 ∧ wr = w1) (fun _ _ => 0)
  case atStart => exact ⟨rfl, rfl⟩
  case round =>
    obtain ⟨rfl, rfl⟩ := hrel
    go_wp2_with fail
    go_ret
    exact ⟨_, rfl, ⟨[], rfl, rowIn_of HO.out, fun i c p hc _ => by simp at hc⟩, HB.out⟩
set_option maxRecDepth 100000 in
set_option maxHeartbeats 2000000 in
theorem toChangeS_any (v : Value) (bs : List Ch) (hl : bs.length ≤ 1048576) (hok : ∀ c ∈ bs, ChOk c) (w : World) (h : PairsAt ChV w v bs) :
    Calls Tryd.prog 136 #[v] w fun e w' => ∃ v', e = .returned v' ∧ OwnPs 118 OwnChV w' w.heap.size w'.heap.size v' bs ∧ Below w.heap.size w w' := by
  by_cases hne : bs = []
  · subst hne
    obtain ⟨a, cp, rfl⟩ := h.shape
    exact toChangeS_nil a cp w
  obtain ⟨a, cp, rfl, hc⟩ := h.opened
  have HCS : Hid (∀ w1 : World, Below w.heap.size w w1 → ∀ (i : Nat) (c : Ch), bs[i]? = some c → ∃ b off : Nat, a = some ⟨b, off, none⟩ ∧ ∃ x y : Value, w1.cell? ⟨b, off + i * 2, none⟩ = some x ∧ w1.cell? ⟨b, off + i * 2 + 1, none⟩ = some y ∧ ChV w1 c x y) := fun w1 hb i c hi => by
    obtain ⟨b, off, e, hlt, x, y, h3, h4, h5⟩ := hc i c hi
    exact ⟨b, off, e, x, y, by rw [hb.cell (p := ⟨b, off + i * 2, none⟩) hlt]; exact h3, by rw [hb.cell (p := ⟨b, off + i * 2 + 1, none⟩) hlt]; exact h4, chV_frame _ _ _ _ _ h5 hb⟩
  have HOK : Hid _ := hok
  clear h hc hok hne
  obtain ⟨i0, hi, hz0, hz1, hz2⟩ := info_parts infoChange
  go_enter Tryd.func136, Tryd.ntmps136
  go_wp2_with (at_make; refine wpList_make_full _ rfl _ _ 96 rfl w.heap.size 118 i0 (.agg #[.int .i64 0, .slice none 0 0]) 2 Tryd.underlying96 hi hz0 hz1 .i64 .i64 _ _ bs.length rfl rfl (by omega) (by omega) (by rw [hz2]; omega) (by unfold maxLen; omega) (Nat.le_refl _) ?_)
  intro w1 hown hgrow
  have hb1 : Below w.heap.size w w1 := (Below.refl _ _).grown hgrow (Nat.le_refl _) (fun k hk => by cases hk)
  have hown1 : w1.ownsRow w.heap.size 118 2 (.slice (some ⟨w.heap.size, 0, none⟩) bs.length bs.length) bs.length (flatP (([] : List (Value × Value)) ++ List.replicate (bs.length - 0) (((.int .i64 0 : Value), (.slice none 0 0 : Value)) : Value × Value))) := by
    rw [List.nil_append, Nat.sub_zero, ← made_zero2]
    exact hown
  have hg1 : w.heap.size + 1 ≤ w1.heap.size := by
    rcases hown1.2 with ⟨h1, _⟩ | ⟨g, cap, cur, h1, h2, h3, _⟩
    · cases h1
    · have := (Array.getElem?_eq_some_iff.1 h3).1
      omega
  clear hown hgrow
  go_wp2_with fail
  go_loopw [4] (fun i wr => ∃ (j : Nat) (ps : List (Value × Value)), j ≤ bs.length ∧ i = .int .i64 j ∧ Hid (ps.length = j) ∧ Hid (wr.ownsRow w.heap.size 118 2 (.slice (some ⟨w.heap.size, 0, none⟩) bs.length bs.length) bs.length (flatP (ps ++ List.replicate (bs.length - j) (((.int .i64 0 : Value), (.slice none 0 0 : Value)) : Value × Value)))) ∧
    Hid (∀ (i : Nat) (c : Ch) (p : Value × Value), bs[i]? = some c → ps[i]? = some p → OwnChV wr (w.heap.size + 1) wr.heap.size c p.1 p.2) ∧ w.heap.size + 1 ≤ wr.heap.size ∧ Hid (Below w.heap.size w wr)) (fun i _ => bs.length - (intOf i).toNat)
  case atStart => exact ⟨0, [], by omega, rfl, rfl, hown1, fun i c p _ hp => by simp at hp, hg1, hb1⟩
  case round =>
    obtain ⟨j, ps, hj, rfl, HL, HO, HV, hgr, HB⟩ := hrel
    clear hown1 hb1 hg1
    by_cases hlt' : j < bs.length
    · obtain ⟨u, hu⟩ : ∃ u, bs[j]? = some u := ⟨bs[j], List.getElem?_eq_getElem hlt'⟩
      obtain ⟨b, off, rfl, x, y, cx, cy, hV⟩ := HCS.out wr HB.out j u hu
      have g := toChange_any x y u (HOK.out u (List.mem_of_getElem? hu)) wr hV
      have HU : Hid (bs[j]? = some u) := hu
      clear hu hV HCS HOK
      go_wp2_with fail
      refine g.mono ?_
      rintro e w2 ⟨x', y', rfl, ho, hs⟩
      have own2 := own_same HO.out (fun q hq => (own_block HO.out hq).2) (fun i _ hi => hs.block i hi)
      have hlen := own2.1
      have hpl := HL.out
      obtain ⟨u0, hu0⟩ : ∃ u0, (flatP (ps ++ List.replicate (bs.length - j) (((.int .i64 0 : Value), (.slice none 0 0 : Value)) : Value × Value)))[j * 2]? = some u0 := ⟨_, List.getElem?_eq_getElem (by omega)⟩
      obtain ⟨u1, hu1⟩ : ∃ u1, (flatP (ps ++ List.replicate (bs.length - j) (((.int .i64 0 : Value), (.slice none 0 0 : Value)) : Value × Value)))[j * 2 + 1]? = some u1 := ⟨_, List.getElem?_eq_getElem (by omega)⟩
      have d0 : w2.cell? ⟨w.heap.size, j * 2, none⟩ = some u0 := by rw [own2.cellAt (j * 2) (by omega)]; exact hu0
      have d1 : w2.cell? ⟨w.heap.size, j * 2 + 1, none⟩ = some u1 := by rw [own2.cellAt (j * 2 + 1) (by omega)]; exact hu1
      have f0 := own2.frozenAt (j * 2)
      have f1 := own2.frozenAt (j * 2 + 1)
      obtain ⟨rfl, ho2⟩ := ho
      obtain ⟨ya, yn, ycap, rfl⟩ := ho2.shape
      have ho : OwnChV w2 wr.heap.size w2.heap.size u (.int .i64 u.1) (.slice ya yn ycap) := ⟨rfl, ho2⟩
      clear ho2
      have own3 := ((own2.stored (j * 2) (.int .i64 u.1)).1.stored (j * 2 + 1) (.slice ya yn ycap)).1
      have hss := hs.size
      have HN : Hid (((w2.setCell ⟨w.heap.size, j * 2, none⟩ (.int .i64 u.1)).setCell ⟨w.heap.size, j * 2 + 1, none⟩ (.slice ya yn ycap)).ownsRow w.heap.size 118 2 (.slice (some ⟨w.heap.size, 0, none⟩) bs.length bs.length) bs.length (flatP ((ps ++ [(((.int .i64 u.1 : Value), (.slice ya yn ycap : Value)) : Value × Value)]) ++ List.replicate (bs.length - (j + 1)) (((.int .i64 0 : Value), (.slice none 0 0 : Value)) : Value × Value)))) := by
        have h1 := own3
        have e := flatP_set (ps ++ List.replicate (bs.length - j) (((.int .i64 0 : Value), (.slice none 0 0 : Value)) : Value × Value)) j (((.int .i64 u.1 : Value), (.slice ya yn ycap : Value)) : Value × Value)
        simp only at e
        rw [e] at h1
        have e2 := set_zeroP ps bs.length (((.int .i64 0 : Value), (.slice none 0 0 : Value)) : Value × Value) (((.int .i64 u.1 : Value), (.slice ya yn ycap : Value)) : Value × Value) (by omega)
        rw [hpl] at e2
        rw [e2] at h1
        exact h1
      have HV2 : Hid (∀ (i : Nat) (c : Ch) (p : Value × Value), bs[i]? = some c → (ps ++ [(((.int .i64 u.1 : Value), (.slice ya yn ycap : Value)) : Value × Value)])[i]? = some p → OwnChV ((w2.setCell ⟨w.heap.size, j * 2, none⟩ (.int .i64 u.1)).setCell ⟨w.heap.size, j * 2 + 1, none⟩ (.slice ya yn ycap)) (w.heap.size + 1) ((w2.setCell ⟨w.heap.size, j * 2, none⟩ (.int .i64 u.1)).setCell ⟨w.heap.size, j * 2 + 1, none⟩ (.slice ya yn ycap)).heap.size c p.1 p.2) := by
        intro i c p hc hp
        by_cases hij : i < ps.length
        · rw [List.getElem?_append_left hij] at hp
          refine ownChV_frame _ _ _ _ _ _ _ _ _ (HV.out i c p hc hp) (by simp only [size_set]; omega) (fun q h1 h2 => ?_) (Nat.le_refl _) (by simp only [size_set]; omega) (Nat.le_refl _)
          rw [Below.heap_setCell _ _ _ _ (by show q ≠ w.heap.size; omega), Below.heap_setCell _ _ _ _ (by show q ≠ w.heap.size; omega)]
          exact hs.block q h2
        · have hlt9 := (List.getElem?_eq_some_iff.1 hp).1
          rw [List.length_append, List.length_singleton] at hlt9
          have hi9 : i = j := by omega
          subst hi9
          rw [List.getElem?_append_right (by omega), hpl, Nat.sub_self] at hp
          simp only [List.getElem?_cons_zero, Option.some.injEq] at hp
          subst hp
          rw [HU.out] at hc
          simp only [Option.some.injEq] at hc
          subst hc
          refine ownChV_frame _ _ _ _ _ _ _ _ _ ho (by simp only [size_set]; omega) (fun q h1 h2 => ?_) (by omega) (by simp only [size_set]; omega) (Nat.le_refl _)
          rw [Below.heap_setCell _ _ _ _ (by show q ≠ w.heap.size; omega), Below.heap_setCell _ _ _ _ (by show q ≠ w.heap.size; omega)]
      have HL2 : Hid ((ps ++ [(((.int .i64 u.1 : Value), (.slice ya yn ycap : Value)) : Value × Value)]).length = j + 1) := by
        show (ps ++ [(((.int .i64 u.1 : Value), (.slice ya yn ycap : Value)) : Value × Value)]).length = j + 1
        rw [List.length_append, hpl]
        rfl
      have hg2 : w.heap.size + 1 ≤ ((w2.setCell ⟨w.heap.size, j * 2, none⟩ (.int .i64 u.1)).setCell ⟨w.heap.size, j * 2 + 1, none⟩ (.slice ya yn ycap)).heap.size := by simp only [size_set]; omega
      have HB3 : Hid (Below w.heap.size w ((w2.setCell ⟨w.heap.size, j * 2, none⟩ (.int .i64 u.1)).setCell ⟨w.heap.size, j * 2 + 1, none⟩ (.slice ya yn ycap))) := ((HB.out.trans (hs.mono HB.out.size)).setCell (Nat.le_refl _) _).setCell (Nat.le_refl _) _
      have HG2 : Hid _ := hg2
      clear own2 own3 hlen hpl hu0 hu1 ho hs hg2 HL HO HV HB g
      go_wp2_with fail
      go_roundw
      case rel => exact ⟨j + 1, ps ++ [(((.int .i64 u.1 : Value), (.slice ya yn ycap : Value)) : Value × Value)], by omega, by go_num, HL2, HN, HV2, HG2.out, HB3⟩
      case measure => simp [intOf]; omega
    · obtain rfl : j = bs.length := by omega
      have HN : Hid (OwnPs 118 OwnChV wr w.heap.size wr.heap.size (.slice (some ⟨w.heap.size, 0, none⟩) bs.length bs.length) bs) := by
        have h1 := HO.out
        rw [Nat.sub_self, List.replicate_zero, List.append_nil] at h1
        exact ⟨ps, HL.out, rowIn_of h1, fun i c p hc hp => ownChV_frame _ _ _ _ _ _ _ _ _ (HV.out i c p hc hp) (Nat.le_refl _) (fun _ _ _ => rfl) (by omega) (Nat.le_refl _) (Nat.le_refl _)⟩
      clear HO HV HCS HOK HL
      go_wp2_with fail
      go_ret
      exact ⟨_, rfl, HN.out, HB.out⟩
set_option maxRecDepth 100000 in
set_option maxHeartbeats 2000000 in
theorem toCommand_any (x y : Value) (c : Cm) (ok : CmOk c) (w : World) (h : CmV w c x y) :
    Calls Tryd.prog 116 #[.agg #[x, y]] w fun e w' => ∃ x' y', e = .returned (.agg #[x', y']) ∧ OwnCmV w' w.heap.size w'.heap.size c x' y' ∧ Below w.heap.size w w' := by
  obtain ⟨h0, h1⟩ := h
  have G : Hid (∀ w1 : World, Below w.heap.size w w1 → Calls Tryd.prog 87 #[x] w1 fun e w' => ∃ v', e = .returned v' ∧ OwnNS w' w1.heap.size w'.heap.size v' c.1 ∧ Below w1.heap.size w1 w') := fun w1 hb => toNS_any x c.1 ok.1 w1 (h0.below hb)
  have G2 : Hid (∀ w1 : World, Below w.heap.size w w1 → Calls Tryd.prog 136 #[y] w1 fun e w' => ∃ v', e = .returned v' ∧ OwnPs 118 OwnChV w' w1.heap.size w'.heap.size v' c.2 ∧ Below w1.heap.size w1 w') := fun w1 hb => toChangeS_any y c.2 ok.2.1 ok.2.2 w1 (h1.below chV_frame hb)
  obtain ⟨xa, xcap, rfl⟩ := h0.shape
  obtain ⟨ya, ycap, rfl⟩ := h1.shape
  generalize c.1.length = xn at *
  obtain ⟨yn, hyn⟩ : ∃ yn, c.2.length = yn := ⟨_, rfl⟩
  rw [hyn] at G2 ⊢
  clear h1 h0 ok hyn
  go_enter Tryd.func116, Tryd.ntmps116
  go_wp2_with fail
  have hb0 : Below w.heap.size w (((w.alloc (.cells #[.slice xa xn xcap, .slice ya yn ycap] 163)).alloc (.cells #[.slice none 0 0, .slice none 0 0] 98)).alloc (.cells #[.slice none 0 0, .slice none 0 0] 98)) := (((Below.refl _ _).alloc (Nat.le_refl _) _).alloc (by simp) _).alloc (by simp; omega) _
  have x0 := box2_alloc w 163 (.slice xa xn xcap) (.slice ya yn ycap)
  have x1 := box2_alloc (w.alloc (.cells #[.slice xa xn xcap, .slice ya yn ycap] 163)) 98 (.slice none 0 0) (.slice none 0 0)
  have x2 := box2_alloc ((w.alloc (.cells #[.slice xa xn xcap, .slice ya yn ycap] 163)).alloc (.cells #[.slice none 0 0, .slice none 0 0] 98)) 98 (.slice none 0 0) (.slice none 0 0)
  have y0 := (x0.alloc (.cells #[.slice none 0 0, .slice none 0 0] 98)).alloc (.cells #[.slice none 0 0, .slice none 0 0] 98)
  have y1 := x1.alloc (.cells #[.slice none 0 0, .slice none 0 0] 98)
  simp only [World.size_alloc] at x2 y1
  have hsz : (((w.alloc (.cells #[.slice xa xn xcap, .slice ya yn ycap] 163)).alloc (.cells #[.slice none 0 0, .slice none 0 0] 98)).alloc (.cells #[.slice none 0 0, .slice none 0 0] 98)).heap.size = w.heap.size + 1 + 1 + 1 := by simp only [World.size_alloc]
  refine (G.out _ hb0).mono ?_
  generalize (((w.alloc (.cells #[.slice xa xn xcap, .slice ya yn ycap] 163)).alloc (.cells #[.slice none 0 0, .slice none 0 0] 98)).alloc (.cells #[.slice none 0 0, .slice none 0 0] 98)) = wa at *
  clear x0 x1
  rintro e w1 ⟨v0, rfl, o0, hs⟩
  obtain ⟨a0, n0, c0, rfl⟩ := o0.shape
  have y0A := y0.below hs (by omega)
  have y1A := y1.below hs (by omega)
  have x2A := x2.below hs (by omega)
  have hs_w1 := hs.size
  clear y0 y1 x2 
  obtain ⟨da, db⟩ := x2A.cells
  have xf0 := x2A.frozen 0
  have hb1 : Below w.heap.size w (w1.setCell ⟨w.heap.size + 1 + 1, 0, none⟩ (.slice a0 n0 c0)) := (hb0.trans (hs.mono hb0.size)).setCell (by show w.heap.size ≤ w.heap.size + 1 + 1; omega) _
  have y0 := y0A.other (o := 0) (b' := w.heap.size + 1 + 1) (by omega) (.slice a0 n0 c0)
  have y1 := y1A.other (o := 0) (b' := w.heap.size + 1 + 1) (by omega) (.slice a0 n0 c0)
  have x2 := x2A.set0 (.slice a0 n0 c0)
  have hsz_wb1 : (w1.setCell ⟨w.heap.size + 1 + 1, 0, none⟩ (.slice a0 n0 c0)).heap.size = w1.heap.size := size_set _ _ _
  have o0B := ownNS_frame (w' := w1.setCell ⟨w.heap.size + 1 + 1, 0, none⟩ (.slice a0 n0 c0))  o0 (by omega) (same_set (by omega)) (Nat.le_refl _) (Nat.le_refl _) (by omega)
  clear hs o0 y0A y1A x2A 
  obtain ⟨ca, cb⟩ := y0.cells
  have y0h := y0.heap
  have y0l := y0.lt
  have G1 := G2.out _ hb1
  go_wp2_with fail
  refine G1.mono ?_
  generalize w1.setCell ⟨w.heap.size + 1 + 1, 0, none⟩ (.slice a0 n0 c0) = wb1 at *
  clear G1 ca cb y0h y0l da db
  have o0 := o0B
  clear o0B
  rintro e w2 ⟨v1, rfl, o1, hs⟩
  obtain ⟨a1, c1, rfl⟩ := o1.shape
  have y0A := y0.below hs (by omega)
  have y1A := y1.below hs (by omega)
  have x2A := x2.below hs (by omega)
  have hs_w2 := hs.size
  have o0A := ownNS_frame (w' := w2)  o0 hs.size (fun q _ h2 => hs.block q (by omega)) (Nat.le_refl _) (Nat.le_refl _) (by omega)
  clear y0 y1 x2 o0
  obtain ⟨da, db⟩ := x2A.cells
  have xf1 := x2A.frozen 1
  have hb2 : Below w.heap.size w (w2.setCell ⟨w.heap.size + 1 + 1, 1, none⟩ (.slice a1 c.2.length c1)) := (hb1.trans (hs.mono hb1.size)).setCell (by show w.heap.size ≤ w.heap.size + 1 + 1; omega) _
  have y0 := y0A.other (o := 1) (b' := w.heap.size + 1 + 1) (by omega) (.slice a1 c.2.length c1)
  have y1 := y1A.other (o := 1) (b' := w.heap.size + 1 + 1) (by omega) (.slice a1 c.2.length c1)
  have x2 := x2A.set1 (.slice a1 c.2.length c1)
  have hsz_wb2 : (w2.setCell ⟨w.heap.size + 1 + 1, 1, none⟩ (.slice a1 c.2.length c1)).heap.size = w2.heap.size := size_set _ _ _
  have o0 := ownNS_frame (w' := w2.setCell ⟨w.heap.size + 1 + 1, 1, none⟩ (.slice a1 c.2.length c1))  o0A (by omega) (same_set (by omega)) (Nat.le_refl _) (Nat.le_refl _) (by omega)
  have o1B := OwnPs.frame (w' := w2.setCell ⟨w.heap.size + 1 + 1, 1, none⟩ (.slice a1 c.2.length c1)) ownChV_frame o1 (by omega) (same_set (by omega)) (Nat.le_refl _) (Nat.le_refl _) (by omega)
  clear hs o1 y0A y1A x2A o0A
  have HB : Hid _ := hb2
  have HY : Hid _ := y1
  have hh := x2.heap
  obtain ⟨ra, rb⟩ := y1.cells
  have f0 := y1.frozen 0
  have f1 := y1.frozen 1
  obtain ⟨ea, eb⟩ := x2.cells
  have O0 : Hid _ := o0
  have O1 : Hid _ := o1B
  clear y0 y1 x2 o0 o1B hb2
  go_wp2_with fail
  have z9 := ((HY.out.set0 (.slice a0 n0 c0)).set1 (.slice a1 c.2.length c1))
  refine bodyPost_ret (results_cell_row rfl _ _ (w.heap.size + 1) 98 _ (0, 0) _ rfl z9.heap Tryd.underlying98 rfl (by kernel_rfl)) rfl ?_
  refine ⟨_, _, rfl, ⟨ownNS_frame O0.out (by simp only [size_set]; omega) (fun q h1 h2 => by rw [Below.heap_setCell _ _ _ _ (by show q ≠ w.heap.size + 1; omega), Below.heap_setCell _ _ _ _ (by show q ≠ w.heap.size + 1; omega)]) (by omega) (by simp only [size_set]; omega) (Nat.le_refl _), OwnPs.frame ownChV_frame O1.out (by simp only [size_set]; omega) (fun q h1 h2 => by rw [Below.heap_setCell _ _ _ _ (by show q ≠ w.heap.size + 1; omega), Below.heap_setCell _ _ _ _ (by show q ≠ w.heap.size + 1; omega)]) (by omega) (by simp only [size_set]; omega) (Nat.le_refl _)⟩, ((HB.out.setCell (by show w.heap.size ≤ w.heap.size + 1; omega) _).setCell (by show w.heap.size ≤ w.heap.size + 1; omega) _)⟩
theorem infoCommand : (Tryd.prog.info? 98).map (fun i => (i.zero, i.size, i.bytes)) = some (some (.agg #[.slice none 0 0, .slice none 0 0]), 2, 48) := by kernel_rfl
set_option maxRecDepth 100000 in
theorem toCommandS_nil (a : Option Addr) (cap : Nat) (w : World) :
    Calls Tryd.prog 88 #[.slice a 0 cap] w fun e w' => ∃ v, e = .returned v ∧ OwnPs 98 OwnCmV w' w.heap.size w'.heap.size v [] ∧ Below w.heap.size w w' := by
  obtain ⟨i0, hi, hz0, hz1, hz2⟩ := info_parts infoCommand
  go_enter Tryd.func88, Tryd.ntmps88
  go_wp2_with (at_make; refine wpList_make_full _ rfl _ _ 25 rfl w.heap.size 98 i0 (.agg #[.slice none 0 0, .slice none 0 0]) 2 Tryd.underlying25 hi hz0 hz1 .i64 .i64 _ _ 0 rfl rfl (by omega) (by omega) (by rw [hz2]; omega) (by unfold maxLen; omega) (Nat.le_refl _) ?_)
  intro w1 hown hgrow
  have HB : Hid (Below w.heap.size w w1) := (Below.refl _ _).grown hgrow (Nat.le_refl _) (fun k hk => by cases hk)
  have HO : Hid (w1.ownsRow w.heap.size 98 2 (.slice (some ⟨w.heap.size, 0, none⟩) 0 0) 0 (flatP [])) := by
    have h : (madeCells #[.slice none 0 0, .slice none 0 0] 0).toList = flatP [] := made_zero2 _ _ 0
    have h2 := hown
    rw [h] at h2
    exact h2
  clear hown hgrow
  go_wp2_with fail
  go_loopw [4] (fun i wr => i = .int .i64 0 ∧ wr = w1) (fun _ _ => 0)
  case atStart => exact ⟨rfl, rfl⟩
  case round =>
    obtain ⟨rfl, rfl⟩ := hrel
    go_wp2_with fail
    go_ret
    exact ⟨_, rfl, ⟨[], rfl, rowIn_of HO.out, fun i c p hc _ => by simp at hc⟩, HB.out⟩
set_option maxRecDepth 100000 in
set_option maxHeartbeats 2000000 in
theorem toCommandS_any (v : Value) (bs : List Cm) (hl : bs.length ≤ 1048576) (hok : ∀ c ∈ bs, CmOk c) (w : World) (h : PairsAt CmV w v bs) :
    Calls Tryd.prog 88 #[v] w fun e w' => ∃ v', e = .returned v' ∧ OwnPs 98 OwnCmV w' w.heap.size w'.heap.size v' bs ∧ Below w.heap.size w w' := by
  by_cases hne : bs = []
  · subst hne
    obtain ⟨a, cp, rfl⟩ := h.shape
    exact toCommandS_nil a cp w
  obtain ⟨a, cp, rfl, hc⟩ := h.opened
  have HCS : Hid (∀ w1 : World, Below w.heap.size w w1 → ∀ (i : Nat) (c : Cm), bs[i]? = some c → ∃ b off : Nat, a = some ⟨b, off, none⟩ ∧ ∃ x y : Value, w1.cell? ⟨b, off + i * 2, none⟩ = some x ∧ w1.cell? ⟨b, off + i * 2 + 1, none⟩ = some y ∧ CmV w1 c x y) := fun w1 hb i c hi => by
    obtain ⟨b, off, e, hlt, x, y, h3, h4, h5⟩ := hc i c hi
    exact ⟨b, off, e, x, y, by rw [hb.cell (p := ⟨b, off + i * 2, none⟩) hlt]; exact h3, by rw [hb.cell (p := ⟨b, off + i * 2 + 1, none⟩) hlt]; exact h4, cmV_frame _ _ _ _ _ h5 hb⟩
  have HOK : Hid _ := hok
  clear h hc hok hne
  obtain ⟨i0, hi, hz0, hz1, hz2⟩ := info_parts infoCommand
  go_enter Tryd.func88, Tryd.ntmps88
  go_wp2_with (at_make; refine wpList_make_full _ rfl _ _ 25 rfl w.heap.size 98 i0 (.agg #[.slice none 0 0, .slice none 0 0]) 2 Tryd.underlying25 hi hz0 hz1 .i64 .i64 _ _ bs.length rfl rfl (by omega) (by omega) (by rw [hz2]; omega) (by unfold maxLen; omega) (Nat.le_refl _) ?_)
  intro w1 hown hgrow
  have hb1 : Below w.heap.size w w1 := (Below.refl _ _).grown hgrow (Nat.le_refl _) (fun k hk => by cases hk)
  have hown1 : w1.ownsRow w.heap.size 98 2 (.slice (some ⟨w.heap.size, 0, none⟩) bs.length bs.length) bs.length (flatP (([] : List (Value × Value)) ++ List.replicate (bs.length - 0) (((.slice none 0 0 : Value), (.slice none 0 0 : Value)) : Value × Value))) := by
    rw [List.nil_append, Nat.sub_zero, ← made_zero2]
    exact hown
  have hg1 : w.heap.size + 1 ≤ w1.heap.size := by
    rcases hown1.2 with ⟨h1, _⟩ | ⟨g, cap, cur, h1, h2, h3, _⟩
    · cases h1
    · have := (Array.getElem?_eq_some_iff.1 h3).1
      omega
  clear hown hgrow
  go_wp2_with fail
  go_loopw [4] (fun i wr => ∃ (j : Nat) (ps : List (Value × Value)), j ≤ bs.length ∧ i = .int .i64 j ∧ Hid (ps.length = j) ∧ Hid (wr.ownsRow w.heap.size 98 2 (.slice (some ⟨w.heap.size, 0, none⟩) bs.length bs.length) bs.length (flatP (ps ++ List.replicate (bs.length - j) (((.slice none 0 0 : Value), (.slice none 0 0 : Value)) : Value × Value)))) ∧
    Hid (∀ (i : Nat) (c : Cm) (p : Value × Value), bs[i]? = some c → ps[i]? = some p → OwnCmV wr (w.heap.size + 1) wr.heap.size c p.1 p.2) ∧ w.heap.size + 1 ≤ wr.heap.size ∧ Hid (Below w.heap.size w wr)) (fun i _ => bs.length - (intOf i).toNat)
  case atStart => exact ⟨0, [], by omega, rfl, rfl, hown1, fun i c p _ hp => by simp at hp, hg1, hb1⟩
  case round =>
    obtain ⟨j, ps, hj, rfl, HL, HO, HV, hgr, HB⟩ := hrel
    clear hown1 hb1 hg1
    by_cases hlt' : j < bs.length
    · obtain ⟨u, hu⟩ : ∃ u, bs[j]? = some u := ⟨bs[j], List.getElem?_eq_getElem hlt'⟩
      obtain ⟨b, off, rfl, x, y, cx, cy, hV⟩ := HCS.out wr HB.out j u hu
      have g := toCommand_any x y u (HOK.out u (List.mem_of_getElem? hu)) wr hV
      have HU : Hid (bs[j]? = some u) := hu
      clear hu hV HCS HOK
      go_wp2_with fail
      refine g.mono ?_
      rintro e w2 ⟨x', y', rfl, ho, hs⟩
      have own2 := own_same HO.out (fun q hq => (own_block HO.out hq).2) (fun i _ hi => hs.block i hi)
      have hlen := own2.1
      have hpl := HL.out
      obtain ⟨u0, hu0⟩ : ∃ u0, (flatP (ps ++ List.replicate (bs.length - j) (((.slice none 0 0 : Value), (.slice none 0 0 : Value)) : Value × Value)))[j * 2]? = some u0 := ⟨_, List.getElem?_eq_getElem (by omega)⟩
      obtain ⟨u1, hu1⟩ : ∃ u1, (flatP (ps ++ List.replicate (bs.length - j) (((.slice none 0 0 : Value), (.slice none 0 0 : Value)) : Value × Value)))[j * 2 + 1]? = some u1 := ⟨_, List.getElem?_eq_getElem (by omega)⟩
      have d0 : w2.cell? ⟨w.heap.size, j * 2, none⟩ = some u0 := by rw [own2.cellAt (j * 2) (by omega)]; exact hu0
      have d1 : w2.cell? ⟨w.heap.size, j * 2 + 1, none⟩ = some u1 := by rw [own2.cellAt (j * 2 + 1) (by omega)]; exact hu1
      have f0 := own2.frozenAt (j * 2)
      have f1 := own2.frozenAt (j * 2 + 1)
      obtain ⟨ho1, ho2⟩ := ho
      obtain ⟨xa, xn, xcap, rfl⟩ := ho1.shape
      obtain ⟨ya, ycap, rfl⟩ := ho2.shape
      have ho : OwnCmV w2 wr.heap.size w2.heap.size u (.slice xa xn xcap) (.slice ya u.2.length ycap) := ⟨ho1, ho2⟩
      clear ho1 ho2
      have own3 := ((own2.stored (j * 2) (.slice xa xn xcap)).1.stored (j * 2 + 1) (.slice ya u.2.length ycap)).1
      have hss := hs.size
      have HN : Hid (((w2.setCell ⟨w.heap.size, j * 2, none⟩ (.slice xa xn xcap)).setCell ⟨w.heap.size, j * 2 + 1, none⟩ (.slice ya u.2.length ycap)).ownsRow w.heap.size 98 2 (.slice (some ⟨w.heap.size, 0, none⟩) bs.length bs.length) bs.length (flatP ((ps ++ [(((.slice xa xn xcap : Value), (.slice ya u.2.length ycap : Value)) : Value × Value)]) ++ List.replicate (bs.length - (j + 1)) (((.slice none 0 0 : Value), (.slice none 0 0 : Value)) : Value × Value)))) := by
        have h1 := own3
        have e := flatP_set (ps ++ List.replicate (bs.length - j) (((.slice none 0 0 : Value), (.slice none 0 0 : Value)) : Value × Value)) j (((.slice xa xn xcap : Value), (.slice ya u.2.length ycap : Value)) : Value × Value)
        simp only at e
        rw [e] at h1
        have e2 := set_zeroP ps bs.length (((.slice none 0 0 : Value), (.slice none 0 0 : Value)) : Value × Value) (((.slice xa xn xcap : Value), (.slice ya u.2.length ycap : Value)) : Value × Value) (by omega)
        rw [hpl] at e2
        rw [e2] at h1
        exact h1
      have HV2 : Hid (∀ (i : Nat) (c : Cm) (p : Value × Value), bs[i]? = some c → (ps ++ [(((.slice xa xn xcap : Value), (.slice ya u.2.length ycap : Value)) : Value × Value)])[i]? = some p → OwnCmV ((w2.setCell ⟨w.heap.size, j * 2, none⟩ (.slice xa xn xcap)).setCell ⟨w.heap.size, j * 2 + 1, none⟩ (.slice ya u.2.length ycap)) (w.heap.size + 1) ((w2.setCell ⟨w.heap.size, j * 2, none⟩ (.slice xa xn xcap)).setCell ⟨w.heap.size, j * 2 + 1, none⟩ (.slice ya u.2.length ycap)).heap.size c p.1 p.2) := by
        intro i c p hc hp
        by_cases hij : i < ps.length
        · rw [List.getElem?_append_left hij] at hp
          refine ownCmV_frame _ _ _ _ _ _ _ _ _ (HV.out i c p hc hp) (by simp only [size_set]; omega) (fun q h1 h2 => ?_) (Nat.le_refl _) (by simp only [size_set]; omega) (Nat.le_refl _)
          rw [Below.heap_setCell _ _ _ _ (by show q ≠ w.heap.size; omega), Below.heap_setCell _ _ _ _ (by show q ≠ w.heap.size; omega)]
          exact hs.block q h2
        · have hlt9 := (List.getElem?_eq_some_iff.1 hp).1
          rw [List.length_append, List.length_singleton] at hlt9
          have hi9 : i = j := by omega
          subst hi9
          rw [List.getElem?_append_right (by omega), hpl, Nat.sub_self] at hp
          simp only [List.getElem?_cons_zero, Option.some.injEq] at hp
          subst hp
          rw [HU.out] at hc
          simp only [Option.some.injEq] at hc
          subst hc
          refine ownCmV_frame _ _ _ _ _ _ _ _ _ ho (by simp only [size_set]; omega) (fun q h1 h2 => ?_) (by omega) (by simp only [size_set]; omega) (Nat.le_refl _)
          rw [Below.heap_setCell _ _ _ _ (by show q ≠ w.heap.size; omega), Below.heap_setCell _ _ _ _ (by show q ≠ w.heap.size; omega)]
      have HL2 : Hid ((ps ++ [(((.slice xa xn xcap : Value), (.slice ya u.2.length ycap : Value)) : Value × Value)]).length = j + 1) := by
        show (ps ++ [(((.slice xa xn xcap : Value), (.slice ya u.2.length ycap : Value)) : Value × Value)]).length = j + 1
        rw [List.length_append, hpl]
        rfl
      have hg2 : w.heap.size + 1 ≤ ((w2.setCell ⟨w.heap.size, j * 2, none⟩ (.slice xa xn xcap)).setCell ⟨w.heap.size, j * 2 + 1, none⟩ (.slice ya u.2.length ycap)).heap.size := by simp only [size_set]; omega
      have HB3 : Hid (Below w.heap.size w ((w2.setCell ⟨w.heap.size, j * 2, none⟩ (.slice xa xn xcap)).setCell ⟨w.heap.size, j * 2 + 1, none⟩ (.slice ya u.2.length ycap))) := ((HB.out.trans (hs.mono HB.out.size)).setCell (Nat.le_refl _) _).setCell (Nat.le_refl _) _
      have HG2 : Hid _ := hg2
      clear own2 own3 hlen hpl hu0 hu1 ho hs hg2 HL HO HV HB g
      go_wp2_with fail
      go_roundw
      case rel => exact ⟨j + 1, ps ++ [(((.slice xa xn xcap : Value), (.slice ya u.2.length ycap : Value)) : Value × Value)], by omega, by go_num, HL2, HN, HV2, HG2.out, HB3⟩
      case measure => simp [intOf]; omega
    · obtain rfl : j = bs.length := by omega
      have HN : Hid (OwnPs 98 OwnCmV wr w.heap.size wr.heap.size (.slice (some ⟨w.heap.size, 0, none⟩) bs.length bs.length) bs) := by
        have h1 := HO.out
        rw [Nat.sub_self, List.replicate_zero, List.append_nil] at h1
        exact ⟨ps, HL.out, rowIn_of h1, fun i c p hc hp => ownCmV_frame _ _ _ _ _ _ _ _ _ (HV.out i c p hc hp) (Nat.le_refl _) (fun _ _ _ => rfl) (by omega) (Nat.le_refl _) (Nat.le_refl _)⟩
      clear HO HV HCS HOK HL
      go_wp2_with fail
      go_ret
      exact ⟨_, rfl, HN.out, HB.out⟩
set_option maxRecDepth 100000 in
set_option maxHeartbeats 2000000 in
theorem toProgram_any (v : Value) (p : Pg) (ok : PgOk p) (w : World) (h : AtProg w v p) :
    Calls Tryd.prog 41 #[v] w fun e w' => ∃ v', e = .returned v' ∧ OwnProg w' w.heap.size w'.heap.size v' p ∧ Below w.heap.size w w' := by
  obtain ⟨_, _, x, y, rfl, h0, h1⟩ := h
  have G : Hid (∀ w1 : World, Below w.heap.size w w1 → Calls Tryd.prog 87 #[x] w1 fun e w' => ∃ v', e = .returned v' ∧ OwnNS w' w1.heap.size w'.heap.size v' p.2.2.1 ∧ Below w1.heap.size w1 w') := fun w1 hb => toNS_any x p.2.2.1 ok.2.2.1 w1 (h0.below hb)
  have G2 : Hid (∀ w1 : World, Below w.heap.size w w1 → Calls Tryd.prog 88 #[y] w1 fun e w' => ∃ v', e = .returned v' ∧ OwnPs 98 OwnCmV w' w1.heap.size w'.heap.size v' p.2.2.2 ∧ Below w1.heap.size w1 w') := fun w1 hb => toCommandS_any y p.2.2.2 ok.2.2.2.1 ok.2.2.2.2 w1 (h1.below cmV_frame hb)
  obtain ⟨xa, xcap, rfl⟩ := h0.shape
  obtain ⟨ya, ycap, rfl⟩ := h1.shape
  obtain ⟨pw, pv, ps, pc⟩ := p
  simp only at *
  generalize ps.length = xn at *
  obtain ⟨yn, hyn⟩ : ∃ yn, pc.length = yn := ⟨_, rfl⟩
  rw [hyn] at G2 ⊢
  clear h1 h0 ok hyn
  go_enter Tryd.func41, Tryd.ntmps41
  go_wp2_with fail
  have hb0 : Below w.heap.size w (((w.alloc (.cells #[.int .i64 pw, .int .i64 pv, .slice xa xn xcap, .slice ya yn ycap] 69)).alloc (.cells #[.int .i64 0, .int .i64 0, .slice none 0 0, .slice none 0 0] 27)).alloc (.cells #[.int .i64 pw, .int .i64 pv, .slice none 0 0, .slice none 0 0] 27)) := (((Below.refl _ _).alloc (Nat.le_refl _) _).alloc (by simp) _).alloc (by simp; omega) _
  have x0 := box4_alloc w 69 (.int .i64 pw) (.int .i64 pv) (.slice xa xn xcap) (.slice ya yn ycap)
  have x1 := box4_alloc (w.alloc (.cells #[.int .i64 pw, .int .i64 pv, .slice xa xn xcap, .slice ya yn ycap] 69)) 27 (.int .i64 0) (.int .i64 0) (.slice none 0 0) (.slice none 0 0)
  have x2 := box4_alloc ((w.alloc (.cells #[.int .i64 pw, .int .i64 pv, .slice xa xn xcap, .slice ya yn ycap] 69)).alloc (.cells #[.int .i64 0, .int .i64 0, .slice none 0 0, .slice none 0 0] 27)) 27 (.int .i64 pw) (.int .i64 pv) (.slice none 0 0) (.slice none 0 0)
  have y0 := (x0.alloc (.cells #[.int .i64 0, .int .i64 0, .slice none 0 0, .slice none 0 0] 27)).alloc (.cells #[.int .i64 pw, .int .i64 pv, .slice none 0 0, .slice none 0 0] 27)
  have y1 := x1.alloc (.cells #[.int .i64 pw, .int .i64 pv, .slice none 0 0, .slice none 0 0] 27)
  simp only [World.size_alloc] at x2 y1
  have hsz : (((w.alloc (.cells #[.int .i64 pw, .int .i64 pv, .slice xa xn xcap, .slice ya yn ycap] 69)).alloc (.cells #[.int .i64 0, .int .i64 0, .slice none 0 0, .slice none 0 0] 27)).alloc (.cells #[.int .i64 pw, .int .i64 pv, .slice none 0 0, .slice none 0 0] 27)).heap.size = w.heap.size + 1 + 1 + 1 := by simp only [World.size_alloc]
  refine (G.out _ hb0).mono ?_
  generalize (((w.alloc (.cells #[.int .i64 pw, .int .i64 pv, .slice xa xn xcap, .slice ya yn ycap] 69)).alloc (.cells #[.int .i64 0, .int .i64 0, .slice none 0 0, .slice none 0 0] 27)).alloc (.cells #[.int .i64 pw, .int .i64 pv, .slice none 0 0, .slice none 0 0] 27)) = wa at *
  clear x0 x1
  rintro e w1 ⟨v0, rfl, o0, hs⟩
  obtain ⟨a0, n0, c0, rfl⟩ := o0.shape
  have y0A := y0.below hs (by omega)
  have y1A := y1.below hs (by omega)
  have x2A := x2.below hs (by omega)
  have hs_w1 := hs.size
  clear y0 y1 x2 
  obtain ⟨da, db, dc, dd⟩ := x2A.cells
  have xf2 := x2A.frozen 2
  have hb1 : Below w.heap.size w (w1.setCell ⟨w.heap.size + 1 + 1, 2, none⟩ (.slice a0 n0 c0)) := (hb0.trans (hs.mono hb0.size)).setCell (by show w.heap.size ≤ w.heap.size + 1 + 1; omega) _
  have y0 := y0A.other (o := 2) (b' := w.heap.size + 1 + 1) (by omega) (.slice a0 n0 c0)
  have y1 := y1A.other (o := 2) (b' := w.heap.size + 1 + 1) (by omega) (.slice a0 n0 c0)
  have x2 := x2A.set2 (.slice a0 n0 c0)
  have hsz_wb1 : (w1.setCell ⟨w.heap.size + 1 + 1, 2, none⟩ (.slice a0 n0 c0)).heap.size = w1.heap.size := size_set _ _ _
  have o0B := ownNS_frame (w' := w1.setCell ⟨w.heap.size + 1 + 1, 2, none⟩ (.slice a0 n0 c0))  o0 (by omega) (same_set (by omega)) (Nat.le_refl _) (Nat.le_refl _) (by omega)
  clear hs o0 y0A y1A x2A 
  obtain ⟨ca, cb, cc, cd⟩ := y0.cells
  have y0h := y0.heap
  have y0l := y0.lt
  have G1 := G2.out _ hb1
  go_wp2_with fail
  refine G1.mono ?_
  generalize w1.setCell ⟨w.heap.size + 1 + 1, 2, none⟩ (.slice a0 n0 c0) = wb1 at *
  clear G1 ca cb cc cd y0h y0l da db dc dd
  have o0 := o0B
  clear o0B
  rintro e w2 ⟨v1, rfl, o1, hs⟩
  obtain ⟨a1, c1, rfl⟩ := o1.shape
  have y0A := y0.below hs (by omega)
  have y1A := y1.below hs (by omega)
  have x2A := x2.below hs (by omega)
  have hs_w2 := hs.size
  have o0A := ownNS_frame (w' := w2)  o0 hs.size (fun q _ h2 => hs.block q (by omega)) (Nat.le_refl _) (Nat.le_refl _) (by omega)
  clear y0 y1 x2 o0
  obtain ⟨da, db, dc, dd⟩ := x2A.cells
  have xf3 := x2A.frozen 3
  have hb2 : Below w.heap.size w (w2.setCell ⟨w.heap.size + 1 + 1, 3, none⟩ (.slice a1 pc.length c1)) := (hb1.trans (hs.mono hb1.size)).setCell (by show w.heap.size ≤ w.heap.size + 1 + 1; omega) _
  have y0 := y0A.other (o := 3) (b' := w.heap.size + 1 + 1) (by omega) (.slice a1 pc.length c1)
  have y1 := y1A.other (o := 3) (b' := w.heap.size + 1 + 1) (by omega) (.slice a1 pc.length c1)
  have x2 := x2A.set3 (.slice a1 pc.length c1)
  have hsz_wb2 : (w2.setCell ⟨w.heap.size + 1 + 1, 3, none⟩ (.slice a1 pc.length c1)).heap.size = w2.heap.size := size_set _ _ _
  have o0 := ownNS_frame (w' := w2.setCell ⟨w.heap.size + 1 + 1, 3, none⟩ (.slice a1 pc.length c1))  o0A (by omega) (same_set (by omega)) (Nat.le_refl _) (Nat.le_refl _) (by omega)
  have o1B := OwnPs.frame (w' := w2.setCell ⟨w.heap.size + 1 + 1, 3, none⟩ (.slice a1 pc.length c1)) ownCmV_frame o1 (by omega) (same_set (by omega)) (Nat.le_refl _) (Nat.le_refl _) (by omega)
  clear hs o1 y0A y1A x2A o0A
  have HB : Hid _ := hb2
  have HY : Hid _ := y1
  have hh := x2.heap
  obtain ⟨ra, rb, rc, rd⟩ := y1.cells
  have f0 := y1.frozen 0
  have f1 := y1.frozen 1
  have f2 := y1.frozen 2
  have f3 := y1.frozen 3
  obtain ⟨ea, eb, ec, ed⟩ := x2.cells
  have O0 : Hid _ := o0
  have O1 : Hid _ := o1B
  clear y0 y1 x2 o0 o1B hb2
  go_wp2_with fail
  have z9 := ((((HY.out.set0 (.int .i64 pw)).set1 (.int .i64 pv)).set2 (.slice a0 n0 c0)).set3 (.slice a1 pc.length c1))
  refine bodyPost_ret (results_cell_row rfl _ _ (w.heap.size + 1) 27 _ (0, 0) _ rfl z9.heap Tryd.underlying27 rfl (by kernel_rfl)) rfl ?_
  refine ⟨_, rfl, ⟨_, _, rfl, ownNS_frame O0.out (by simp only [size_set]; omega) (fun q h1 h2 => by rw [Below.heap_setCell _ _ _ _ (by show q ≠ w.heap.size + 1; omega), Below.heap_setCell _ _ _ _ (by show q ≠ w.heap.size + 1; omega), Below.heap_setCell _ _ _ _ (by show q ≠ w.heap.size + 1; omega), Below.heap_setCell _ _ _ _ (by show q ≠ w.heap.size + 1; omega)]) (by omega) (by simp only [size_set]; omega) (Nat.le_refl _), OwnPs.frame ownCmV_frame O1.out (by simp only [size_set]; omega) (fun q h1 h2 => by rw [Below.heap_setCell _ _ _ _ (by show q ≠ w.heap.size + 1; omega), Below.heap_setCell _ _ _ _ (by show q ≠ w.heap.size + 1; omega), Below.heap_setCell _ _ _ _ (by show q ≠ w.heap.size + 1; omega), Below.heap_setCell _ _ _ _ (by show q ≠ w.heap.size + 1; omega)]) (by omega) (by simp only [size_set]; omega) (Nat.le_refl _)⟩, ((((HB.out.setCell (by show w.heap.size ≤ w.heap.size + 1; omega) _).setCell (by show w.heap.size ≤ w.heap.size + 1; omega) _).setCell (by show w.heap.size ≤ w.heap.size + 1; omega) _).setCell (by show w.heap.size ≤ w.heap.size + 1; omega) _)⟩
end Go.Proofs.YtmhpnkfibecnmaaDoor


namespace Go.Proofs.YtmhpnkfibecnmaaDoor.M
open Go

/-- a term as a tree -/
inductive Tr where
  | leaf (x : Nd)
  | one (x : Nd) (a : Tr)
  | two (x : Nd) (a b : Tr)
def Tr.nd : Tr → Nd
  | .leaf x => x
  | .one x _ => x
  | .two x _ _ => x
def Tr.parts : Tr → List Tr
  | .leaf _ => []
  | .one _ a => [a]
  | .two _ a b => [a, b]
def Tr.size : Tr → Nat
  | .leaf _ => 1
  | .one _ a => 1 + a.size
  | .two _ a b => 1 + a.size + b.size
def Tr.flat : Tr → List Nd
  | .leaf x => [x]
  | .one x a => a.flat ++ [x]
  | .two x a b => a.flat ++ b.flat ++ [x]
def Tr.kind (t : Tr) : Int := ownOf t.nd.1
/-- each node has the parts that its op wants -/
def Tr.Ok (wide vars : Int) : Tr → Prop
  | .leaf x => ¬ ownOf x.1 = 0 ∧ okN wide vars x.1 x.2 = true ∧ manyOf x.1 = 0
  | .one x a => ¬ ownOf x.1 = 0 ∧ okN wide vars x.1 x.2 = true ∧ manyOf x.1 = 1 ∧ a.kind = partOf x.1 ∧ a.Ok wide vars
  | .two x a b => ¬ ownOf x.1 = 0 ∧ okN wide vars x.1 x.2 = true ∧ manyOf x.1 = 2 ∧ a.kind = partOf x.1 ∧ b.kind = partOf x.1 ∧ a.Ok wide vars ∧ b.Ok wide vars
theorem Tr.flat_len : ∀ t : Tr, t.flat.length = t.size
  | .leaf _ => rfl
  | .one _ a => by
    have := a.flat_len
    simp only [Tr.flat, Tr.size, List.length_append, List.length_singleton]
    omega
  | .two _ a b => by
    have := a.flat_len
    have := b.flat_len
    simp only [Tr.flat, Tr.size, List.length_append, List.length_singleton]
    omega
theorem Tr.size_pos : ∀ t : Tr, 1 ≤ t.size
  | .leaf _ => Nat.le_refl _
  | .one _ a => by simp only [Tr.size]; omega
  | .two _ a b => by simp only [Tr.size]; omega
theorem Tr.ind {P : Tr → Prop} (h : ∀ t, (∀ q ∈ t.parts, P q) → P t) : ∀ t, P t
  | .leaf x => h _ (fun q hq => by cases hq)
  | .one x a => h _ (fun q hq => by
    have ha := Tr.ind h a
    simp only [Tr.parts, List.mem_singleton] at hq
    subst hq
    exact ha)
  | .two x a b => h _ (fun q hq => by
    have ha := Tr.ind h a
    have hb := Tr.ind h b
    simp only [Tr.parts, List.mem_cons, List.not_mem_nil, or_false] at hq
    rcases hq with rfl | rfl
    · exact ha
    · exact hb)
def sizes : List Tr → Nat
  | [] => 0
  | a :: l => a.size + sizes l
theorem sizes_append : ∀ l m : List Tr, sizes (l ++ m) = sizes l + sizes m
  | [], m => by simp [sizes]
  | a :: l, m => by
    have := sizes_append l m
    simp only [List.cons_append, sizes]
    omega
theorem Tr.size_eq (t : Tr) : t.size = 1 + sizes t.parts := by
  cases t <;> simp only [Tr.size, Tr.parts, sizes] <;> omega
theorem Tr.flat_eq (t : Tr) : t.flat = t.parts.flatMap Tr.flat ++ [t.nd] := by
  cases t <;> simp [Tr.flat, Tr.parts, Tr.nd]
theorem Tr.ok_nd {wide vars : Int} {t : Tr} (h : t.Ok wide vars) : ¬ ownOf t.nd.1 = 0 ∧ okN wide vars t.nd.1 t.nd.2 = true ∧ manyOf t.nd.1 = t.parts.length := by
  cases t with
  | leaf x => exact ⟨h.1, h.2.1, h.2.2⟩
  | one x a => exact ⟨h.1, h.2.1, h.2.2.1⟩
  | two x a b => exact ⟨h.1, h.2.1, h.2.2.1⟩
theorem Tr.ok_parts {wide vars : Int} {t : Tr} (h : t.Ok wide vars) : ∀ q ∈ t.parts, q.kind = partOf t.nd.1 ∧ q.Ok wide vars := by
  cases t with
  | leaf x => intro q hq; cases hq
  | one x a =>
    intro q hq
    simp only [Tr.parts, List.mem_singleton] at hq
    subst hq
    exact ⟨h.2.2.2.1, h.2.2.2.2⟩
  | two x a b =>
    intro q hq
    simp only [Tr.parts, List.mem_cons, List.not_mem_nil, or_false] at hq
    rcases hq with rfl | rfl
    · exact ⟨h.2.2.2.1, h.2.2.2.2.2.1⟩
    · exact ⟨h.2.2.2.2.1, h.2.2.2.2.2.2⟩
/-- a tree over parts -/
def Tr.over (x : Nd) : List Tr → Tr
  | [a] => .one x a
  | [a, b] => .two x a b
  | _ => .leaf x
theorem Tr.over_parts (x : Nd) (l : List Tr) (h : l.length ≤ 2) : (Tr.over x l).parts = l ∧ (Tr.over x l).nd = x := by
  match l, h with
  | [], _ => exact ⟨rfl, rfl⟩
  | [a], _ => exact ⟨rfl, rfl⟩
  | [a, b], _ => exact ⟨rfl, rfl⟩
  | _ :: _ :: _ :: _, h => simp at h
theorem Tr.over_ok {wide vars : Int} {x : Nd} {l : List Tr} (h1 : ¬ ownOf x.1 = 0) (h2 : okN wide vars x.1 x.2 = true) (h3 : manyOf x.1 = l.length) (h4 : ∀ q ∈ l, q.kind = partOf x.1 ∧ q.Ok wide vars) : (Tr.over x l).Ok wide vars := by
  have := manyOf_le x.1
  match l, h3, h4 with
  | [], h3, h4 => exact ⟨h1, h2, h3⟩
  | [a], h3, h4 => exact ⟨h1, h2, h3, (h4 a (by simp)).1, (h4 a (by simp)).2⟩
  | [a, b], h3, h4 => exact ⟨h1, h2, h3, (h4 a (by simp)).1, (h4 b (by simp)).1, (h4 a (by simp)).2, (h4 b (by simp)).2⟩
  | _ :: _ :: _ :: _, h3, _ => simp at h3; omega
theorem Tr.over_self (t : Tr) : Tr.over t.nd t.parts = t := by
  cases t <;> rfl
/-- a tree's nodes lay its kind on the pile -/
theorem Tr.fold_flat {wide vars : Int} : ∀ (t : Tr) (p : List Int), t.Ok wide vars → foldK wide vars t.flat p = some (p ++ [t.kind])
  | .leaf x, p, h => by
    obtain ⟨h1, h2, h3⟩ := h
    simp only [Tr.flat, foldK, stepK]
    rw [if_neg (by rw [h2, h3]; simp [h1]), h3]
    rfl
  | .one x a, p, h => by
    obtain ⟨h1, h2, h3, h4, h5⟩ := h
    have ia := Tr.fold_flat a p h5
    rw [Tr.flat, foldK_append, ia]
    simp only [Option.bind_some, foldK, stepK]
    rw [if_neg (by rw [h2, h3]; simp [h1]), h3]
    rw [show (Tr.one x a).kind = ownOf x.1 from rfl]
    simp [popN, h4]
  | .two x a b, p, h => by
    obtain ⟨h1, h2, h3, h4, h4', h5, h6⟩ := h
    have ia := Tr.fold_flat a p h5
    have ib := Tr.fold_flat b (p ++ [a.kind]) h6
    rw [Tr.flat, foldK_append, foldK_append, ia]
    simp only [Option.bind_some]
    rw [ib]
    simp only [Option.bind_some, foldK, stepK]
    rw [if_neg (by rw [h2, h3]; simp [h1]), h3]
    rw [show (Tr.two x a b).kind = ownOf x.1 from rfl]
    simp [popN, h4, h4']
theorem Tr.kind_pos {wide vars : Int} {t : Tr} (h : t.Ok wide vars) : t.kind = 1 ∨ t.kind = 2 := by
  have h1 := (Tr.ok_nd h).1
  have := ownOf_range t.nd.1
  unfold Tr.kind
  omega
theorem Tr.kindL_eq {wide vars : Int} {t : Tr} (h : t.Ok wide vars) (hw : wideB wide = true) (h1 : 1 ≤ vars) (h4 : vars ≤ 4) (hs : t.size ≤ 48) : kindL wide vars t.flat = t.kind := by
  have hl := t.flat_len
  have hp := t.size_pos
  unfold kindL
  rw [if_pos ⟨hw, h1, h4, by omega, by omega⟩, Tr.fold_flat t [] h]
  rfl
theorem Tr.kindL_long {wide vars : Int} {t : Tr} (hs : 48 < t.size) : kindL wide vars t.flat = 0 := by
  have hl := t.flat_len
  unfold kindL
  rw [if_neg (by intro h; omega)]
/-- what is read off entries -/
def Ent.map {α β : Type} (h : α → β) (e : Ent α) : Ent β := ⟨e.at0, e.kind, h e.val⟩
section
variable {α β : Type} {wide vars : Int} {f0 : Nd → α} {f1 : Nd → α → α} {f2 : Nd → α → α → α} {g0 : Nd → β} {g1 : Nd → β → β} {g2 : Nd → β → β → β}
theorem stepE_map (h : α → β) (h0 : ∀ x, h (f0 x) = g0 x) (h1 : ∀ x a, h (f1 x a) = g1 x (h a)) (h2 : ∀ x a b, h (f2 x a b) = g2 x (h a) (h b)) (i : Nat) (p : List (Ent α)) (x : Nd) :
    stepE wide vars g0 g1 g2 i (p.map (Ent.map h)) x = (stepE wide vars f0 f1 f2 i p x).map (List.map (Ent.map h)) := by
  unfold stepE
  split
  · rfl
  split
  · simp [Ent.map, h0]
  split
  · match p with
    | [] => rfl
    | d :: r =>
      simp only [List.map_cons]
      show (if d.kind = _ then _ else _) = _
      split
      · simp [Ent.map, h1]
      · rfl
  · match p with
    | [] => rfl
    | [_] => rfl
    | d :: c :: r =>
      simp only [List.map_cons]
      show (if d.kind = _ ∧ c.kind = _ then _ else _) = _
      split
      · simp [Ent.map, h2]
      · rfl
theorem pileE_map (h : α → β) (h0 : ∀ x, h (f0 x) = g0 x) (h1 : ∀ x a, h (f1 x a) = g1 x (h a)) (h2 : ∀ x a b, h (f2 x a b) = g2 x (h a) (h b)) (t : List Nd) :
    ∀ j, pileE wide vars g0 g1 g2 t j = (pileE wide vars f0 f1 f2 t j).map (List.map (Ent.map h))
  | 0 => rfl
  | j + 1 => by
    simp only [pileE]
    rw [pileE_map h h0 h1 h2 t j]
    cases pileE wide vars f0 f1 f2 t j with
    | none => rfl
    | some p =>
      simp only [Option.map_some, Option.bind_some]
      cases t[j]? with
      | none => rfl
      | some x =>
        simp only [Option.bind_some]
        exact stepE_map h h0 h1 h2 j p x
end
/-- the pile of trees -/
abbrev pileT (wide vars : Int) (t : List Nd) (j : Nat) : Option (List (Ent Tr)) := pileE wide vars Tr.leaf Tr.one Tr.two t j
abbrev EntOk (wide vars : Int) (e : Ent Tr) : Prop := e.val.Ok wide vars ∧ e.kind = e.val.kind
theorem pileT_ok {wide vars : Int} {t : List Nd} : ∀ (j : Nat) (p : List (Ent Tr)), pileT wide vars t j = some p → (∀ e ∈ p, EntOk wide vars e) ∧ (p.reverse.flatMap fun e => e.val.flat) = t.take j
  | 0, p, h => by
    simp only [pileE, Option.some.injEq] at h
    subst h
    exact ⟨fun e he => (by cases he), rfl⟩
  | j + 1, q, h => by
    obtain ⟨p, x, hp, hx, hs⟩ := pileE_step h
    obtain ⟨i1, i2⟩ := pileT_ok j p hp
    have e : t.take (j + 1) = t.take j ++ [x] := by
      rw [List.take_add_one, hx]
      rfl
    rw [e, ← i2]
    obtain ⟨n1, n2, ⟨m0, rfl⟩ | ⟨m1, d, r, rfl, hd, rfl⟩ | ⟨m2, d, c, r, rfl, hd, hc, rfl⟩⟩ := stepE_inv hs
    · refine ⟨?_, by simp [Tr.flat]⟩
      intro e he
      rcases List.mem_cons.1 he with rfl | he
      · exact ⟨⟨n1, n2, m0⟩, rfl⟩
      · exact i1 e he
    · have id := i1 d (by simp)
      refine ⟨?_, by simp [Tr.flat]⟩
      intro e he
      rcases List.mem_cons.1 he with rfl | he
      · exact ⟨⟨n1, n2, m1, by rw [← id.2, hd], id.1⟩, rfl⟩
      · exact i1 e (by simp [he])
    · have id := i1 d (by simp)
      have ic := i1 c (by simp)
      refine ⟨?_, by simp [Tr.flat]⟩
      intro e he
      rcases List.mem_cons.1 he with rfl | he
      · exact ⟨⟨n1, n2, m2, by rw [← ic.2, hc], by rw [← id.2, hd], ic.1, id.1⟩, rfl⟩
      · exact i1 e (by simp [he])
/-- the pile stands just where the plain one does -/
theorem foldK_of_pileT {wide vars : Int} {t : List Nd} {j : Nat} {p : List (Ent Tr)} (h : pileT wide vars t j = some p) : foldK wide vars (t.take j) [] = some (p.map Ent.kind).reverse := by
  obtain ⟨h1, h2⟩ := pileT_ok j p h
  rw [← h2]
  have aux : ∀ (l : List (Ent Tr)) (q : List Int), (∀ e ∈ l, EntOk wide vars e) → foldK wide vars (l.flatMap fun e => e.val.flat) q = some (q ++ l.map Ent.kind) := by
    intro l
    induction l with
    | nil => intro q _; simp [foldK]
    | cons e l ih =>
      intro q hq
      have he := hq e (by simp)
      rw [List.flatMap_cons, foldK_append, Tr.fold_flat e.val q he.1]
      simp only [Option.bind_some]
      rw [ih _ (fun e he => hq e (by simp [he])), ← he.2]
      simp
  rw [aux p.reverse [] (fun e he => h1 e (by simpa using he))]
  simp
/-- the tree of a good term -/
theorem root_tree {wide vars : Int} {t : List Nd} (h : 0 < kindL wide vars t) : wideB wide = true ∧ 1 ≤ vars ∧ vars ≤ 4 ∧ 1 ≤ t.length ∧ t.length ≤ 48 ∧ ∃ r : Tr, pileT wide vars t t.length = some [⟨0, r.kind, r⟩] ∧ r.Ok wide vars ∧ r.flat = t ∧ r.kind = kindL wide vars t := by
  obtain ⟨g1, g2, g3, g4, g5, e, ⟨r, hr⟩, hk⟩ := tree_root (f0 := Tr.leaf) (f1 := Tr.one) (f2 := Tr.two) h
  refine ⟨g1, g2, g3, g4, g5, e.val, ?_⟩
  rw [show t.length - 1 + 1 = t.length from by omega] at hr
  have hf := foldK_of_pileT hr
  rw [List.take_length] at hf
  have hr0 : r = [] := by
    unfold kindL at h
    rw [if_pos ⟨g1, g2, g3, g4, g5⟩, hf] at h
    cases r with
    | nil => rfl
    | cons d r =>
      exfalso
      generalize hq : (List.map Ent.kind (e :: d :: r)).reverse = q at h
      have hl := congrArg List.length hq
      simp at hl
      match q, hl, h with
      | [], hl, h => simp at h
      | [_], hl, h => simp at hl
      | _ :: _ :: _, hl, h => simp at h
  subst hr0
  obtain ⟨k1, k2⟩ := pileT_ok t.length [e] hr
  obtain ⟨k3, k4⟩ := k1 e (by simp)
  have hb := pile_below (t.length - 1) (t.length - 1) (Nat.le_refl _) e [] (by rw [show t.length - 1 + 1 = t.length from by omega]; exact hr)
  have h0 : e.at0 = 0 := by
    have h2 := (pileT_ok _ _ hb.2).2
    simp at h2
    rcases h2 with h2 | h2
    · exact h2
    · rw [h2] at g4
      simp at g4
  refine ⟨?_, k3, by simpa using k2, by rw [← k4, hk]⟩
  show pileE wide vars Tr.leaf Tr.one Tr.two t t.length = _
  rw [hr, ← k4, ← h0]
end Go.Proofs.YtmhpnkfibecnmaaDoor.M

namespace Go.Proofs.YtmhpnkfibecnmaaDoor
open Go Go.RowKit
open M
set_option linter.unusedVariables false

abbrev ptr (b : Nat) : Value := .pointer (some ⟨b, 0, none⟩)
abbrev ptrs (bs : List Nat) : List Value := bs.map ptr
/-- a slice whose elements point to these blocks -/
def PtrsAt (w : World) (S : Nat → Prop) (v : Value) (bs : List Nat) : Prop :=
  bs.length ≤ 9223372036854775807 ∧ ((bs = [] ∧ ∃ (a : Option Addr) (cap : Nat), v = .slice a 0 cap) ∨
  ∃ g off cap : Nat, v = .slice (some ⟨g, off, none⟩) bs.length cap ∧ S g ∧ ∀ (i b : Nat), bs[i]? = some b → w.cell? ⟨g, off + i, none⟩ = some (ptr b))
/-- a node in memory: its op, its number, its kind, its size, its parts -/
def NodeAt (w : World) (S : Nat → Prop) (b : Nat) (x : Nd) (kind : Int) (size : Nat) (ps : List Nat) : Prop :=
  S b ∧ w.cell? ⟨b, 0, none⟩ = some (.int .i64 x.1) ∧ w.cell? ⟨b, 1, none⟩ = some (.int .u64 x.2) ∧ w.cell? ⟨b, 2, none⟩ = some (.int .i64 kind) ∧ w.cell? ⟨b, 3, none⟩ = some (.int .i64 size) ∧
  ∃ v, w.cell? ⟨b, 4, none⟩ = some v ∧ PtrsAt w S v ps
def TrAt (w : World) (S : Nat → Prop) : Tr → Nat → Prop
  | .leaf x, b => NodeAt w S b x (ownOf x.1) 1 []
  | .one x a, b => ∃ p, NodeAt w S b x (ownOf x.1) (Tr.one x a).size [p] ∧ TrAt w S a p
  | .two x a c, b => ∃ p q, NodeAt w S b x (ownOf x.1) (Tr.two x a c).size [p, q] ∧ TrAt w S a p ∧ TrAt w S c q
/-- trees side by side -/
def TrsAt (w : World) (S : Nat → Prop) (l : List Tr) (ps : List Nat) : Prop := l.length = ps.length ∧ ∀ (i : Nat) (a : Tr) (p : Nat), l[i]? = some a → ps[i]? = some p → TrAt w S a p
theorem PtrsAt.frame {w w' : World} {S S' : Nat → Prop} {v : Value} {bs : List Nat} (h : PtrsAt w S v bs) (hs : ∀ k, S k → S' k) (hk : ∀ k, S k → w'.heap[k]? = w.heap[k]?) : PtrsAt w' S' v bs := by
  obtain ⟨h1, h2⟩ := h
  refine ⟨h1, ?_⟩
  rcases h2 with h2 | ⟨g, off, cap, hv, hg, hc⟩
  · exact Or.inl h2
  · refine Or.inr ⟨g, off, cap, hv, hs g hg, fun i b hb => ?_⟩
    rw [World.cell?_of_block (w := w) (a := ⟨g, off + i, none⟩) (hk g hg)]
    exact hc i b hb
theorem NodeAt.frame {w w' : World} {S S' : Nat → Prop} {b : Nat} {x : Nd} {kind : Int} {size : Nat} {ps : List Nat} (h : NodeAt w S b x kind size ps) (hs : ∀ k, S k → S' k) (hk : ∀ k, S k → w'.heap[k]? = w.heap[k]?) : NodeAt w' S' b x kind size ps := by
  obtain ⟨h0, h1, h2, h3, h4, v, h5, h6⟩ := h
  have hb := hk b h0
  exact ⟨hs b h0, by rw [World.cell?_of_block (w := w) (a := ⟨b, 0, none⟩) hb]; exact h1, by rw [World.cell?_of_block (w := w) (a := ⟨b, 1, none⟩) hb]; exact h2, by rw [World.cell?_of_block (w := w) (a := ⟨b, 2, none⟩) hb]; exact h3, by rw [World.cell?_of_block (w := w) (a := ⟨b, 3, none⟩) hb]; exact h4, v, by rw [World.cell?_of_block (w := w) (a := ⟨b, 4, none⟩) hb]; exact h5, h6.frame hs hk⟩
theorem TrAt.frame {w w' : World} {S S' : Nat → Prop} (hs : ∀ k, S k → S' k) (hk : ∀ k, S k → w'.heap[k]? = w.heap[k]?) : ∀ {t : Tr} {b : Nat}, TrAt w S t b → TrAt w' S' t b
  | .leaf x, b, h => NodeAt.frame h hs hk
  | .one x a, b, ⟨p, h1, h2⟩ => ⟨p, h1.frame hs hk, TrAt.frame hs hk h2⟩
  | .two x a c, b, ⟨p, q, h1, h2, h3⟩ => ⟨p, q, h1.frame hs hk, TrAt.frame hs hk h2, TrAt.frame hs hk h3⟩
theorem TrsAt.frame {w w' : World} {S S' : Nat → Prop} {l : List Tr} {ps : List Nat} (hs : ∀ k, S k → S' k) (hk : ∀ k, S k → w'.heap[k]? = w.heap[k]?) (h : TrsAt w S l ps) : TrsAt w' S' l ps :=
  ⟨h.1, fun i a p ha hp => TrAt.frame hs hk (h.2 i a p ha hp)⟩
theorem trAt_open {w : World} {S : Nat → Prop} {t : Tr} {b : Nat} (h : TrAt w S t b) : ∃ ps, NodeAt w S b t.nd t.kind t.size ps ∧ TrsAt w S t.parts ps := by
  cases t with
  | leaf x => exact ⟨[], h, rfl, fun i a p ha _ => by simp [Tr.parts] at ha⟩
  | one x a =>
    obtain ⟨p, h1, h2⟩ := h
    refine ⟨[p], h1, rfl, fun i c q hc hq => ?_⟩
    match i with
    | 0 =>
      simp [Tr.parts] at hc hq
      subst hc hq
      exact h2
    | i + 1 => simp at hq
  | two x a c =>
    obtain ⟨p, q, h1, h2, h3⟩ := h
    refine ⟨[p, q], h1, rfl, fun i d r hd hr => ?_⟩
    match i with
    | 0 =>
      simp [Tr.parts] at hd hr
      subst hd hr
      exact h2
    | 1 =>
      simp [Tr.parts] at hd hr
      subst hd hr
      exact h3
    | i + 2 => simp at hr
theorem trAt_shut {w : World} {S : Nat → Prop} {x : Nd} {l : List Tr} {b : Nat} {ps : List Nat} (hl : l.length ≤ 2) (h : NodeAt w S b x (ownOf x.1) (1 + sizes l) ps) (hp : TrsAt w S l ps) : TrAt w S (Tr.over x l) b := by
  obtain ⟨h1, h2⟩ := hp
  match l, hl, ps, h, h1, h2 with
  | [], _, [], h, _, _ => exact h
  | [a], _, [p], h, _, h2 => exact ⟨p, h, h2 0 a p rfl rfl⟩
  | [a, c], _, [p, q], h, _, h2 =>
    have e : 1 + sizes [a, c] = (Tr.two x a c).size := by simp only [sizes, Tr.size]; omega
    rw [e] at h
    exact ⟨p, q, h, h2 0 a p rfl rfl, h2 1 c q rfl rfl⟩
  | _ :: _ :: _ :: _, hl, _, _, _, _ => simp at hl
/-- all that lies in a world -/
abbrev Old (w : World) : Nat → Prop := fun k => k < w.heap.size
/-- all that lies in a world but the block of a row -/
abbrev OldBut (w : World) (v : Value) : Nat → Prop := fun k => k < w.heap.size ∧ some k ≠ v.ownBlock
theorem TrAt.below {w w' : World} {t : Tr} {b : Nat} (h : TrAt w (Old w) t b) (hb : Below w.heap.size w w') : TrAt w' (Old w') t b :=
  TrAt.frame (fun k hk => Nat.lt_of_lt_of_le hk hb.size) (fun k hk => hb.block k hk) h
theorem TrsAt.below {w w' : World} {l : List Tr} {ps : List Nat} (h : TrsAt w (Old w) l ps) (hb : Below w.heap.size w w') : TrsAt w' (Old w') l ps :=
  TrsAt.frame (fun k hk => Nat.lt_of_lt_of_le hk hb.size) (fun k hk => hb.block k hk) h
theorem PtrsAt.below {w w' : World} {v : Value} {bs : List Nat} (h : PtrsAt w (Old w) v bs) (hb : Below w.heap.size w w') : PtrsAt w' (Old w') v bs :=
  PtrsAt.frame h (fun k hk => Nat.lt_of_lt_of_le hk hb.size) (fun k hk => hb.block k hk)
/-- a row that is owned points -/
theorem ptrs_of_own {w : World} {B : Nat} {v : Value} {bs : List Nat} (h : w.ownsRow B 101 1 v bs.length (ptrs bs)) (hl : bs.length ≤ 9223372036854775807) : PtrsAt w (Old w) v bs := by
  refine ⟨hl, ?_⟩
  rcases h.2 with ⟨rfl, h0⟩ | ⟨g, cap, cur, rfl, hg, hh, _, _, _, ht⟩
  · exact Or.inl ⟨List.length_eq_zero_iff.1 h0, none, 0, rfl⟩
  · refine Or.inr ⟨g, 0, cap, rfl, (Array.getElem?_eq_some_iff.1 hh).1, fun i b hb => ?_⟩
    have hc := h.cells (g := g) rfl i (ptr b) (by simp [ptrs, hb])
    rw [show ((⟨g, 0, none⟩ : Addr).add i) = ⟨g, 0 + i, none⟩ from by unfold Addr.add; split <;> simp_all] at hc
    exact hc
theorem heap_set {w : World} {b o : Nat} {v : Value} {c : Array Value} {e : TypeId} {f : Nat × Nat} (h : w.heap[b]? = some (.cells c e f)) : (w.setCell ⟨b, o, none⟩ v).heap[b]? = some (.cells (c.setIfInBounds o v) e f) := by
  simp [World.setCell, Array.getElem?_modify, h]
theorem cell_heap {w : World} {b o : Nat} {c : Array Value} {e : TypeId} {f : Nat × Nat} (h : w.heap[b]? = some (.cells c e f)) : w.cell? ⟨b, o, none⟩ = c[o]? := by
  simp [World.cell?, h]
end Go.Proofs.YtmhpnkfibecnmaaDoor

namespace Go.Proofs.YtmhpnkfibecnmaaDoor
open Go Go.RowKit
open M
set_option linter.unusedVariables false

/-- rows of nodes and of changes may have changed, between two blocks; where a change's nodes lie has not -/
structure PTouch (lo hi : Nat) (w w' : World) : Prop where
  os : w'.os = w.os
  tape : w'.tape = w.tape
  output : w'.output = w.output
  size : w.heap.size ≤ w'.heap.size
  block : ∀ i, i < w.heap.size → w'.heap[i]? = w.heap[i]? ∨ (lo ≤ i ∧ i < hi ∧ ∃ (cs cs' : Array Value) (e : TypeId), w.heap[i]? = some (.cells cs e (0, 0)) ∧ w'.heap[i]? = some (.cells cs' e (0, 0)) ∧ cs'.size = cs.size ∧ (e = 159 ∨ (e = 118 ∧ ∀ j : Nat, cs'[j * 2 + 1]? = cs[j * 2 + 1]?)))
theorem PTouch.refl (lo hi : Nat) (w : World) : PTouch lo hi w w := ⟨rfl, rfl, rfl, Nat.le_refl _, fun _ _ => Or.inl rfl⟩
theorem PTouch.trans {lo hi : Nat} {u v w : World} (h : PTouch lo hi u v) (k : PTouch lo hi v w) : PTouch lo hi u w := by
  refine ⟨k.os.trans h.os, k.tape.trans h.tape, k.output.trans h.output, Nat.le_trans h.size k.size, fun i hi' => ?_⟩
  rcases h.block i hi' with e1 | ⟨h1, h2, cs, cs', e, a1, a2, a3, a4⟩
  · rcases k.block i (Nat.lt_of_lt_of_le hi' h.size) with e2 | ⟨k1, k2, ds, ds', f, b1, b2, b3, b4⟩
    · exact Or.inl (e2.trans e1)
    · exact Or.inr ⟨k1, k2, ds, ds', f, by rw [← e1]; exact b1, b2, b3, b4⟩
  · rcases k.block i (Nat.lt_of_lt_of_le hi' h.size) with e2 | ⟨k1, k2, ds, ds', f, b1, b2, b3, b4⟩
    · exact Or.inr ⟨h1, h2, cs, cs', e, a1, by rw [e2]; exact a2, a3, a4⟩
    · rw [a2] at b1
      have b1 := Option.some.inj b1
      injection b1 with c1 c2 c3
      subst c1 c2
      refine Or.inr ⟨h1, h2, cs, ds', e, a1, b2, b3.trans a3, ?_⟩
      rcases a4 with a4 | ⟨a4, a5⟩
      · exact Or.inl a4
      · rcases b4 with b4 | ⟨_, b5⟩
        · exact Or.inl b4
        · exact Or.inr ⟨a4, fun j => (b5 j).trans (a5 j)⟩
theorem PTouch.touch {lo hi : Nat} {w w' : World} (h : PTouch lo hi w w') : Touch lo hi w w' :=
  ⟨h.os, h.tape, h.output, h.size, fun i hi' hr => by
    rcases h.block i hi' with e | ⟨h1, h2, _⟩
    · exact e
    · omega⟩
/-- a row of nodes of that many, whatever they are -/
def NRow (w : World) (lo hi : Nat) (v : Value) (n : Nat) : Prop := ∃ xs, RowIn w lo hi 159 2 v n xs
theorem NRow.touched {w w' : World} {lo hi : Nat} {v : Value} {n : Nat} (h : NRow w lo hi v n) (k : PTouch lo hi w w') : NRow w' lo hi v n := by
  obtain ⟨xs, ⟨h1, h2⟩, h3, h4⟩ := h
  have h5 := Nat.le_trans h4 k.size
  rcases h2 with h2 | ⟨g, cap, cur, hv, hB, hh, q1, q2, q3, q4⟩
  · exact ⟨xs, ⟨h1, Or.inl h2⟩, h3, h5⟩
  · have hlt := (Array.getElem?_eq_some_iff.1 hh).1
    rcases k.block g hlt with e | ⟨_, _, cs, cs', e, a1, a2, a3, _⟩
    · exact ⟨xs, ⟨h1, Or.inr ⟨g, cap, cur, hv, hB, by rw [e]; exact hh, q1, q2, q3, q4⟩⟩, h3, h5⟩
    · rw [hh] at a1
      have a1 := Option.some.inj a1
      injection a1 with c1 c2 c3
      subst c1 c2
      refine ⟨cs'.toList.take (n * 2), ⟨?_, Or.inr ⟨g, cap, cs', hv, hB, a2, q1, q2, by rw [a3]; exact q3, rfl⟩⟩, h3, h5⟩
      rw [List.length_take, Array.length_toList, a3, q3]
      have : n * 2 ≤ cap * 2 := Nat.mul_le_mul_right 2 q1
      omega
theorem ptouch_row {w w' : World} {lo hi : Nat} {v : Value} {n : Nat} {xs ys : List Value} (h : RowIn w lo hi 159 2 v n xs) (h' : w'.ownsRow lo 159 2 v n ys) (g : w.grownBy w' v.ownBlock) : PTouch lo hi w w' := by
  refine ⟨g.os, g.tape, g.output, g.size, fun i hi' => ?_⟩
  by_cases e : some i = v.ownBlock
  · obtain ⟨⟨h1, h2⟩, h3, h4⟩ := h
    rcases h2 with ⟨rfl, _⟩ | ⟨b, cap, cur, rfl, hB, hh, q1, q2, q3, q4⟩
    · simp [Value.ownBlock] at e
    · have e2 : i = b := by simpa [Value.ownBlock] using e
      subst e2
      rcases h'.2 with ⟨e3, _⟩ | ⟨b', cap', cur', e3, hB', hh', r1, r2, r3, r4⟩
      · cases e3
      · injection e3 with e4 e5 e6
        injection e4 with e4
        injection e4 with e4
        subst e4 e6
        exact Or.inr ⟨hB, h3 _ rfl, cur, cur', _, hh, hh', by rw [q3, r3], Or.inl rfl⟩
  · exact Or.inl (g.block i hi' e)
theorem markNodes_weak (v : Value) (n : Nat) (lo hi : Nat) (k : Int) (hn : n ≤ 1048576) (hk0 : 0 ≤ k) (hk : k ≤ 200000000000) (w : World) (h : NRow w lo hi v n) :
    Calls Tryd.prog 93 #[v, .int .i64 k] w fun e w' => e = .returned (.int .i64 (k + 2 * n)) ∧ PTouch lo hi w w' := by
  obtain ⟨xs, hx⟩ := h
  refine (markNodeS_any v lo n _ xs k (by omega) hk0 (by omega) w hx.1).mono ?_
  rintro e w' ⟨he, ho, hg⟩
  exact ⟨he, ptouch_row hx ho hg⟩
/-- a row of changes, whatever they are, with rows of nodes of that many -/
def ChRow (w : World) (lo hi : Nat) (v : Value) (cs : List Ch) : Prop :=
  (cs = [] ∧ v = .slice none 0 0) ∨ ∃ (g cap : Nat) (cur : Array Value), v = .slice (some ⟨g, 0, none⟩) cs.length cap ∧ lo ≤ g ∧ g < hi ∧ w.heap[g]? = some (.cells cur 118 (0, 0)) ∧ cs.length * 2 ≤ cur.size ∧ ∀ (i : Nat) (c : Ch), cs[i]? = some c → ∃ y, cur[i * 2 + 1]? = some y ∧ NRow w lo hi y c.2.length
theorem ChRow.touched {w w' : World} {lo hi : Nat} {v : Value} {cs : List Ch} (h : ChRow w lo hi v cs) (k : PTouch lo hi w w') : ChRow w' lo hi v cs := by
  rcases h with h | ⟨g, cap, cur, hv, hB, hi', hh, hl, hc⟩
  · exact Or.inl h
  · have hlt := (Array.getElem?_eq_some_iff.1 hh).1
    rcases k.block g hlt with e | ⟨_, _, ds, ds', e, a1, a2, a3, a4⟩
    · refine Or.inr ⟨g, cap, cur, hv, hB, hi', by rw [e]; exact hh, hl, fun i c hi2 => ?_⟩
      obtain ⟨y, y1, y2⟩ := hc i c hi2
      exact ⟨y, y1, y2.touched k⟩
    · rw [hh] at a1
      have a1 := Option.some.inj a1
      injection a1 with c1 c2 c3
      subst c1 c2
      have a5 : ∀ j : Nat, ds'[j * 2 + 1]? = cur[j * 2 + 1]? := by
        rcases a4 with a4 | ⟨_, a4⟩
        · exact absurd a4 (by decide)
        · exact a4
      refine Or.inr ⟨g, cap, ds', hv, hB, hi', a2, by rw [a3]; exact hl, fun i c hi2 => ?_⟩
      obtain ⟨y, y1, y2⟩ := hc i c hi2
      exact ⟨y, by rw [a5]; exact y1, y2.touched k⟩
def CmRow (w : World) (lo hi : Nat) (v : Value) (cs : List Cm) : Prop :=
  (cs = [] ∧ v = .slice none 0 0) ∨ ∃ (g cap : Nat) (cur : Array Value), v = .slice (some ⟨g, 0, none⟩) cs.length cap ∧ lo ≤ g ∧ g < hi ∧ w.heap[g]? = some (.cells cur 98 (0, 0)) ∧ cs.length * 2 ≤ cur.size ∧ ∀ (i : Nat) (c : Cm), cs[i]? = some c → ∃ x y, cur[i * 2]? = some x ∧ cur[i * 2 + 1]? = some y ∧ NRow w lo hi x c.1.length ∧ ChRow w lo hi y c.2
theorem CmRow.touched {w w' : World} {lo hi : Nat} {v : Value} {cs : List Cm} (h : CmRow w lo hi v cs) (k : PTouch lo hi w w') : CmRow w' lo hi v cs := by
  rcases h with h | ⟨g, cap, cur, hv, hB, hi', hh, hl, hc⟩
  · exact Or.inl h
  · have hlt := (Array.getElem?_eq_some_iff.1 hh).1
    rcases k.block g hlt with e | ⟨_, _, ds, ds', e, a1, a2, a3, a4⟩
    · refine Or.inr ⟨g, cap, cur, hv, hB, hi', by rw [e]; exact hh, hl, fun i c hi2 => ?_⟩
      obtain ⟨x, y, x1, y1, x2, y2⟩ := hc i c hi2
      exact ⟨x, y, x1, y1, x2.touched k, y2.touched k⟩
    · rw [hh] at a1
      have a1 := Option.some.inj a1
      injection a1 with c1 c2 c3
      subst c1 c2
      rcases a4 with a4 | ⟨a4, _⟩ <;> exact absurd a4 (by decide)
theorem chRow_of {w : World} {lo hi : Nat} {v : Value} {cs : List Ch} (h : OwnPs 118 OwnChV w lo hi v cs) : ChRow w lo hi v cs := by
  obtain ⟨ps, hpl, ⟨hr, h3, h4⟩, hp⟩ := h
  have hr' := hr
  rcases hr.2 with ⟨h1, h2⟩ | ⟨g, cap, cur, rfl, hg, hh, q1, q2, q3, q4⟩
  · exact Or.inl ⟨List.length_eq_zero_iff.1 h2, h1⟩
  · have hsz : cs.length * 2 ≤ cur.size := by
      rw [q3]
      exact Nat.mul_le_mul_right 2 q1
    refine Or.inr ⟨g, cap, cur, rfl, hg, h3 g rfl, hh, hsz, fun i c hi => ?_⟩
    have hic := (List.getElem?_eq_some_iff.1 hi).1
    obtain ⟨p, hq⟩ : ∃ p, ps[i]? = some p := ⟨ps[i]'(by omega), List.getElem?_eq_getElem (by omega)⟩
    obtain ⟨f0, f1⟩ := flatP_at ps i p hq
    have hv := (hp i c p hi hq).2
    refine ⟨p.2, ?_, _, hv⟩
    have h5 := hr'.cellAt (i * 2 + 1) (by omega)
    rw [f1] at h5
    rw [← cell_heap hh]
    exact h5
theorem cmRow_of {w : World} {lo hi : Nat} {v : Value} {cs : List Cm} (h : OwnPs 98 OwnCmV w lo hi v cs) : CmRow w lo hi v cs := by
  obtain ⟨ps, hpl, ⟨hr, h3, h4⟩, hp⟩ := h
  have hr' := hr
  rcases hr.2 with ⟨h1, h2⟩ | ⟨g, cap, cur, rfl, hg, hh, q1, q2, q3, q4⟩
  · exact Or.inl ⟨List.length_eq_zero_iff.1 h2, h1⟩
  · have hsz : cs.length * 2 ≤ cur.size := by
      rw [q3]
      exact Nat.mul_le_mul_right 2 q1
    refine Or.inr ⟨g, cap, cur, rfl, hg, h3 g rfl, hh, hsz, fun i c hi => ?_⟩
    have hic := (List.getElem?_eq_some_iff.1 hi).1
    obtain ⟨p, hq⟩ : ∃ p, ps[i]? = some p := ⟨ps[i]'(by omega), List.getElem?_eq_getElem (by omega)⟩
    obtain ⟨f0, f1⟩ := flatP_at ps i p hq
    obtain ⟨hv1, hv2⟩ := hp i c p hi hq
    have h5 := hr'.cellAt (i * 2) (by omega)
    have h6 := hr'.cellAt (i * 2 + 1) (by omega)
    rw [f0] at h5
    rw [f1] at h6
    exact ⟨p.1, p.2, by rw [← cell_heap hh]; exact h5, by rw [← cell_heap hh]; exact h6, ⟨_, hv1⟩, chRow_of hv2⟩
def lenCh (c : Ch) : Nat := 1 + 2 * c.2.length
def lenChs (cs : List Ch) : Nat := sumBy lenCh cs
def lenCm (c : Cm) : Nat := 2 * c.1.length + lenChs c.2
def lenCms (cs : List Cm) : Nat := sumBy lenCm cs
def lenPg (p : Pg) : Nat := 2 * p.2.2.1.length + lenCms p.2.2.2
theorem lenChs_le : ∀ cs : List Ch, lenChs cs ≤ 2 * sChs cs
  | [] => Nat.zero_le _
  | c :: r => by
    have ih := lenChs_le r
    unfold sChs lenChs at *
    simp only [sumBy, List.length_cons, lenCh, sCh] at *
    omega
theorem lenCms_le : ∀ cs : List Cm, lenCms cs ≤ 2 * sCms cs
  | [] => Nat.zero_le _
  | c :: r => by
    have ih := lenCms_le r
    have h2 := lenChs_le c.2
    unfold sCms lenCms at *
    simp only [sumBy, List.length_cons, lenCm, sCm] at *
    omega
theorem lenPg_le (p : Pg) : lenPg p ≤ 2 * sPg p := by
  have := lenCms_le p.2.2.2
  unfold lenPg sPg
  omega
set_option maxRecDepth 100000 in
set_option maxHeartbeats 2000000 in
theorem markChanges_weak (v : Value) (cs : List Ch) (lo hi : Nat) (k : Int) (hs : sChs cs ≤ 1048576) (hk0 : 0 ≤ k) (hk : k ≤ 150000000000) (w : World) (h : ChRow w lo hi v cs) :
    Calls Tryd.prog 122 #[v, .int .i64 k] w fun e w' => e = .returned (.int .i64 (k + lenChs cs)) ∧ PTouch lo hi w w' := by
  have hle := lenChs_le cs
  have hcl : cs.length ≤ 1048576 := by unfold sChs at hs; omega
  have HR : Hid (∀ w1 : World, PTouch lo hi w w1 → ChRow w1 lo hi v cs) := fun w1 k => h.touched k
  have HM : Hid (∀ (w1 : World) (y : Value) (c : Ch) (q : Int), c ∈ cs → 0 ≤ q → q ≤ 200000000000 → NRow w1 lo hi y c.2.length → Calls Tryd.prog 93 #[y, .int .i64 q] w1 fun e w' => e = .returned (.int .i64 (q + 2 * c.2.length)) ∧ PTouch lo hi w1 w') := fun w1 y c q hc h0 h1 hr => markNodes_weak y _ lo hi q (by have := sumBy_mem sCh cs c hc; unfold sChs at hs; unfold sCh at this hs; omega) h0 h1 w1 hr
  have hlb : ∀ j : Nat, lenChs (cs.take j) ≤ lenChs cs := fun j => sumBy_take lenCh cs j
  have hsn : ∀ (j : Nat) (c : Ch), cs[j]? = some c → lenChs (cs.take (j + 1)) = lenChs (cs.take j) + (1 + 2 * c.2.length) := fun j c hc => sumBy_snoc lenCh cs j c hc
  have HLB : Hid _ := hlb
  have HSN : Hid _ := hsn
  obtain ⟨a, cap, rfl⟩ : ∃ a cap, v = .slice a cs.length cap := by
    rcases h with ⟨rfl, rfl⟩ | ⟨g, cap, _, rfl, _⟩
    · exact ⟨none, 0, rfl⟩
    · exact ⟨_, cap, rfl⟩
  clear h hlb hsn
  go_enter Tryd.func122, Tryd.ntmps122
  go_wp2_with fail
  go_loopw [1, 5] (fun m i wr => ∃ j : Nat, j ≤ cs.length ∧ i = .int .i64 j ∧ m = .int .i64 (k + lenChs (cs.take j)) ∧ Hid (PTouch lo hi w wr)) (fun _ i _ => cs.length - (intOf i).toNat)
  case atStart => exact ⟨0, by omega, rfl, by simp [lenChs, sumBy], PTouch.refl _ _ _⟩
  case round =>
    obtain ⟨j, hj, rfl, rfl, HP⟩ := hrel
    have hb := HLB.out j
    by_cases hlt : j < cs.length
    · obtain ⟨c, hc⟩ : ∃ c, cs[j]? = some c := ⟨cs[j], List.getElem?_eq_getElem hlt⟩
      have hsn := HSN.out j c hc
      have hb2 := HLB.out (j + 1)
      rcases HR.out wr HP.out with ⟨e, _⟩ | ⟨g, cap', cur, e1, hB, hi', hh, hl, hcc⟩
      · subst e
        simp at hlt
      injection e1 with e1 _ e3
      subst e1 e3
      obtain ⟨y, y1, y2⟩ := hcc j c hc
      obtain ⟨xo, x1⟩ : ∃ xo, cur[j * 2]? = some xo := ⟨_, Array.getElem?_eq_getElem (by omega)⟩
      have c0 : wr.cell? ⟨g, j * 2, none⟩ = some xo := (cell_heap hh).trans x1
      have c1 : wr.cell? ⟨g, j * 2 + 1, none⟩ = some y := (cell_heap hh).trans y1
      have f0 : wr.frozen? ⟨g, j * 2, none⟩ = false := by
        unfold World.frozen?
        simp only [hh]
        simp
      have hw0 : (wr.setCell ⟨g, j * 2, none⟩ (.int .i64 (k + lenChs (cs.take j)))).heap[g]? = some (.cells (cur.setIfInBounds (j * 2) (.int .i64 (k + lenChs (cs.take j)))) 118 (0, 0)) := heap_set hh
      have hp1 : PTouch lo hi wr (wr.setCell ⟨g, j * 2, none⟩ (.int .i64 (k + lenChs (cs.take j)))) := by
        refine ⟨rfl, rfl, rfl, by rw [size_set]; omega, fun i hi2 => ?_⟩
        by_cases e : i = g
        · subst e
          refine Or.inr ⟨hB, hi', cur, _, _, hh, hw0, by simp, Or.inr ⟨rfl, fun q => ?_⟩⟩
          rw [Array.getElem?_setIfInBounds_ne (by omega)]
        · exact Or.inl (Below.heap_setCell _ _ _ _ e)
      have hgl : g < wr.heap.size := (Array.getElem?_eq_some_iff.1 hh).1
      have c2 : (wr.setCell ⟨g, j * 2, none⟩ (.int .i64 (k + lenChs (cs.take j)))).cell? ⟨g, j * 2 + 1, none⟩ = some y := by
        rw [cell_heap hw0, Array.getElem?_setIfInBounds_ne (by omega)]
        exact y1
      have y3 := y2.touched hp1
      have gm := HM.out _ y c (k + lenChs (cs.take j) + 1) (List.mem_of_getElem? hc) (by omega) (by omega) y3
      have HP2 : Hid _ := HP.out.trans hp1
      have hfin : k + (lenChs (cs.take j) : Int) + 1 + 2 * (c.2.length : Int) = k + (lenChs (cs.take (j + 1)) : Int) := by omega
      rw [hfin] at gm
      obtain ⟨ya, yn, yc, rfl⟩ : ∃ ya yn yc, y = .slice ya yn yc := by
        obtain ⟨xs, hx⟩ := y2
        obtain ⟨a', c', e⟩ := own_shape hx.1
        exact ⟨_, _, _, e⟩
      clear hcc hh hw0 hp1 x1 y1 y2 y3 hl hsn hfin HP HR HM HLB HSN
      obtain ⟨L1, hL1⟩ : ∃ L1 : Int, k + (lenChs (cs.take (j + 1)) : Int) = L1 := ⟨_, rfl⟩
      have HL1 : Hid _ := hL1
      rw [hL1] at gm
      clear hL1
      have hq0 : 0 ≤ (lenChs (cs.take j) : Int) ∧ (lenChs (cs.take j) : Int) ≤ 4194304 := ⟨by omega, by omega⟩
      generalize (lenChs (cs.take j) : Int) = L0 at *
      obtain ⟨hq1, hq2⟩ := hq0
      go_wp2_with fail
      refine gm.mono ?_
      rintro e w2 ⟨rfl, hp2⟩
      have HP3 : Hid _ := HP2.out.trans hp2
      clear gm hp2 c0 c1 c2 f0
      go_wp2_with fail
      go_roundw
      case rel => exact ⟨j + 1, by omega, by go_num, by rw [HL1.out], HP3⟩
      case measure => simp [intOf]; omega
    · obtain rfl : j = cs.length := by omega
      rw [List.take_length] at *
      clear HR HM
      go_wp2_with fail
      go_ret
      exact ⟨rfl, HP.out⟩
set_option maxRecDepth 100000 in
set_option maxHeartbeats 2000000 in
theorem markCommands_weak (v : Value) (cs : List Cm) (lo hi : Nat) (k : Int) (hs : sCms cs ≤ 1048576) (hk0 : 0 ≤ k) (hk : k ≤ 120000000000) (w : World) (h : CmRow w lo hi v cs) :
    Calls Tryd.prog 94 #[v, .int .i64 k] w fun e w' => e = .returned (.int .i64 (k + lenCms cs)) ∧ PTouch lo hi w w' := by
  have hle := lenCms_le cs
  have hcl : cs.length ≤ 1048576 := by unfold sCms at hs; omega
  have hmem : ∀ c ∈ cs, c.1.length ≤ 1048576 ∧ sChs c.2 ≤ 1048576 := fun c hc => by
    have := sumBy_mem sCm cs c hc
    unfold sCms at hs
    unfold sCm at this hs
    omega
  have HR : Hid (∀ w1 : World, PTouch lo hi w w1 → CmRow w1 lo hi v cs) := fun w1 k => h.touched k
  have HM : Hid (∀ (w1 : World) (y : Value) (c : Cm) (q : Int), c ∈ cs → 0 ≤ q → q ≤ 150000000000 → NRow w1 lo hi y c.1.length → Calls Tryd.prog 93 #[y, .int .i64 q] w1 fun e w' => e = .returned (.int .i64 (q + 2 * c.1.length)) ∧ PTouch lo hi w1 w') := fun w1 y c q hc h0 h1 hr => markNodes_weak y _ lo hi q (hmem c hc).1 h0 (by omega) w1 hr
  have HK : Hid (∀ (w1 : World) (y : Value) (c : Cm) (q : Int), c ∈ cs → 0 ≤ q → q ≤ 150000000000 → ChRow w1 lo hi y c.2 → Calls Tryd.prog 122 #[y, .int .i64 q] w1 fun e w' => e = .returned (.int .i64 (q + lenChs c.2)) ∧ PTouch lo hi w1 w') := fun w1 y c q hc h0 h1 hr => markChanges_weak y _ lo hi q (hmem c hc).2 h0 h1 w1 hr
  have HLB : Hid (∀ j : Nat, lenCms (cs.take j) ≤ lenCms cs) := fun j => sumBy_take lenCm cs j
  have HSN : Hid (∀ (j : Nat) (c : Cm), cs[j]? = some c → lenCms (cs.take (j + 1)) = lenCms (cs.take j) + (2 * c.1.length + lenChs c.2)) := fun j c hc => sumBy_snoc lenCm cs j c hc
  obtain ⟨a, cap, rfl⟩ : ∃ a cap, v = .slice a cs.length cap := by
    rcases h with ⟨rfl, rfl⟩ | ⟨g, cap, _, rfl, _⟩
    · exact ⟨none, 0, rfl⟩
    · exact ⟨_, cap, rfl⟩
  clear h hmem
  go_enter Tryd.func94, Tryd.ntmps94
  go_wp2_with fail
  go_loopw [1, 5] (fun m i wr => ∃ j : Nat, j ≤ cs.length ∧ i = .int .i64 j ∧ m = .int .i64 (k + lenCms (cs.take j)) ∧ Hid (PTouch lo hi w wr)) (fun _ i _ => cs.length - (intOf i).toNat)
  case atStart => exact ⟨0, by omega, rfl, by simp [lenCms, sumBy], PTouch.refl _ _ _⟩
  case round =>
    obtain ⟨j, hj, rfl, rfl, HP⟩ := hrel
    have hb := HLB.out j
    by_cases hlt : j < cs.length
    · obtain ⟨c, hc⟩ : ∃ c, cs[j]? = some c := ⟨cs[j], List.getElem?_eq_getElem hlt⟩
      have hsn := HSN.out j c hc
      have hb2 := HLB.out (j + 1)
      rcases HR.out wr HP.out with ⟨e, _⟩ | ⟨g, cap', cur, e1, hB, hi', hh, hl, hcc⟩
      · subst e
        simp at hlt
      injection e1 with e1 _ e3
      subst e1 e3
      obtain ⟨x, y, x1, y1, x2, y2⟩ := hcc j c hc
      have c0 : wr.cell? ⟨g, j * 2, none⟩ = some x := (cell_heap hh).trans x1
      have c1 : wr.cell? ⟨g, j * 2 + 1, none⟩ = some y := (cell_heap hh).trans y1
      have hgl : g < wr.heap.size := (Array.getElem?_eq_some_iff.1 hh).1
      have HH : Hid (wr.heap[g]? = some (.cells cur 98 (0, 0))) := hh
      have HY1 : Hid (cur[j * 2 + 1]? = some y) := y1
      have HY2 : Hid (ChRow wr lo hi y c.2) := y2
      have HC : Hid (c ∈ cs) := List.mem_of_getElem? hc
      have g1 := HM.out _ x c (k + lenCms (cs.take j)) HC.out (by omega) (by omega) x2
      obtain ⟨xa, xn, xc, rfl⟩ : ∃ xa xn xc, x = .slice xa xn xc := by
        obtain ⟨xs, hx⟩ := x2
        obtain ⟨a', c', e⟩ := own_shape hx.1
        exact ⟨_, _, _, e⟩
      obtain ⟨ya, yn, yc, rfl⟩ : ∃ ya yn yc, y = .slice ya yn yc := by
        rcases y2 with ⟨_, rfl⟩ | ⟨_, _, _, rfl, _⟩ <;> exact ⟨_, _, _, rfl⟩
      have HQ : Hid (0 ≤ k + (lenCms (cs.take j) : Int) + 2 * (c.1.length : Int) ∧ k + (lenCms (cs.take j) : Int) + 2 * (c.1.length : Int) ≤ 150000000000) := ⟨by omega, by omega⟩
      have HF : Hid (k + (lenCms (cs.take j) : Int) + 2 * (c.1.length : Int) + (lenChs c.2 : Int) = k + (lenCms (cs.take (j + 1)) : Int)) := by
        show k + (lenCms (cs.take j) : Int) + 2 * (c.1.length : Int) + (lenChs c.2 : Int) = k + (lenCms (cs.take (j + 1)) : Int)
        omega
      clear hcc hh x1 y1 x2 y2 hl hsn HR HM HLB HSN hc
      go_wp2_with fail
      refine g1.mono ?_
      rintro e w2 ⟨rfl, hp2⟩
      have HP2 : Hid _ := HP.out.trans hp2
      have hh2 : w2.heap[g]? = some (.cells cur 98 (0, 0)) := by
        rcases hp2.block g hgl with e | ⟨_, _, ds, ds', e, a1, a2, a3, a4⟩
        · rw [e]
          exact HH.out
        · rw [HH.out] at a1
          have a1 := Option.some.inj a1
          injection a1 with c1 c2 c3
          subst c2
          rcases a4 with a4 | ⟨a4, _⟩ <;> exact absurd a4 (by decide)
      have c1' : w2.cell? ⟨g, j * 2 + 1, none⟩ = some (.slice ya yn yc) := (cell_heap hh2).trans HY1.out
      have g2 := HK.out _ _ c _ HC.out HQ.out.1 HQ.out.2 (HY2.out.touched hp2)
      rw [HF.out] at g2
      have hgl2 : g < w2.heap.size := (Array.getElem?_eq_some_iff.1 hh2).1
      clear g1 hp2 c0 c1 hh2 HP HK HH HY1 HY2 HC HQ HF
      obtain ⟨L1, hL1⟩ : ∃ L1 : Int, k + (lenCms (cs.take (j + 1)) : Int) = L1 := ⟨_, rfl⟩
      have HL1 : Hid _ := hL1
      rw [hL1] at g2
      clear hL1
      go_wp2_with fail
      refine g2.mono ?_
      rintro e w3 ⟨rfl, hp3⟩
      have HP3 : Hid _ := HP2.out.trans hp3
      clear g2 hp3 c1'
      go_wp2_with fail
      go_roundw
      case rel => exact ⟨j + 1, by omega, by go_num, by rw [HL1.out], HP3⟩
      case measure => simp [intOf]; omega
    · obtain rfl : j = cs.length := by omega
      rw [List.take_length] at *
      clear HR HM HK
      go_wp2_with fail
      go_ret
      exact ⟨rfl, HP.out⟩
/-- a program whose rows may be marked -/
def MarkProg (w : World) (lo hi : Nat) (v : Value) (p : Pg) (k : Int) : Prop := hi ≤ w.heap.size
theorem MarkProg.same {w w' : World} {lo hi : Nat} {v : Value} {p : Pg} {k : Int} (h : MarkProg w lo hi v p k) (hs : w.heap.size ≤ w'.heap.size) (hb : ∀ i, lo ≤ i → i < hi → w'.heap[i]? = w.heap[i]?) : MarkProg w' lo hi v p k := Nat.le_trans h hs
theorem MarkProg.hi {w : World} {lo hi : Nat} {v : Value} {p : Pg} {k : Int} (h : MarkProg w lo hi v p k) : hi ≤ w.heap.size := h
set_option maxRecDepth 100000 in
theorem markProgram_any (v : Value) (p : Pg) (lo hi : Nat) (k : Int) (hs : sPg p ≤ 1048576) (hk0 : 0 ≤ k) (hk : k ≤ 100000000000) (w : World) (h : OwnProg w lo hi v p) :
    Calls Tryd.prog 45 #[v, .int .i64 k] w fun e w' => e = .returned (.int .i64 (k + lenPg p)) ∧ MarkProg w' lo hi v p k ∧ Touch lo hi w w' := by
  obtain ⟨s, c, rfl, h1, h2⟩ := h
  have hsz : p.2.2.1.length ≤ 1048576 ∧ sCms p.2.2.2 ≤ 1048576 := by
    unfold sPg at hs
    omega
  have hhi := h2.hi
  obtain ⟨sa, sn, sc, rfl⟩ := h1.shape
  obtain ⟨ca, cc, rfl⟩ := h2.shape
  have hb0 : Below w.heap.size w (w.alloc (.cells #[.int .i64 p.1, .int .i64 p.2.1, .slice sa sn sc, .slice ca p.2.2.2.length cc] 27)) := (Below.refl _ _).alloc (Nat.le_refl _) _
  have x0 := box4_alloc w 27 (.int .i64 p.1) (.int .i64 p.2.1) (.slice sa sn sc) (.slice ca p.2.2.2.length cc)
  have HT0 : Hid (Touch lo hi w (w.alloc (.cells #[.int .i64 p.1, .int .i64 p.2.1, .slice sa sn sc, .slice ca p.2.2.2.length cc] 27))) := ⟨hb0.os, hb0.tape, hb0.output, hb0.size, fun i hi' _ => hb0.block i hi'⟩
  have hk1 : ∀ i, lo ≤ i → i < hi → (w.alloc (.cells #[.int .i64 p.1, .int .i64 p.2.1, .slice sa sn sc, .slice ca p.2.2.2.length cc] 27)).heap[i]? = w.heap[i]? := fun i _ hi' => hb0.block i (by omega)
  have g1 := markNodes_weak (.slice sa sn sc) p.2.2.1.length lo hi k hsz.1 hk0 (by omega) _ ⟨_, RowIn.same h1 hb0.size hk1⟩
  have HC : Hid (CmRow (w.alloc (.cells #[.int .i64 p.1, .int .i64 p.2.1, .slice sa sn sc, .slice ca p.2.2.2.length cc] 27)) lo hi (.slice ca p.2.2.2.length cc) p.2.2.2) := cmRow_of (h2.frame ownCmV_frame hb0.size hk1 (Nat.le_refl _) (Nat.le_refl _) (Nat.le_trans hhi hb0.size))
  have HK : Hid (∀ w1 : World, CmRow w1 lo hi (.slice ca p.2.2.2.length cc) p.2.2.2 → Calls Tryd.prog 94 #[.slice ca p.2.2.2.length cc, .int .i64 (k + 2 * p.2.2.1.length)] w1 fun e w' => e = .returned (.int .i64 (k + lenPg p)) ∧ PTouch lo hi w1 w') := fun w1 hr => by
    have g := markCommands_weak _ p.2.2.2 lo hi (k + 2 * p.2.2.1.length) hsz.2 (by omega) (by omega) w1 hr
    rw [show k + 2 * (p.2.2.1.length : Int) + (lenCms p.2.2.2 : Int) = k + (lenPg p : Int) from by unfold lenPg; omega] at g
    exact g
  have HX0 : Hid _ := x0
  clear h1 h2 hb0 x0 hk1 hsz hs
  generalize (lenPg p : Int) = LP at *
  generalize hcs : p.2.2.2 = cs at *
  generalize p.2.2.1.length = nl at *
  generalize p.1 = pw at *
  generalize p.2.1 = pv at *
  go_enter Tryd.func45, Tryd.ntmps45
  go_wp2_with fail
  refine g1.mono ?_
  generalize w.alloc (.cells #[.int .i64 pw, .int .i64 pv, .slice sa sn sc, .slice ca cs.length cc] 27) = w0 at *
  rintro e w1 ⟨rfl, hp1⟩
  have x1 : Box4 w1 w.heap.size 27 (.int .i64 pw) (.int .i64 pv) (.slice sa sn sc) (.slice ca cs.length cc) := ⟨by rw [hp1.touch.block _ HX0.out.lt (Or.inr hhi)]; exact HX0.out.heap⟩
  have g2 := HK.out w1 (HC.out.touched hp1)
  have HT1 : Hid _ := HT0.out.trans hp1.touch
  obtain ⟨a0, a1, a2, a3⟩ := x1.cells
  have ah := x1.heap
  have al := x1.lt
  clear g1 hp1 x1 HX0 HK HC HT0
  go_wp2_with fail
  refine g2.mono ?_
  rintro e w2 ⟨rfl, hp2⟩
  have HT2 : Hid _ := HT1.out.trans hp2.touch
  clear g2 hp2 a0 a1 a2 a3 ah al
  go_wp2_with fail
  go_ret
  exact ⟨rfl, Nat.le_trans hhi HT2.out.size, HT2.out⟩
end Go.Proofs.YtmhpnkfibecnmaaDoor

namespace Go.Proofs.YtmhpnkfibecnmaaDoor
open Go Go.RowKit
open M
set_option linter.unusedVariables false

theorem NodesSS.shape {w : World} {v : Value} {bs : List (List Nd)} (h : NodesSS w v bs) : ∃ (a : Option Addr) (cap : Nat), v = .slice a bs.length cap := by
  rcases h.2 with ⟨rfl, a, cap, h⟩ | ⟨b, off, cap, h, _⟩
  · exact ⟨a, cap, h⟩
  · exact ⟨_, cap, h⟩
def canPut (wide vars : Int) (t : List Nd) (bs : List (List Nd)) : Bool := decide (0 < kindL wide vars t) && (decide ((bs.length : Int) = vars) && bs.all fun u => decide (kindL wide vars u = 1))
def saidPut (wide vars : Int) (t : List Nd) (bs : List (List Nd)) : Bool := canPut wide vars t bs && decide (0 < kindL wide vars (putsL bs t))
def putAllL (wide vars : Int) (t : List Nd) (bs : List (List Nd)) : List Nd := if canPut wide vars t bs = true then madeL wide vars (putsL bs t) else []
end Go.Proofs.YtmhpnkfibecnmaaDoor

namespace Go.Proofs.YtmhpnkfibecnmaaDoor
open Go Go.RowKit
open M
set_option linter.unusedVariables false

/-- what a tree comes to -/
def trVal (k : Nat) (st : List Int) : Tr → Int
  | .leaf x => val0 st x
  | .one x a => val1 k x (trVal k st a)
  | .two x a b => val2 k x (trVal k st a) (trVal k st b)
/-- a variable is in it -/
def trVar : Tr → Bool
  | .leaf x => decide (x.1 = 2)
  | .one _ a => trVar a
  | .two _ a b => trVar a || trVar b
def trFold (k : Nat) : Tr → Tr
  | .leaf x => if x.1 = 2 then .leaf x else .leaf (litN x.1 x.2)
  | .one x a => if trVar a = true then .one x (trFold k a) else .leaf (litN x.1 (val1 k x (trVal k [] a)))
  | .two x a b => if (trVar a || trVar b) = true then .two x (trFold k a) (trFold k b) else .leaf (litN x.1 (val2 k x (trVal k [] a) (trVal k [] b)))
def trPut (bs : List Tr) : Tr → Tr
  | .leaf x => if x.1 = 2 then bs.getD x.2.toNat (.leaf x) else .leaf x
  | .one x a => .one x (trPut bs a)
  | .two x a b => .two x (trPut bs a) (trPut bs b)
/-- the values of a good term are those of its tree -/
theorem valueL_tree {wide : Int} {t : List Nd} {st : List Int} {r : Tr} (hs : saidV wide t st = true) (hr : pileT wide st.length t t.length = some [⟨0, r.kind, r⟩]) : valueL wide t st = trVal wide.toNat st r := by
  unfold valueL
  rw [if_pos hs, pileE_map (f0 := Tr.leaf) (f1 := Tr.one) (f2 := Tr.two) (g0 := val0 st) (g1 := val1 wide.toNat) (g2 := val2 wide.toNat) (trVal wide.toNat st) (fun _ => rfl) (fun _ _ => rfl) (fun _ _ _ => rfl)]
  rw [show pileE wide st.length Tr.leaf Tr.one Tr.two t t.length = some [⟨0, r.kind, r⟩] from hr]
  rfl
def trFV (k : Nat) : Tr → FV
  | .leaf x => fold0 x
  | .one x a => fold1 k x (trFV k a)
  | .two x a b => fold2 k x (trFV k a) (trFV k b)
theorem trFV_eq (k : Nat) : ∀ t : Tr, trFV k t = (trVar t, if trVar t = true then 0 else trVal k [] t, (trFold k t).flat)
  | .leaf x => by
    simp only [trFV, fold0, trVar, trFold, trVal, val0]
    by_cases h : x.1 = 2 <;> simp [h, Tr.flat]
  | .one x a => by
    have ha := trFV_eq k a
    simp only [trFV, ha, fold1, trVar, trFold, trVal]
    by_cases h : trVar a = true <;> simp [h, Tr.flat]
  | .two x a b => by
    have ha := trFV_eq k a
    have hb := trFV_eq k b
    simp only [trFV, ha, hb, fold2, trVar, trFold, trVal]
    by_cases h1 : trVar a = true <;> by_cases h2 : trVar b = true <;> simp [Tr.flat, val2, h1, h2]
theorem foldL_tree {wide vars : Int} {t : List Nd} {r : Tr} (h : 0 < kindL wide vars t) (hr : pileT wide vars t t.length = some [⟨0, r.kind, r⟩]) : foldL wide vars t = (trFold wide.toNat r).flat := by
  unfold foldL
  rw [if_pos h, pileE_map (f0 := Tr.leaf) (f1 := Tr.one) (f2 := Tr.two) (g0 := fold0) (g1 := fold1 wide.toNat) (g2 := fold2 wide.toNat) (trFV wide.toNat) (fun _ => rfl) (fun _ _ => rfl) (fun _ _ _ => rfl)]
  rw [show pileE wide vars Tr.leaf Tr.one Tr.two t t.length = some [⟨0, r.kind, r⟩] from hr]
  show (trFV wide.toNat r).2.2 = _
  rw [trFV_eq]
/-- all numbers of a tree are at least 0 -/
abbrev Pos (t : Tr) : Prop := ∀ x ∈ t.flat, 0 ≤ x.2
/-- its variables are below n -/
abbrev VarsBelow (t : Tr) (n : Nat) : Prop := ∀ x ∈ t.flat, x.1 = 2 → x.2.toNat < n
theorem ok_vars {wide vars : Int} : ∀ {t : Tr}, t.Ok wide vars → ∀ x ∈ t.flat, x.1 = 2 → x.2 < vars
  | .leaf y, h, x, hx, h2 => by
    simp only [Tr.flat, List.mem_singleton] at hx
    subst hx
    have := h.2.1
    rw [h2] at this
    exact of_decide_eq_true (show decide (x.2 < vars) = true from this)
  | .one y a, h, x, hx, h2 => by
    simp only [Tr.flat, List.mem_append, List.mem_singleton] at hx
    rcases hx with hx | rfl
    · exact ok_vars h.2.2.2.2 x hx h2
    · have := h.2.2.1
      rw [h2] at this
      exact absurd this (by decide)
  | .two y a b, h, x, hx, h2 => by
    simp only [Tr.flat, List.mem_append, List.mem_singleton] at hx
    rcases hx with (hx | hx) | rfl
    · exact ok_vars h.2.2.2.2.2.1 x hx h2
    · exact ok_vars h.2.2.2.2.2.2 x hx h2
    · have := h.2.2.1
      rw [h2] at this
      exact absurd this (by decide)
theorem trVar_iff : ∀ {wide vars : Int} {t : Tr}, t.Ok wide vars → (trVar t = true ↔ ∃ x ∈ t.flat, x.1 = 2)
  | wide, vars, .leaf y, h => by simp [trVar, Tr.flat]
  | wide, vars, .one y a, h => by
    have ha := trVar_iff h.2.2.2.2
    have hy : y.1 ≠ 2 := by intro e; have := h.2.2.1; rw [e] at this; exact absurd this (by decide)
    simp only [trVar, ha, Tr.flat, List.mem_append, List.mem_singleton]
    constructor
    · rintro ⟨x, hx, h2⟩
      exact ⟨x, Or.inl hx, h2⟩
    · rintro ⟨x, hx | rfl, h2⟩
      · exact ⟨x, hx, h2⟩
      · exact absurd h2 hy
  | wide, vars, .two y a b, h => by
    have ha := trVar_iff h.2.2.2.2.2.1
    have hb := trVar_iff h.2.2.2.2.2.2
    have hy : y.1 ≠ 2 := by intro e; have := h.2.2.1; rw [e] at this; exact absurd this (by decide)
    simp only [trVar, Bool.or_eq_true, ha, hb, Tr.flat, List.mem_append, List.mem_singleton]
    constructor
    · rintro (⟨x, hx, h2⟩ | ⟨x, hx, h2⟩)
      · exact ⟨x, Or.inl (Or.inl hx), h2⟩
      · exact ⟨x, Or.inl (Or.inr hx), h2⟩
    · rintro ⟨x, (hx | hx) | rfl, h2⟩
      · exact Or.inl ⟨x, hx, h2⟩
      · exact Or.inr ⟨x, hx, h2⟩
      · exact absurd h2 hy
/-- a tree's value is a word or a truth -/
theorem trVal_ok {k : Nat} (hk1 : 1 ≤ k) (hk : k ≤ 64) {vars : Int} {st : List Int} (hst : ∀ s ∈ st, 0 ≤ s ∧ s < pw k) : ∀ {t : Tr}, t.Ok k vars → Pos t → VarsBelow t st.length → ValOk k ⟨0, t.kind, trVal k st t⟩
  | .leaf ⟨op, m⟩, h, hp, hv => by
    obtain ⟨n1, n2, m0⟩ := h
    have hm0 := hp (op, m) (by simp [Tr.flat])
    have hvv := hv (op, m) (by simp [Tr.flat])
    simp only at n1 n2 m0 hm0 hvv
    have hop : op = 1 ∨ op = 2 ∨ op = 20 := by
      unfold manyOf at m0
      unfold ownOf at n1
      split at m0
      · omega
      · split at m0
        · omega
        · split at n1
          · omega
          · split at n1 <;> omega
    rcases hop with rfl | rfl | rfl
    · left
      obtain ⟨k', e1, _, _, h3⟩ := goodB_true (show goodB k m = true from n2)
      obtain rfl : k = k' := by omega
      exact ⟨rfl, hm0, h3⟩
    · left
      have hlt := hvv rfl
      have hmem : st.getD m.toNat 0 ∈ st := by
        rw [List.getD_eq_getElem?_getD, List.getElem?_eq_getElem hlt]
        exact List.getElem_mem hlt
      exact ⟨rfl, (hst _ hmem).1, (hst _ hmem).2⟩
    · right
      have h2 : m < 2 := of_decide_eq_true (show decide (m < 2) = true from n2)
      exact ⟨rfl, by show m = 0 ∨ m = 1; omega⟩
  | .one ⟨op, m⟩ a, h, hp, hv => by
    obtain ⟨n1, n2, m1, hk2, ha⟩ := h
    have ih := trVal_ok hk1 hk hst ha (fun x hx => hp x (by simp [Tr.flat, hx])) (fun x hx => hv x (by simp [Tr.flat, hx]))
    have hop : op = 13 ∨ op = 19 := by
      unfold manyOf at m1
      split at m1
      · assumption
      · split at m1 <;> omega
    rcases hop with rfl | rfl
    · rcases ih with ⟨_, h0, h1⟩ | ⟨hk3, _⟩
      · simp only at h0 h1
        exact Or.inl ⟨rfl, by show 0 ≤ pw k - 1 - trVal k st a; omega, by show pw k - 1 - trVal k st a < pw k; omega⟩
      · simp only at hk3
        rw [hk3] at hk2
        cases hk2
    · rcases ih with ⟨hk3, _⟩ | ⟨_, h0⟩
      · simp only at hk3
        rw [hk3] at hk2
        cases hk2
      · simp only at h0
        exact Or.inr ⟨rfl, by show 1 - trVal k st a = 0 ∨ 1 - trVal k st a = 1; omega⟩
  | .two ⟨op, m⟩ a b, h, hp, hv => by
    obtain ⟨n1, n2, m2, hka, hkb, ha, hb⟩ := h
    have ih1 := trVal_ok hk1 hk hst ha (fun x hx => hp x (by simp [Tr.flat, hx])) (fun x hx => hv x (by simp [Tr.flat, hx]))
    have ih2 := trVal_ok hk1 hk hst hb (fun x hx => hp x (by simp [Tr.flat, hx])) (fun x hx => hv x (by simp [Tr.flat, hx]))
    have hop : (3 ≤ op ∧ op ≤ 12) ∨ (14 ≤ op ∧ op ≤ 16) ∨ (op = 17 ∨ op = 18) := by
      unfold manyOf at m2
      split at m2
      · cases m2
      · split at m2 <;> omega
    have w1 := ih1.word hk1
    have w2 := ih2.word hk1
    simp only at w1 w2
    rcases hop with hop | hop | hop
    · left
      have h := doOp_word k hk op (trVal k st a) (trVal k st b) hop w1.1 w1.2 w2.1 w2.2
      exact ⟨by show ownOf op = 1; unfold ownOf; rw [if_pos (by omega)], h.1, h.2⟩
    · right
      exact ⟨by show ownOf op = 2; unfold ownOf; rw [if_neg (by omega), if_pos (by omega)], doOp_cond k op _ _ hop⟩
    · right
      have hp2 : partOf op = 2 := by
        unfold partOf
        rw [if_neg (by omega), if_pos (by omega)]
      simp only at hka hkb
      rw [hp2] at hka hkb
      have v1 : trVal k st a = 0 ∨ trVal k st a = 1 := by
        rcases ih1 with ⟨h, _⟩ | ⟨_, h⟩
        · simp only at h
          rw [h] at hka
          cases hka
        · exact h
      have v2 : trVal k st b = 0 ∨ trVal k st b = 1 := by
        rcases ih2 with ⟨h, _⟩ | ⟨_, h⟩
        · simp only at h
          rw [h] at hkb
          cases hkb
        · exact h
      exact ⟨by show ownOf op = 2; unfold ownOf; rw [if_neg (by omega), if_pos (by omega)], doOp_both k op _ _ hop v1 v2⟩
/-- the variables of a term in their order -/
def sorted4 (f : Int → Bool) : List Int := [0, 1, 2, 3].filter f
theorem putL_sorted (f : Int → Bool) (n : Int) (h : n = 0 ∨ n = 1 ∨ n = 2 ∨ n = 3) : putL (sorted4 f) n = sorted4 (fun i => f i || i == n) := by
  unfold sorted4
  simp only [List.filter]
  rcases h with rfl | rfl | rfl | rfl <;> cases f 0 <;> cases f 1 <;> cases f 2 <;> cases f 3 <;> rfl
theorem varsL_sorted : ∀ (n : Nat) (t : List Nd), t.length = n → (∀ x ∈ t, x.1 = 2 → 0 ≤ x.2 ∧ x.2 < 4) → varsL t = sorted4 (fun i => decide ((2, i) ∈ t))
  | 0, t, hn, _ => by
    obtain rfl := List.length_eq_zero_iff.1 hn
    rfl
  | n + 1, t, hn, h => by
    have hne : t ≠ [] := by intro e; subst e; simp at hn
    have e : t = t.dropLast ++ [t.getLast hne] := (List.dropLast_concat_getLast hne).symm
    generalize t.getLast hne = x at e
    generalize t.dropLast = u at e
    subst e
    have ih := varsL_sorted n u (by simpa using hn) (fun x hx => h x (by simp [hx]))
    rw [varsL_snoc, ih]
    have hx := h x (by simp)
    obtain ⟨op, m⟩ := x
    simp only at hx ⊢
    by_cases h2 : op = 2
    · subst h2
      have h4 := hx rfl
      rw [if_pos rfl, putL_sorted _ m (by omega)]
      congr 1
      funext i
      by_cases h1 : (2, i) ∈ u
      · simp [h1]
      · by_cases h3 : i = m
        · simp [h3]
        · simp [h1, h3]
    · rw [if_neg h2]
      congr 1
      funext i
      have : ((2, i) : Nd) ≠ (op, m) := by intro e; simp at e; exact h2 e.1.symm
      simp [this]
end Go.Proofs.YtmhpnkfibecnmaaDoor

namespace Go.Proofs.YtmhpnkfibecnmaaDoor
open Go Go.RowKit
open M
set_option linter.unusedVariables false

/-- a number between two -/
def btw (lo hi x : Int) : Bool := decide (lo ≤ x ∧ x ≤ hi)
theorem l1In_any (n lo hi : Int) (w : World) :
    Calls Tryd.prog 59 #[.int .i64 n, .int .i64 lo, .int .i64 hi] w fun e w' => e = .returned (.bool (decide (lo ≤ n ∧ n ≤ hi))) ∧ w' = w := by
  by_cases h : lo ≤ n ∧ n ≤ hi
  · rw [decide_eq_true h]
    exact l1In_yes n lo hi h w
  · rw [decide_eq_false h]
    exact l1In_no n lo hi h w
/-- a slice, whether it has elements or not -/
theorem IntsAt.opened {w : World} {v : Value} {t : List Int} (h : IntsAt w v t) : ∃ a cap, v = .slice a t.length cap ∧ ∀ (i : Nat) (x : Int), t[i]? = some x → ∃ b off : Nat, a = some ⟨b, off, none⟩ ∧ b < w.heap.size ∧ w.cell? ⟨b, off + i, none⟩ = some (.int .i64 x) := by
  rcases h.2 with ⟨rfl, a, cap, rfl⟩ | ⟨b, off, cap, rfl, hlt, hc⟩
  · exact ⟨a, cap, rfl, fun i x hx => by simp at hx⟩
  · exact ⟨_, cap, rfl, fun i x hx => ⟨b, off, rfl, hlt, hc i x hx⟩⟩
theorem BoolsAt.opened {w : World} {v : Value} {t : List Bool} (h : BoolsAt w v t) : ∃ a cap, v = .slice a t.length cap ∧ ∀ (i : Nat) (x : Bool), t[i]? = some x → ∃ b off : Nat, a = some ⟨b, off, none⟩ ∧ b < w.heap.size ∧ w.cell? ⟨b, off + i, none⟩ = some (.bool x) := by
  rcases h.2 with ⟨rfl, a, cap, rfl⟩ | ⟨b, off, cap, rfl, hlt, hc⟩
  · exact ⟨a, cap, rfl, fun i x hx => by simp at hx⟩
  · exact ⟨_, cap, rfl, fun i x hx => ⟨b, off, rfl, hlt, hc i x hx⟩⟩
theorem GatesAt.opened {w : World} {v : Value} {t : List Gt} (h : GatesAt w v t) : ∃ a cap, v = .slice a t.length cap ∧ ∀ (i : Nat) (x : Gt), t[i]? = some x → ∃ b off : Nat, a = some ⟨b, off, none⟩ ∧ b < w.heap.size ∧ GateAt w b (off + i * 3) x := by
  rcases h.2.2 with ⟨rfl, a, cap, rfl⟩ | ⟨b, off, cap, rfl, hlt, hc⟩
  · exact ⟨a, cap, rfl, fun i x hx => by simp at hx⟩
  · exact ⟨_, cap, rfl, fun i x hx => ⟨b, off, rfl, hlt, hc i x hx⟩⟩
theorem in_le (own x : Int) : decide (0 ≤ x ∧ x ≤ own - 1) = inB own x := by
  unfold inB
  rw [decide_eq_decide]
  omega
end Go.Proofs.YtmhpnkfibecnmaaDoor

namespace Go.Proofs.YtmhpnkfibecnmaaDoor
open Go Go.RowKit
open M
set_option linter.unusedVariables false

theorem all_btw (own : Int) (t : List Int) : t.all (btw 0 (own - 1)) = t.all (inB own) := by
  congr 1
  funext x
  exact in_le own x
end Go.Proofs.YtmhpnkfibecnmaaDoor

namespace Go.Proofs.YtmhpnkfibecnmaaDoor
open Go Go.RowKit
open M
set_option linter.unusedVariables false

/-- literals, clauses and forms that are good -/
def litB (n x : Int) : Bool := decide (x ≠ 0 ∧ -n ≤ x ∧ x ≤ n)
def clauseB (n : Int) (t : List Int) : Bool := decide (t.length ≤ 8) && t.all (litB n)
def cnfB (c : Cn) : Bool := decide (0 ≤ c.1 ∧ c.1 ≤ 400 ∧ c.2.length ≤ 1400) && c.2.all (clauseB c.1)
theorem allTake {α : Type} {p : α → Bool} {l : List α} {j : Nat} {x : α} (hx : l[j]? = some x) (h : (l.take j).all p = true) (hp : p x = true) : (l.take (j + 1)).all p = true := by
  rw [List.take_add_one, hx, List.all_append, h]
  simp [hp]
theorem allNot {α : Type} {p : α → Bool} {l : List α} {j : Nat} {x : α} (hx : l[j]? = some x) (hp : p x = false) : l.all p = false := by
  rw [Bool.eq_false_iff]
  intro h
  have := List.all_eq_true.1 h x (List.mem_of_getElem? hx)
  rw [hp] at this
  cases this
theorem IntsSS.opened {w : World} {v : Value} {bs : List (List Int)} (h : IntsSS w v bs) : ∃ a cap, v = .slice a bs.length cap ∧ ∀ (i : Nat) (t : List Int), bs[i]? = some t → ∃ b off : Nat, a = some ⟨b, off, none⟩ ∧ b < w.heap.size ∧ ∃ u : Value, w.cell? ⟨b, off + i, none⟩ = some u ∧ IntsAt w u t := by
  rcases h.2 with ⟨rfl, a, cap, rfl⟩ | ⟨b, off, cap, rfl, hb, hc⟩
  · exact ⟨a, cap, rfl, fun i t ht => by simp at ht⟩
  · exact ⟨_, cap, rfl, fun i t ht => ⟨b, off, rfl, hb, hc i t ht⟩⟩
theorem litB_in (n x : Int) (hx : ¬ x = 0) : decide (-n ≤ x ∧ x ≤ n) = litB n x := by
  unfold litB
  by_cases h : -n ≤ x ∧ x ≤ n
  · rw [decide_eq_true h, decide_eq_true ⟨hx, h⟩]
  · rw [decide_eq_false h, decide_eq_false (fun q => h q.2)]
end Go.Proofs.YtmhpnkfibecnmaaDoor

namespace Go.Proofs.YtmhpnkfibecnmaaDoor
open Go
open M
set_option linter.unusedVariables false

/-- changes that rise from l on, below vars, by numbers -/
def chsB (wide vars : Int) : Int → List Ch → Bool
  | _, [] => true
  | l, c :: r => (decide (l ≤ c.1 ∧ c.1 < vars) && (kindL wide vars c.2 == 1)) && chsB wide vars (c.1 + 1) r
def nextL : Int → List Ch → Int
  | l, [] => l
  | l, c :: r => nextL (c.1 + 1) r
def cmB (wide vars : Int) (c : Cm) : Bool := (kindL wide vars c.1 == 2) && chsB wide vars 0 c.2
def goodP (p : Pg) : Bool := (kindL p.1 p.2.1 p.2.2.1 == 2) && (decide (1 ≤ p.2.2.2.length ∧ p.2.2.2.length ≤ 6) && p.2.2.2.all (cmB p.1 p.2.1))
theorem chsB_append (wide vars : Int) : ∀ (a b : List Ch) (l : Int), chsB wide vars l (a ++ b) = (chsB wide vars l a && chsB wide vars (nextL l a) b)
  | [], b, l => by simp [chsB, nextL]
  | c :: a, b, l => by
    rw [List.cons_append, chsB, chsB, nextL, chsB_append wide vars a b (c.1 + 1)]
    simp only [Bool.and_assoc]
theorem nextL_append : ∀ (a b : List Ch) (l : Int), nextL l (a ++ b) = nextL (nextL l a) b
  | [], b, l => rfl
  | c :: a, b, l => by
    rw [List.cons_append, nextL, nextL, nextL_append a b (c.1 + 1)]
theorem nextL_take (cs : List Ch) (l : Int) (j : Nat) (c : Ch) (hc : cs[j]? = some c) : nextL l (cs.take (j + 1)) = c.1 + 1 := by
  rw [List.take_add_one, hc, nextL_append]
  rfl
theorem chsB_take (wide vars : Int) (cs : List Ch) (l : Int) (j : Nat) (c : Ch) (hc : cs[j]? = some c) (h : chsB wide vars l (cs.take j) = true) :
    chsB wide vars l (cs.take (j + 1)) = (decide (nextL l (cs.take j) ≤ c.1 ∧ c.1 < vars) && (kindL wide vars c.2 == 1)) := by
  rw [List.take_add_one, hc]
  show chsB wide vars l (cs.take j ++ [c]) = _
  rw [chsB_append, h, Bool.true_and, chsB, chsB, Bool.and_true]
theorem chsB_not (wide vars : Int) (cs : List Ch) (l : Int) (j : Nat) (h : chsB wide vars l (cs.take j) = false) : chsB wide vars l cs = false := by
  have e : cs = cs.take j ++ cs.drop j := (List.take_append_drop j cs).symm
  rw [e, chsB_append, h, Bool.false_and]
theorem chsB_len (wide vars : Int) : ∀ (cs : List Ch) (l : Int), chsB wide vars l cs = true → l ≤ vars → l + cs.length ≤ vars
  | [], l, _, h => by simpa using h
  | c :: r, l, h, hl => by
    rw [chsB, Bool.and_eq_true, Bool.and_eq_true] at h
    have h1 := of_decide_eq_true h.1.1
    have := chsB_len wide vars r (c.1 + 1) h.2 (by omega)
    simp only [List.length_cons]
    omega
theorem chsB_mem (wide vars : Int) : ∀ (cs : List Ch) (l : Int), chsB wide vars l cs = true → ∀ c ∈ cs, l ≤ c.1 ∧ c.1 < vars ∧ kindL wide vars c.2 = 1
  | [], l, _, c, hc => by simp at hc
  | d :: r, l, h, c, hc => by
    rw [chsB, Bool.and_eq_true, Bool.and_eq_true] at h
    have h1 := of_decide_eq_true h.1.1
    simp only [List.mem_cons] at hc
    rcases hc with rfl | hc
    · exact ⟨h1.1, h1.2, by simpa using h.1.2⟩
    · have := chsB_mem wide vars r (d.1 + 1) h.2 c hc
      exact ⟨by omega, this.2⟩
theorem kind_in {wide vars : Int} {t : List Nd} (h : 0 < kindL wide vars t) : 1 ≤ wide ∧ wide ≤ 64 ∧ 1 ≤ vars ∧ vars ≤ 4 := by
  obtain ⟨h1, h2, h3, _⟩ := root_tree h
  unfold wideB at h1
  have := of_decide_eq_true h1
  omega
theorem goodP_parts {p : Pg} (h : goodP p = true) : kindL p.1 p.2.1 p.2.2.1 = 2 ∧ 1 ≤ p.1 ∧ p.1 ≤ 64 ∧ 1 ≤ p.2.1 ∧ p.2.1 ≤ 4 ∧ 1 ≤ p.2.2.2.length ∧ p.2.2.2.length ≤ 6 ∧ ∀ c ∈ p.2.2.2, cmB p.1 p.2.1 c = true := by
  unfold goodP at h
  rw [Bool.and_eq_true, Bool.and_eq_true] at h
  obtain ⟨h1, h2, h3⟩ := h
  have e : kindL p.1 p.2.1 p.2.2.1 = 2 := by simpa using h1
  have hk := kind_in (show 0 < kindL p.1 p.2.1 p.2.2.1 by omega)
  have := of_decide_eq_true h2
  exact ⟨e, hk.1, hk.2.1, hk.2.2.1, hk.2.2.2, this.1, this.2, fun c hc => List.all_eq_true.1 h3 c hc⟩
end Go.Proofs.YtmhpnkfibecnmaaDoor

namespace Go.Proofs.YtmhpnkfibecnmaaDoor
open Go Go.RowKit
open M
set_option linter.unusedVariables false

theorem trFold_no (k : Nat) : ∀ r : Tr, trVar r = false → trFold k r = .leaf (litN r.nd.1 (trVal k [] r))
  | .leaf x, h => by
    have h2 : ¬ x.1 = 2 := of_decide_eq_false h
    simp only [trFold, if_neg h2, Tr.nd, trVal, val0]
  | .one x a, h => by
    have h2 : ¬ trVar a = true := by
      have : trVar a = false := h
      rw [this]
      decide
    simp only [trFold, if_neg h2, Tr.nd, trVal]
  | .two x a b, h => by
    have h2 : ¬ (trVar a || trVar b) = true := by
      have : (trVar a || trVar b) = false := h
      rw [this]
      decide
    simp only [trFold, if_neg h2, Tr.nd, trVal]
theorem trFold_yes (k : Nat) : ∀ r : Tr, trVar r = true → trFold k r = Tr.over r.nd (r.parts.map (trFold k))
  | .leaf x, h => by
    have h2 : x.1 = 2 := of_decide_eq_true h
    simp only [trFold, if_pos h2, Tr.parts, List.map_nil, Tr.over, Tr.nd]
  | .one x a, h => by
    have h2 : trVar a = true := h
    simp only [trFold, if_pos h2, Tr.parts, List.map_cons, List.map_nil, Tr.over, Tr.nd]
  | .two x a b, h => by
    have h2 : (trVar a || trVar b) = true := h
    simp only [trFold, if_pos h2, Tr.parts, List.map_cons, List.map_nil, Tr.over, Tr.nd]
theorem litN_own {op v : Int} (h : ¬ ownOf op = 0) : ownOf (litN op v).1 = ownOf op := by
  have hr := ownOf_range op
  unfold litN
  by_cases h2 : ownOf op = 2
  · rw [if_pos h2, h2]
    rfl
  · rw [if_neg h2]
    show ownOf 1 = _
    rw [show ownOf op = 1 by omega]
    rfl
theorem trFold_kind {wide vars : Int} (k : Nat) (r : Tr) (h : r.Ok wide vars) : (trFold k r).kind = r.kind := by
  cases hv : trVar r with
  | false =>
    rw [trFold_no k r hv]
    exact litN_own (Tr.ok_nd h).1
  | true =>
    rw [trFold_yes k r hv]
    unfold Tr.kind
    rw [(Tr.over_parts r.nd _ (by cases r <;> simp [Tr.parts])).2]
theorem trFold_size (k : Nat) : ∀ r : Tr, (trFold k r).size ≤ r.size
  | .leaf x => by
    simp only [trFold]
    split <;> simp [Tr.size]
  | .one x a => by
    have ha := trFold_size k a
    simp only [trFold]
    split <;> simp only [Tr.size] <;> omega
  | .two x a b => by
    have ha := trFold_size k a
    have hb := trFold_size k b
    simp only [trFold]
    split <;> simp only [Tr.size] <;> omega
theorem novar_below {wide vars : Int} {r : Tr} (hok : r.Ok wide vars) (h : trVar r = false) (n : Nat) : VarsBelow r n := by
  intro x hx h2
  have := (trVar_iff hok).2 ⟨x, hx, h2⟩
  rw [h] at this
  cases this
theorem trFold_ok {k : Nat} (hk1 : 1 ≤ k) (hk : k ≤ 64) {vars : Int} : ∀ r : Tr, r.Ok k vars → Pos r → (trFold k r).Ok k vars ∧ Pos (trFold k r) := by
  apply Tr.ind
  intro r ih hok hp
  cases hv : trVar r with
  | false =>
    rw [trFold_no k r hv]
    have hvo := trVal_ok hk1 hk (st := []) (by simp) hok hp (novar_below hok hv _)
    have hk0 := Tr.kind_pos hok
    have hkk : r.kind = ownOf r.nd.1 := rfl
    generalize trVal k [] r = v at *
    rcases hvo with ⟨h1, h2, h3⟩ | ⟨h1, h2⟩
    · simp only at h1 h2 h3
      have e : litN r.nd.1 v = (1, v) := by
        unfold litN
        rw [if_neg (by omega)]
      rw [e]
      exact ⟨⟨(by show ¬ ownOf 1 = 0; decide), by show goodB k v = true; exact good_of k hk1 hk v h3, rfl⟩, fun x hx => by
        simp only [Tr.flat, List.mem_singleton] at hx
        subst hx
        exact h2⟩
    · simp only at h1 h2
      have e : litN r.nd.1 v = (20, v) := by
        unfold litN
        rw [if_pos (by omega)]
      rw [e]
      exact ⟨⟨(by show ¬ ownOf 20 = 0; decide), by show decide (v < 2) = true; exact decide_eq_true (by omega), rfl⟩, fun x hx => by
        simp only [Tr.flat, List.mem_singleton] at hx
        subst hx
        show 0 ≤ v
        omega⟩
  | true =>
    rw [trFold_yes k r hv]
    obtain ⟨n1, n2, n3⟩ := Tr.ok_nd hok
    have hfl : ∀ q ∈ r.parts, ∀ x ∈ q.flat, x ∈ r.flat := by
      intro q hq x hx
      rw [Tr.flat_eq r]
      exact List.mem_append_left _ (List.mem_flatMap.2 ⟨q, hq, hx⟩)
    have hl2 : (r.parts.map (trFold k)).length ≤ 2 := by cases r <;> simp [Tr.parts]
    have hih : ∀ q ∈ r.parts, (trFold k q).Ok k vars ∧ Pos (trFold k q) := fun q hq => ih q hq (Tr.ok_parts hok q hq).2 (fun x hx => hp x (hfl q hq x hx))
    refine ⟨Tr.over_ok n1 n2 (by simpa using n3) ?_, ?_⟩
    · intro q hq
      obtain ⟨q0, hq0, rfl⟩ := List.mem_map.1 hq
      exact ⟨by rw [trFold_kind k q0 (Tr.ok_parts hok q0 hq0).2]; exact (Tr.ok_parts hok q0 hq0).1, (hih q0 hq0).1⟩
    · intro x hx
      rw [Tr.flat_eq, (Tr.over_parts r.nd _ hl2).1, (Tr.over_parts r.nd _ hl2).2] at hx
      rcases List.mem_append.1 hx with hx | hx
      · obtain ⟨q, hq, hx⟩ := List.mem_flatMap.1 hx
        obtain ⟨q0, hq0, rfl⟩ := List.mem_map.1 hq
        exact (hih q0 hq0).2 x hx
      · simp at hx
        subst hx
        refine hp _ ?_
        rw [Tr.flat_eq r]
        simp
/-- without a variable the state says nothing -/
theorem trVal_no (k : Nat) (s t : List Int) : ∀ r : Tr, trVar r = false → trVal k s r = trVal k t r
  | .leaf x, h => by
    have h2 : ¬ x.1 = 2 := of_decide_eq_false h
    simp only [trVal, val0, if_neg h2]
  | .one x a, h => by
    have ha := trVal_no k s t a h
    simp only [trVal, ha]
  | .two x a b, h => by
    have h' : (trVar a || trVar b) = false := h
    rw [Bool.or_eq_false_iff] at h'
    have ha := trVal_no k s t a h'.1
    have hb := trVal_no k s t b h'.2
    simp only [trVal, ha, hb]
theorem litN_val (st : List Int) (op v : Int) : val0 st (litN op v) = v := by
  unfold val0 litN
  split
  · split at * <;> simp_all
  · rfl
/-- a folded tree comes to the same -/
theorem trFold_val (k : Nat) (st : List Int) : ∀ r : Tr, trVal k st (trFold k r) = trVal k st r
  | .leaf x => by
    simp only [trFold]
    split
    · rfl
    · rename_i h
      simp only [trVal, litN_val]
      simp only [val0, if_neg h]
  | .one x a => by
    have ha := trFold_val k st a
    simp only [trFold]
    split
    · simp only [trVal, ha]
    · rename_i h
      have h' : trVar a = false := by simpa using h
      simp only [trVal, litN_val]
      rw [trVal_no k [] st a h']
  | .two x a b => by
    have ha := trFold_val k st a
    have hb := trFold_val k st b
    simp only [trFold]
    split
    · simp only [trVal, ha, hb]
    · rename_i h
      have h' : trVar a = false ∧ trVar b = false := by simpa using h
      simp only [trVal, litN_val]
      rw [trVal_no k [] st a h'.1, trVal_no k [] st b h'.2]
theorem litN_var (op v : Int) : trVar (.leaf (litN op v)) = false := by
  unfold trVar litN
  apply decide_eq_false
  split
  · show ¬ (20 : Int) = 2
    decide
  · show ¬ (1 : Int) = 2
    decide
theorem trFold_var (k : Nat) : ∀ r : Tr, trVar (trFold k r) = trVar r
  | .leaf x => by
    simp only [trFold]
    split
    · rfl
    · rename_i h
      rw [litN_var]
      exact (decide_eq_false h).symm
  | .one x a => by
    have ha := trFold_var k a
    simp only [trFold]
    split
    · simp only [trVar, ha]
    · rename_i h
      rw [litN_var]
      simp only [trVar]
      cases hh : trVar a
      · rfl
      · exact absurd hh h
  | .two x a b => by
    have ha := trFold_var k a
    have hb := trFold_var k b
    simp only [trFold]
    split
    · simp only [trVar, ha, hb]
    · rename_i h
      rw [litN_var]
      simp only [trVar]
      cases hh : (trVar a || trVar b)
      · rfl
      · exact absurd hh h
theorem litN_again (op v : Int) : litN (litN op v).1 (litN op v).2 = litN op v := by
  unfold litN
  by_cases h : ownOf op = 2
  · simp only [if_pos h]
    rfl
  · simp only [if_neg h]
    rfl
/-- a folded tree is folded already -/
theorem trFold_again (k : Nat) : ∀ r : Tr, trFold k (trFold k r) = trFold k r
  | .leaf x => by
    simp only [trFold]
    by_cases h : x.1 = 2
    · simp only [if_pos h, trFold]
    · simp only [if_neg h, trFold]
      have h2 : ¬ (litN x.1 x.2).1 = 2 := of_decide_eq_false (litN_var x.1 x.2)
      rw [if_neg h2, litN_again]
  | .one x a => by
    have ha := trFold_again k a
    simp only [trFold]
    by_cases h : trVar a = true
    · simp only [if_pos h, trFold, trFold_var, ha]
    · simp only [if_neg h, trFold]
      have h2 := of_decide_eq_false (litN_var x.1 (val1 k x (trVal k [] a)))
      rw [if_neg h2, litN_again]
  | .two x a b => by
    have ha := trFold_again k a
    have hb := trFold_again k b
    simp only [trFold]
    by_cases h : (trVar a || trVar b) = true
    · simp only [if_pos h, trFold, trFold_var, ha, hb]
    · simp only [if_neg h, trFold]
      have h2 := of_decide_eq_false (litN_var x.1 (val2 k x (trVal k [] a) (trVal k [] b)))
      rw [if_neg h2, litN_again]
theorem litN_mem (i op v : Int) : ((2, i) : Nd) ≠ litN op v := by
  intro e
  have h2 := of_decide_eq_false (litN_var op v)
  rw [← e] at h2
  exact h2 rfl
/-- a folded tree has the same variables -/
theorem trFold_mem {wide vars : Int} (k : Nat) (i : Int) : ∀ r : Tr, r.Ok wide vars → (((2, i) : Nd) ∈ (trFold k r).flat ↔ ((2, i) : Nd) ∈ r.flat)
  | .leaf x, _ => by
    simp only [trFold]
    split
    · rfl
    · rename_i h
      simp only [Tr.flat, List.mem_singleton]
      constructor
      · intro e
        exact absurd e (litN_mem i _ _)
      · intro e
        rw [← e] at h
        exact absurd rfl h
  | .one x a, hok => by
    have ha := trFold_mem k i a hok.2.2.2.2
    simp only [trFold]
    split
    · simp only [Tr.flat, List.mem_append, ha]
    · rename_i h
      have h' : trVar a = false := by simpa using h
      simp only [Tr.flat, List.mem_append, List.mem_singleton]
      constructor
      · intro e
        exact absurd e (litN_mem i _ _)
      · rintro (e | e)
        · have := (trVar_iff hok.2.2.2.2).2 ⟨_, e, rfl⟩
          rw [h'] at this
          cases this
        · have h3 := hok.2.2.1
          rw [← e] at h3
          exact absurd (show (0 : Nat) = 1 from h3) (by decide)
  | .two x a b, hok => by
    have ha := trFold_mem k i a hok.2.2.2.2.2.1
    have hb := trFold_mem k i b hok.2.2.2.2.2.2
    simp only [trFold]
    split
    · simp only [Tr.flat, List.mem_append, ha, hb]
    · rename_i h
      have h' : trVar a = false ∧ trVar b = false := by simpa using h
      simp only [Tr.flat, List.mem_append, List.mem_singleton]
      constructor
      · intro e
        exact absurd e (litN_mem i _ _)
      · rintro ((e | e) | e)
        · have := (trVar_iff hok.2.2.2.2.2.1).2 ⟨_, e, rfl⟩
          rw [h'.1] at this
          cases this
        · have := (trVar_iff hok.2.2.2.2.2.2).2 ⟨_, e, rfl⟩
          rw [h'.2] at this
          cases this
        · have h3 := hok.2.2.1
          rw [← e] at h3
          exact absurd (show (0 : Nat) = 2 from h3) (by decide)
theorem trPut_flat {wide vars : Int} (bs : List Tr) : ∀ r : Tr, r.Ok wide vars → Pos r → VarsBelow r bs.length → (trPut bs r).flat = putsL (bs.map Tr.flat) r.flat
  | .leaf x, hok, hp, hv => by
    simp only [trPut, putsL, Tr.flat, List.flatMap_cons, List.flatMap_nil, List.append_nil]
    split
    · rename_i h
      have h1 := hv x (by simp [Tr.flat]) h
      simp [List.getD_eq_getElem?_getD, h1]
    · rfl
  | .one x a, hok, hp, hv => by
    have ha := trPut_flat bs a hok.2.2.2.2 (fun x hx => hp x (by simp [Tr.flat, hx])) (fun x hx => hv x (by simp [Tr.flat, hx]))
    have hx : ¬ x.1 = 2 := by
      intro e
      have h3 := hok.2.2.1
      rw [e] at h3
      exact absurd (show (0 : Nat) = 1 from h3) (by decide)
    simp only [trPut, Tr.flat]
    rw [putsL_snoc, if_neg hx, ha]
  | .two x a b, hok, hp, hv => by
    have ha := trPut_flat bs a hok.2.2.2.2.2.1 (fun x hx => hp x (by simp [Tr.flat, hx])) (fun x hx => hv x (by simp [Tr.flat, hx]))
    have hb := trPut_flat bs b hok.2.2.2.2.2.2 (fun x hx => hp x (by simp [Tr.flat, hx])) (fun x hx => hv x (by simp [Tr.flat, hx]))
    have hx : ¬ x.1 = 2 := by
      intro e
      have h3 := hok.2.2.1
      rw [e] at h3
      exact absurd (show (0 : Nat) = 2 from h3) (by decide)
    simp only [trPut, Tr.flat]
    rw [putsL_snoc, if_neg hx, ha, hb]
    unfold putsL
    rw [List.flatMap_append]
theorem trPut_kind {wide vars : Int} (bs : List Tr) (hb : ∀ q ∈ bs, q.kind = 1) (r : Tr) (hok : r.Ok wide vars) : (trPut bs r).kind = r.kind := by
  cases r with
  | leaf x =>
    simp only [trPut]
    split
    · rename_i h
      have e : (Tr.leaf x).kind = 1 := by
        show ownOf x.1 = 1
        rw [h]
        rfl
      rw [e, List.getD_eq_getElem?_getD]
      cases hg : bs[x.2.toNat]? with
      | none => exact e
      | some q => exact hb q (List.mem_of_getElem? hg)
    · rfl
  | one x a => rfl
  | two x a b => rfl
theorem trPut_ok {wide vars : Int} (bs : List Tr) (hb : ∀ q ∈ bs, q.kind = 1 ∧ q.Ok wide vars) : ∀ r : Tr, r.Ok wide vars → (trPut bs r).Ok wide vars
  | .leaf x, hok => by
    simp only [trPut]
    split
    · rw [List.getD_eq_getElem?_getD]
      cases hg : bs[x.2.toNat]? with
      | none => exact hok
      | some q => exact (hb q (List.mem_of_getElem? hg)).2
    · exact hok
  | .one x a, hok => by
    have ha := trPut_ok bs hb a hok.2.2.2.2
    exact ⟨hok.1, hok.2.1, hok.2.2.1, by rw [trPut_kind bs (fun q hq => (hb q hq).1) a hok.2.2.2.2]; exact hok.2.2.2.1, ha⟩
  | .two x a b, hok => by
    have ha := trPut_ok bs hb a hok.2.2.2.2.2.1
    have hb' := trPut_ok bs hb b hok.2.2.2.2.2.2
    exact ⟨hok.1, hok.2.1, hok.2.2.1, by rw [trPut_kind bs (fun q hq => (hb q hq).1) a hok.2.2.2.2.2.1]; exact hok.2.2.2.1, by rw [trPut_kind bs (fun q hq => (hb q hq).1) b hok.2.2.2.2.2.2]; exact hok.2.2.2.2.1, ha, hb'⟩
/-- what is put for the variables does as their values do -/
theorem trPut_val (k : Nat) (st : List Int) (bs : List Tr) : ∀ r : Tr, VarsBelow r bs.length → trVal k st (trPut bs r) = trVal k (bs.map (trVal k st)) r
  | .leaf x, hv => by
    simp only [trPut]
    split
    · rename_i h
      have h1 := hv x (by simp [Tr.flat]) h
      simp only [trVal, val0, if_pos h]
      simp [List.getD_eq_getElem?_getD, h1]
    · rename_i h
      simp only [trVal, val0, if_neg h]
  | .one x a, hv => by
    have ha := trPut_val k st bs a (fun x hx => hv x (by simp [Tr.flat, hx]))
    simp only [trPut, trVal, ha]
  | .two x a b, hv => by
    have ha := trPut_val k st bs a (fun x hx => hv x (by simp [Tr.flat, hx]))
    have hb := trPut_val k st bs b (fun x hx => hv x (by simp [Tr.flat, hx]))
    simp only [trPut, trVal, ha, hb]
end Go.Proofs.YtmhpnkfibecnmaaDoor

namespace Go.Proofs.YtmhpnkfibecnmaaDoor
open Go Go.RowKit
open M
set_option linter.unusedVariables false

/-- a row of nodes is read in one way -/
theorem flat_one_way {wide vars wide' vars' : Int} : ∀ (T1 : Tr) (s1 s2 : List Nd) (T2 : Tr), T1.Ok wide vars → T2.Ok wide' vars' → s1 ++ T1.flat = s2 ++ T2.flat → T1 = T2 ∧ s1 = s2
  | .leaf x, s1, s2, T2, h1, h2, e => by
    have e' := e
    rw [Tr.flat_eq T2, ← List.append_assoc] at e'
    obtain ⟨e1, e2⟩ := List.append_inj' (show s1 ++ [x] = (s2 ++ T2.parts.flatMap Tr.flat) ++ [T2.nd] from e') rfl
    have hx : x = T2.nd := by simpa using e2
    have hm := (Tr.ok_nd h2).2.2
    rw [← hx, h1.2.2] at hm
    cases T2 with
    | leaf y =>
      simp [Tr.nd] at hx
      subst hx
      exact ⟨rfl, by simpa [Tr.parts] using e1⟩
    | one y a => simp [Tr.parts] at hm
    | two y a b => simp [Tr.parts] at hm
  | .one x a, s1, s2, T2, h1, h2, e => by
    have e' := e
    rw [Tr.flat_eq T2, ← List.append_assoc] at e'
    obtain ⟨e1, e2⟩ := List.append_inj' (show (s1 ++ a.flat) ++ [x] = (s2 ++ T2.parts.flatMap Tr.flat) ++ [T2.nd] from by rw [← e']; simp [Tr.flat]) rfl
    have hx : x = T2.nd := by simpa using e2
    have hm := (Tr.ok_nd h2).2.2
    rw [← hx, h1.2.2.1] at hm
    cases T2 with
    | leaf y => simp [Tr.parts] at hm
    | one y c =>
      simp [Tr.nd] at hx
      subst hx
      obtain ⟨f1, f2⟩ := flat_one_way a s1 s2 c h1.2.2.2.2 h2.2.2.2.2 (by simpa [Tr.parts] using e1)
      exact ⟨by rw [f1], f2⟩
    | two y c d => simp [Tr.parts] at hm
  | .two x a b, s1, s2, T2, h1, h2, e => by
    have e' := e
    rw [Tr.flat_eq T2, ← List.append_assoc] at e'
    obtain ⟨e1, e2⟩ := List.append_inj' (show (s1 ++ a.flat ++ b.flat) ++ [x] = (s2 ++ T2.parts.flatMap Tr.flat) ++ [T2.nd] from by rw [← e']; simp [Tr.flat]) rfl
    have hx : x = T2.nd := by simpa using e2
    have hm := (Tr.ok_nd h2).2.2
    rw [← hx, h1.2.2.1] at hm
    cases T2 with
    | leaf y => simp [Tr.parts] at hm
    | one y c => simp [Tr.parts] at hm
    | two y c d =>
      simp [Tr.nd] at hx
      subst hx
      obtain ⟨f1, f2⟩ := flat_one_way b (s1 ++ a.flat) (s2 ++ c.flat) d h1.2.2.2.2.2.2 h2.2.2.2.2.2.2 (by simpa [Tr.parts] using e1)
      obtain ⟨f3, f4⟩ := flat_one_way a s1 s2 c h1.2.2.2.2.2.1 h2.2.2.2.2.2.1 f2
      exact ⟨by rw [f1, f3], f4⟩
/-- the tree of the row of a good tree is that tree -/
theorem root_of_flat {wide vars : Int} {T : Tr} (h : T.Ok wide vars) (hw : wideB wide = true) (h1 : 1 ≤ vars) (h4 : vars ≤ 4) (hs : T.size ≤ 48) : 0 < kindL wide vars T.flat ∧ pileT wide vars T.flat T.flat.length = some [⟨0, T.kind, T⟩] := by
  have hk := Tr.kindL_eq h hw h1 h4 hs
  have hp : 0 < kindL wide vars T.flat := by
    rw [hk]
    have := Tr.kind_pos h
    omega
  obtain ⟨_, _, _, _, _, r, hr, k1, k2, _⟩ := root_tree hp
  obtain ⟨e, _⟩ := flat_one_way r [] [] T k1 h (by simpa using k2)
  subst e
  exact ⟨hp, hr⟩
/-- the value of the row of a good tree -/
theorem value_of_flat {k : Nat} {st : List Int} {T : Tr} (h : T.Ok k st.length) (hk1 : 1 ≤ k) (hk : k ≤ 64) (h1 : 1 ≤ st.length) (h4 : st.length ≤ 4) (hs : T.size ≤ 48) (hst : ∀ s ∈ st, goodB k s = true) : saidV k T.flat st = true ∧ valueL k T.flat st = trVal k st T := by
  obtain ⟨p1, p2⟩ := root_of_flat h (decide_eq_true (by omega)) (by omega) (by omega) hs
  have hs1 : saidV k T.flat st = true := by
    unfold saidV
    rw [decide_eq_true p1, Bool.true_and]
    exact List.all_eq_true.2 hst
  refine ⟨hs1, ?_⟩
  have := valueL_tree hs1 p2
  simpa using this
theorem saidV_open {wide : Int} {t : List Nd} {st : List Int} (h : saidV wide t st = true) : 0 < kindL wide st.length t ∧ ∀ s ∈ st, goodB wide s = true := by
  unfold saidV at h
  rw [Bool.and_eq_true] at h
  exact ⟨of_decide_eq_true h.1, List.all_eq_true.1 h.2⟩
/-- what is said of a folded term: it comes to the same with the same variables and of the same kind, and is folded already -/
theorem folded_said {k : Nat} {t : List Nd} {st : List Int} (hok : ∀ x ∈ t, NdOk x) (h : saidV k t st = true) :
    0 < kindL k st.length t ∧ saidV k (foldL k st.length t) st = true ∧ valueL k (foldL k st.length t) st = valueL k t st ∧ kindL k st.length (foldL k st.length t) = kindL k st.length t ∧ foldL k st.length (foldL k st.length t) = foldL k st.length t ∧ varsInL k st.length (foldL k st.length t) = varsInL k st.length t := by
  obtain ⟨hp, hst⟩ := saidV_open h
  obtain ⟨g1, g2, g3, g4, g5, r, hr, k1, k2, k3⟩ := root_tree hp
  obtain ⟨k', e, hk1, hk64⟩ := wideB_true g1
  obtain rfl : k = k' := by omega
  have hpos : Pos r := by
    intro x hx
    rw [k2] at hx
    exact (hok x hx).2.2.1
  obtain ⟨f1, f2⟩ := trFold_ok hk1 hk64 r k1 hpos
  have hsz : r.size ≤ 48 := by
    have := r.flat_len
    rw [k2] at this
    omega
  have fsz : (trFold k r).size ≤ 48 := Nat.le_trans (trFold_size k r) hsz
  have hf : foldL k st.length t = (trFold k r).flat := by
    have := foldL_tree hp hr
    simpa using this
  obtain ⟨q1, q2⟩ := root_of_flat f1 g1 g2 g3 fsz
  obtain ⟨v1, v2⟩ := value_of_flat f1 hk1 hk64 (by omega) (by omega) fsz hst
  have hvt : valueL k t st = trVal k st r := by
    have := valueL_tree h hr
    simpa using this
  have hv4 : ∀ x ∈ r.flat, x.1 = 2 → 0 ≤ x.2 ∧ x.2 < 4 := by
    intro x hx h2
    have h3 := ok_vars k1 x hx h2
    have h4 := hpos x hx
    omega
  have hv4' : ∀ x ∈ (trFold k r).flat, x.1 = 2 → 0 ≤ x.2 ∧ x.2 < 4 := by
    intro x hx h2
    have h3 := ok_vars f1 x hx h2
    have h4 := f2 x hx
    omega
  refine ⟨hp, ?_, ?_, ?_, ?_, ?_⟩
  · rw [hf]
    exact v1
  · rw [hf, v2, hvt]
    exact trFold_val k st r
  · rw [hf, Tr.kindL_eq f1 g1 g2 g3 fsz, trFold_kind k r k1]
    exact k3
  · rw [hf]
    have := foldL_tree q1 q2
    rw [this]
    simp only [Int.toNat_natCast]
    rw [trFold_again]
  · rw [hf]
    unfold varsInL
    rw [if_pos q1, if_pos hp, varsL_sorted _ _ rfl hv4', varsL_sorted t.length t rfl (by rw [← k2]; exact hv4)]
    congr 1
    funext i
    apply decide_eq_decide.2
    rw [← k2]
    exact trFold_mem k i r k1
end Go.Proofs.YtmhpnkfibecnmaaDoor

namespace Go.Proofs.YtmhpnkfibecnmaaDoor
open Go Go.RowKit
open M
set_option linter.unusedVariables false

/-- whether a condition holds in a state -/
def holdsL (k : Int) (t : List Nd) (st : List Int) : Bool := valueL k t st == 1
/-- whether words are a state of a program -/
def stateP (p : Pg) (st : List Int) : Bool := decide ((st.length : Int) = p.2.1) && st.all (goodB p.1)
def goodS (p : Pg) (st : List Int) : Bool := goodP p && stateP p st
theorem trVal_congr (k : Nat) (s t : List Int) : ∀ r : Tr, (∀ x ∈ r.flat, x.1 = 2 → s.getD x.2.toNat 0 = t.getD x.2.toNat 0) → trVal k s r = trVal k t r
  | .leaf x, h => by
    simp only [trVal, val0]
    by_cases h2 : x.1 = 2
    · rw [if_pos h2, if_pos h2]
      exact h x (by simp [Tr.flat]) h2
    · rw [if_neg h2, if_neg h2]
  | .one x a, h => by
    have ha := trVal_congr k s t a (fun y hy => h y (by simp [Tr.flat, hy]))
    simp only [trVal, ha]
  | .two x a b, h => by
    have ha := trVal_congr k s t a (fun y hy => h y (by simp [Tr.flat, hy]))
    have hb := trVal_congr k s t b (fun y hy => h y (by simp [Tr.flat, hy]))
    simp only [trVal, ha, hb]
theorem stateP_open {p : Pg} {st : List Int} (h : stateP p st = true) : (st.length : Int) = p.2.1 ∧ ∀ s ∈ st, goodB p.1 s = true := by
  unfold stateP at h
  rw [Bool.and_eq_true] at h
  exact ⟨of_decide_eq_true h.1, List.all_eq_true.1 h.2⟩
theorem said_of {p : Pg} {t : List Nd} {st : List Int} (hs : stateP p st = true) (hk : 0 < kindL p.1 p.2.1 t) : saidV p.1 t st = true := by
  obtain ⟨h1, h2⟩ := stateP_open hs
  unfold saidV
  rw [h1, decide_eq_true hk, Bool.true_and]
  exact List.all_eq_true.2 h2
set_option maxHeartbeats 1000000 in
/-- the model's value of a good term in a state -/
theorem l2Value_said (wide : Int) (v sv : Value) (t : List Nd) (st : List Int) (hok : StOk st) (hsaid : saidV wide t st = true) (w : World) (h : NodesAt w v t) (hs : StAt w sv st) (n : Int) (hn : n = (t.length : Int) - 1) :
    Calls Tryd.prog 109 #[.int .i64 wide, v, .int .i64 n, sv] w fun e w' => e = .returned (.int .u64 (valueL wide t st)) ∧ Below w.heap.size w w' := by
  obtain ⟨k, rfl, hk1, hk, hl1, hl, hsw, e0, ht, hval, hvar⟩ := valueL_root hsaid
  rw [hval]
  obtain ⟨hokN, _, hN⟩ := h
  rcases hN with ⟨rfl, _⟩ | ⟨b, off, cap, rfl, hlt, hc⟩
  · simp at hl1
  · subst hn
    have eL : (t.length : Int) - 1 = ((t.length - 1 : Nat) : Int) := by omega
    rw [eL]
    exact l2Value_any hk1 hk (fun x hx => (hokN x hx).2.2.1) (fun s hsm => ⟨(hok.2 s hsm).1, hsw s hsm⟩) (by omega) hok.1 (t.length - 1) (t.length - 1) (Nat.le_refl _) e0 ht
      (fun i n _ hi hx => by
        have h3 := hvar i n hi hx
        have h4 := (hokN _ (List.mem_of_getElem? hx)).2.2.1
        simp only at h4
        omega) w hlt hc hs
theorem goodP_nats {p : Pg} (h : goodP p = true) : ∃ k v : Nat, p.1 = k ∧ p.2.1 = v ∧ 1 ≤ k ∧ k ≤ 64 ∧ 1 ≤ v ∧ v ≤ 4 := by
  obtain ⟨_, q0, q1, q2, q3, _⟩ := goodP_parts h
  exact ⟨p.1.toNat, p.2.1.toNat, by omega, by omega, by omega, by omega, by omega, by omega⟩
end Go.Proofs.YtmhpnkfibecnmaaDoor

namespace Go.Proofs.YtmhpnkfibecnmaaDoor
open Go Go.RowKit
open M
set_option linter.unusedVariables false

theorem asks_any (v tv : Value) (p : Pg) (t : List Nd) (w : World) (h : AtProg w v p) (ht : NodesAt w tv t) :
    Calls Tryd.prog 58 #[v, tv] w fun e w' => e = .returned (.bool (kindL p.1 p.2.1 t == 2)) ∧ Below w.heap.size w w' := by
  obtain ⟨sa, sn, sc, ca, cn, cc, rfl⟩ := h.shape
  have HB0 : Hid (Below w.heap.size w (w.alloc (.cells #[.int .i64 p.1, .int .i64 p.2.1, .slice sa sn sc, .slice ca cn cc] 27))) := (Below.refl _ _).alloc (Nat.le_refl _) _
  have g := l2Kind_any p.1 p.2.1 tv t _ (ht.below HB0.out)
  obtain ⟨ta, tc, rfl⟩ := ht.shape
  clear h ht
  generalize t.length = tn at *
  generalize kindL p.1 p.2.1 t = K at *
  generalize p.1 = pw at *
  generalize p.2.1 = pv at *
  go_enter Tryd.func58, Tryd.ntmps58
  go_wp2_with fail
  refine g.mono ?_
  rintro e w1 ⟨rfl, hs⟩
  have HB1 : Hid (Below w.heap.size w w1) := Below.step HB0.out HB0.out.size hs
  clear g hs
  go_wp2_with fail
  go_ret
  exact ⟨rfl, HB1.out⟩
end Go.Proofs.YtmhpnkfibecnmaaDoor
