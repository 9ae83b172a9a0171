/-
  The program's nodeLayer.
  The program's varWires: the wires of a variable.
  What the program lays for a node, op by op.
  What the program lays for a sum, a product, a comparison.
  The program's comparison of signed numbers by gates.
  What the program lays for a comparison of signed numbers.
  What the program's function value of nodeLayer does with any node that can be laid out.
  Plain mathematics for folded terms: the pile with, for each tree, whether a variable is in it, its value where none is, and its folded nodes.
  A folded tree: the model's l2Fold.
  Terms that are joined: the model's JoinTerms.
  A folded tree with parts: the model's l2Fold at a node of one part.
  A folded tree whole: the model's l2Fold.
  A folded tree whole, and a folded term: the model's l2Fold, FoldTerm.
  A folded term: the model's FoldTerm.
  What is put for variables: the model's PutAll.
  What is put for variables: the model's PutAll whole.
  Plain mathematics for trees: what a tree comes to, the tree that is folded, the tree with trees put for its variables, and the variables of a term in their order.
  Plain mathematics of trees that are laid out: part by part; how many gates, which wires.
  What an op takes and is, whether a node's number is as its op wants it, how many variables there may be: the program's shapeOf, goodN, goodVars.
  A node over its parts: the program's nodeOver.
  A node over parts of which one is none or of another kind: the program's nodeOver answers none.
-/
import Derived.Test.YtpjllhlbdcanlaaDoorKL52
import Derived.Test.YtpjllhlbdcanlaaDoorKL51
import Derived.Deep.CutRange
import Derived.Deep.RegionHeld
import Derived.Deep.RegionHeldLaw
import Derived.Test.YtpjllhlbdcanlaaDoorValueOf
import Derived.Test.YtpjllhlbdcanlaaDoorVars
import Derived.Test.YtpjllhlbdcanlaaDoorTurn
import Derived.Test.YtpjllhlbdcanlaaDoorNodes
import Derived.Handy
namespace Go.Proofs.YtpjllhlbdcanlaaDoor
open Go Go.RowKit
open M
set_option linter.unusedVariables false
set_option linter.unusedSimpArgs false

/-- the function value that lays a node's gates, over a circuit at block b -/
def NodeV (w : World) (v : Value) (b k : Nat) : Prop := ∃ cw c0 c1 c2 cb c3 c4 bv nv pv tv lv, v = .func (.func 107) #[] #[.pointer (some ⟨cw, 0, none⟩), .pointer (some ⟨c0, 0, none⟩), .pointer (some ⟨c1, 0, none⟩), .pointer (some ⟨c2, 0, none⟩), .pointer (some ⟨cb, 0, none⟩), .pointer (some ⟨c3, 0, none⟩), .pointer (some ⟨c4, 0, none⟩)] ∧
  CellT w cw 3 (.int .i64 k) ∧ (CellT w c0 130 bv ∧ BitsV w bv b) ∧ (CellT w c1 132 nv ∧ NotsV w nv b) ∧ (CellT w c2 105 pv ∧ PairsV w pv b) ∧ CellT w cb 118 (.pointer (some ⟨b, 0, none⟩)) ∧ (CellT w c3 128 tv ∧ TimesV w tv b) ∧ (CellT w c4 129 lv ∧ LessV w lv b)
theorem NodeV.keep {w w' : World} {v : Value} {b k : Nat} (h : NodeV w v b k) (hk : KeepC w w') : NodeV w' v b k := by
  obtain ⟨cw, c0, c1, c2, cb, c3, c4, bv, nv, pv, tv, lv, h0, h1, ⟨h2, h3⟩, ⟨h4, h5⟩, ⟨h6, h7⟩, h8, ⟨h9, h10⟩, h11, h12⟩ := h
  exact ⟨cw, c0, c1, c2, cb, c3, c4, bv, nv, pv, tv, lv, h0, h1.keep hk, ⟨h2.keep hk, h3.keep hk⟩, ⟨h4.keep hk, h5.keep hk⟩, ⟨h6.keep hk, h7.keep hk⟩, h8.keep hk, ⟨h9.keep hk, h10.keep hk⟩, h11.keep hk, h12.keep hk⟩
set_option maxRecDepth 100000 in
set_option maxHeartbeats 4000000 in
theorem nodeLayer_any (b k : Nat) (w : World) :
    Calls Tryd.prog 83 #[.pointer (some ⟨b, 0, none⟩), .int .i64 k] w fun e w' => ∃ v, e = .returned v ∧ NodeV w' v b k ∧ Below w.heap.size w w' := by
  have hc := CellT.alloc (cellT_alloc w 118 (.pointer (some ⟨b, 0, none⟩))) (.cells #[.int .i64 k] 3)
  have hk := cellT_alloc (w.alloc (.cells #[.pointer (some ⟨b, 0, none⟩)] 118)) 3 (.int .i64 k)
  have HC : Hid _ := hc
  have HK : Hid _ := hk
  clear hc hk
  go_enter Tryd.func83, Tryd.ntmps83
  go_wp2_with fail
  refine wp_region_any (by kernel_rfl) ?_
  obtain ⟨w0, hw0⟩ : ∃ w0, ((w.alloc (.cells #[.pointer (some ⟨b, 0, none⟩)] 118)).alloc (.cells #[.int .i64 k] 3)).drew = w0 := ⟨_, rfl⟩
  change wpAny _ _ _ _ _ _ _ (World.drew _)
  rw [hw0]
  have HC0 : Hid (CellT w0 w.heap.size 118 (.pointer (some ⟨b, 0, none⟩))) := by
    rw [← hw0]
    exact HC.out
  have HK0 : Hid (CellT w0 (w.heap.size + 1) 3 (.int .i64 k)) := by
    rw [← hw0]
    have h1 := HK.out
    rw [World.size_alloc] at h1
    exact h1
  have HB0 : Hid (Below w.heap.size w w0) := by
    rw [← hw0]
    exact (((Below.refl _ _).alloc (Nat.le_refl _) _).alloc (by rw [World.size_alloc]; omega) _).drew
  refine wpAny_inv (fun l a w' => ∃ (l0 l1 l2 l3 l4 l5 l6 l7 l8 l9 l10 l11 : Bool) (s0 s1 s2 s3 s4 s5 s6 s7 s8 : Value), l = #[l0, l1, l2, l3, l4, l5, l6, l7, l8, l9, l10, l11] ∧ a = { tmps := #[.pointer (some ⟨b, 0, none⟩), .int .i64 k, .pointer (some ⟨w.heap.size, 0, none⟩), .pointer (some ⟨w.heap.size + 1, 0, none⟩), .nilFunc, s6, s7, s8, undef, undef, s0, s3, s1, s4, s2, s5, undef, undef, undef, undef, undef], defers := [] } ∧ Reg3 b (w.heap.size) w0 w' l0 l1 l2 l3 l4 l5 l6 l7 l8 l9 l10 l11 s0 s1 s2 s3 s4 s5 s6 s7 s8) ?done ?step 12 _ _ _ ⟨false, false, false, false, false, false, false, false, false, false, false, false, _, _, _, _, _, _, _, _, _, rfl, rfl, ?init⟩ (by decide)
  case init => exact { bel := Below.refl _ _, cc := HC0.out, ld0 := fun e => (by cases e), ld1 := fun e => (by cases e), ld2 := fun e => (by cases e), cl0 := fun e => (by cases e), cl1 := fun e => (by cases e), cl2 := fun e => (by cases e), bk0 := fun e => (by cases e), bk1 := fun e => (by cases e), bk2 := fun e => (by cases e), st0 := fun e => (by cases e), st1 := fun e => (by cases e), st2 := fun e => (by cases e) }
  case step =>
    rintro l a w1 ⟨l0, l1, l2, l3, l4, l5, l6, l7, l8, l9, l10, l11, s0, s1, s2, s3, s4, s5, s6, s7, s8, rfl, rfl, h⟩
    intro i hi
    have hlt := ready_lt hi
    match i, hi, hlt with
    | 0, hi, _ =>
      have hr := ready_dep hi rfl
      have hme : l0 = false := hr.1
      clear hr hi
      refine wpOp_run rfl rfl (fun K hK => ?_)
      obtain ⟨c1, c2⟩ := h.cc.cell
      go_simp
      refine hK _ _ ⟨true, l1, l2, l3, l4, l5, l6, l7, l8, l9, l10, l11, _, _, _, _, _, _, _, _, _, rfl, rfl, ?_⟩
      exact
        { bel := h.bel
          cc := h.cc
          ld0 := fun _ => rfl
          ld1 := h.ld1
          ld2 := h.ld2
          cl0 := h.cl0
          cl1 := h.cl1
          cl2 := h.cl2
          bk0 := h.bk0
          bk1 := h.bk1
          bk2 := h.bk2
          st0 := h.st0
          st1 := h.st1
          st2 := h.st2 }
    | 1, hi, _ =>
      have hr := ready_dep hi rfl
      have hme : l1 = false := hr.1
      have hd : l0 = true ∧ l1 = false := ⟨hr.2 ⟨0, .data⟩ (by simp) (by kernel_rfl), hme⟩
      clear hr hi
      obtain rfl := h.ld0 hd.1
      refine wpOp_run rfl rfl (fun K hK => ?_)
      go_simp
      go_at_call 102
      refine (bitLayer_any b _).mono ?_
      rintro e w2 ⟨k2, rfl, hk2, hs2⟩
      have h2 := h.below hs2
      refine hK _ _ ⟨l0, true, l2, l3, l4, l5, l6, l7, l8, l9, l10, l11, _, _, _, _, _, _, _, _, _, rfl, rfl, ?_⟩
      exact
        { bel := h2.bel
          cc := h2.cc
          ld0 := h2.ld0
          ld1 := h2.ld1
          ld2 := h2.ld2
          cl0 := fun _ => ⟨_, rfl, hk2⟩
          cl1 := h2.cl1
          cl2 := h2.cl2
          bk0 := fun e => (by
              obtain ⟨k, u, g1, g2, g3, g4⟩ := h2.bk0 e
              exact ⟨k, u, g1, g2, g3, fun e1 => absurd ((h2.st0 e1).1) (by rw [hd.2]; decide)⟩)
          bk1 := h2.bk1
          bk2 := h2.bk2
          st0 := fun e => ⟨rfl, (h2.st0 e).2⟩
          st1 := h2.st1
          st2 := h2.st2 }
    | 2, hi, _ =>
      have hr := ready_dep hi rfl
      have hme : l2 = false := hr.1
      clear hr hi
      refine wpOp_run rfl rfl (fun K hK => ?_)
      obtain ⟨c1, c2⟩ := h.cc.cell
      go_simp
      refine hK _ _ ⟨l0, l1, true, l3, l4, l5, l6, l7, l8, l9, l10, l11, _, _, _, _, _, _, _, _, _, rfl, rfl, ?_⟩
      exact
        { bel := h.bel
          cc := h.cc
          ld0 := h.ld0
          ld1 := fun _ => rfl
          ld2 := h.ld2
          cl0 := h.cl0
          cl1 := h.cl1
          cl2 := h.cl2
          bk0 := h.bk0
          bk1 := h.bk1
          bk2 := h.bk2
          st0 := h.st0
          st1 := h.st1
          st2 := h.st2 }
    | 3, hi, _ =>
      have hr := ready_dep hi rfl
      have hme : l3 = false := hr.1
      have hd : l2 = true ∧ l3 = false := ⟨hr.2 ⟨2, .data⟩ (by simp) (by kernel_rfl), hme⟩
      clear hr hi
      obtain rfl := h.ld1 hd.1
      refine wpOp_run rfl rfl (fun K hK => ?_)
      go_simp
      go_at_call 103
      refine (notLayer_any b _).mono ?_
      rintro e w2 ⟨k2, rfl, hk2, hs2⟩
      have h2 := h.below hs2
      refine hK _ _ ⟨l0, l1, l2, true, l4, l5, l6, l7, l8, l9, l10, l11, _, _, _, _, _, _, _, _, _, rfl, rfl, ?_⟩
      exact
        { bel := h2.bel
          cc := h2.cc
          ld0 := h2.ld0
          ld1 := h2.ld1
          ld2 := h2.ld2
          cl0 := h2.cl0
          cl1 := fun _ => ⟨_, rfl, hk2⟩
          cl2 := h2.cl2
          bk0 := h2.bk0
          bk1 := fun e => (by
              obtain ⟨k, u, g1, g2, g3, g4⟩ := h2.bk1 e
              exact ⟨k, u, g1, g2, g3, fun e1 => absurd ((h2.st1 e1).1) (by rw [hd.2]; decide)⟩)
          bk2 := h2.bk2
          st0 := h2.st0
          st1 := fun e => ⟨rfl, (h2.st1 e).2⟩
          st2 := h2.st2 }
    | 4, hi, _ =>
      have hr := ready_dep hi rfl
      have hme : l4 = false := hr.1
      clear hr hi
      refine wpOp_run rfl rfl (fun K hK => ?_)
      obtain ⟨c1, c2⟩ := h.cc.cell
      go_simp
      refine hK _ _ ⟨l0, l1, l2, l3, true, l5, l6, l7, l8, l9, l10, l11, _, _, _, _, _, _, _, _, _, rfl, rfl, ?_⟩
      exact
        { bel := h.bel
          cc := h.cc
          ld0 := h.ld0
          ld1 := h.ld1
          ld2 := fun _ => rfl
          cl0 := h.cl0
          cl1 := h.cl1
          cl2 := h.cl2
          bk0 := h.bk0
          bk1 := h.bk1
          bk2 := h.bk2
          st0 := h.st0
          st1 := h.st1
          st2 := h.st2 }
    | 5, hi, _ =>
      have hr := ready_dep hi rfl
      have hme : l5 = false := hr.1
      have hd : l4 = true ∧ l5 = false := ⟨hr.2 ⟨4, .data⟩ (by simp) (by kernel_rfl), hme⟩
      clear hr hi
      obtain rfl := h.ld2 hd.1
      refine wpOp_run rfl rfl (fun K hK => ?_)
      go_simp
      go_at_call 104
      refine (pairLayer_any b _).mono ?_
      rintro e w2 ⟨k2, rfl, hk2, hs2⟩
      have h2 := h.below hs2
      refine hK _ _ ⟨l0, l1, l2, l3, l4, true, l6, l7, l8, l9, l10, l11, _, _, _, _, _, _, _, _, _, rfl, rfl, ?_⟩
      exact
        { bel := h2.bel
          cc := h2.cc
          ld0 := h2.ld0
          ld1 := h2.ld1
          ld2 := h2.ld2
          cl0 := h2.cl0
          cl1 := h2.cl1
          cl2 := fun _ => ⟨_, rfl, hk2⟩
          bk0 := h2.bk0
          bk1 := h2.bk1
          bk2 := fun e => (by
              obtain ⟨k, u, g1, g2, g3, g4⟩ := h2.bk2 e
              exact ⟨k, u, g1, g2, g3, fun e1 => absurd ((h2.st2 e1).1) (by rw [hd.2]; decide)⟩)
          st0 := h2.st0
          st1 := h2.st1
          st2 := fun e => ⟨rfl, (h2.st2 e).2⟩ }
    | 6, hi, _ =>
      have hr := ready_dep hi rfl
      have hme : l6 = false := hr.1
      clear hr hi
      refine wpOp_run rfl rfl (fun K hK => ?_)
      go_simp
      have h2 := h.below (below_alloc _ (.cells #[.nilFunc] 130))
      refine hK _ _ ⟨l0, l1, l2, l3, l4, l5, true, l7, l8, l9, l10, l11, _, _, _, _, _, _, _, _, _, rfl, rfl, ?_⟩
      exact
        { bel := h2.bel
          cc := h2.cc
          ld0 := h2.ld0
          ld1 := h2.ld1
          ld2 := h2.ld2
          cl0 := h2.cl0
          cl1 := h2.cl1
          cl2 := h2.cl2
          bk0 := fun _ => ⟨_, _, rfl, h.bel.size, cellT_alloc _ _ _, fun e1 => absurd ((h.st0 e1).2) (by rw [hme]; decide)⟩
          bk1 := h2.bk1
          bk2 := h2.bk2
          st0 := fun e => ⟨(h2.st0 e).1, rfl⟩
          st1 := h2.st1
          st2 := h2.st2 }
    | 7, hi, _ =>
      have hr := ready_dep hi rfl
      have hme : l7 = false := hr.1
      clear hr hi
      refine wpOp_run rfl rfl (fun K hK => ?_)
      go_simp
      have h2 := h.below (below_alloc _ (.cells #[.nilFunc] 132))
      refine hK _ _ ⟨l0, l1, l2, l3, l4, l5, l6, true, l8, l9, l10, l11, _, _, _, _, _, _, _, _, _, rfl, rfl, ?_⟩
      exact
        { bel := h2.bel
          cc := h2.cc
          ld0 := h2.ld0
          ld1 := h2.ld1
          ld2 := h2.ld2
          cl0 := h2.cl0
          cl1 := h2.cl1
          cl2 := h2.cl2
          bk0 := h2.bk0
          bk1 := fun _ => ⟨_, _, rfl, h.bel.size, cellT_alloc _ _ _, fun e1 => absurd ((h.st1 e1).2) (by rw [hme]; decide)⟩
          bk2 := h2.bk2
          st0 := h2.st0
          st1 := fun e => ⟨(h2.st1 e).1, rfl⟩
          st2 := h2.st2 }
    | 8, hi, _ =>
      have hr := ready_dep hi rfl
      have hme : l8 = false := hr.1
      clear hr hi
      refine wpOp_run rfl rfl (fun K hK => ?_)
      go_simp
      have h2 := h.below (below_alloc _ (.cells #[.nilFunc] 105))
      refine hK _ _ ⟨l0, l1, l2, l3, l4, l5, l6, l7, true, l9, l10, l11, _, _, _, _, _, _, _, _, _, rfl, rfl, ?_⟩
      exact
        { bel := h2.bel
          cc := h2.cc
          ld0 := h2.ld0
          ld1 := h2.ld1
          ld2 := h2.ld2
          cl0 := h2.cl0
          cl1 := h2.cl1
          cl2 := h2.cl2
          bk0 := h2.bk0
          bk1 := h2.bk1
          bk2 := fun _ => ⟨_, _, rfl, h.bel.size, cellT_alloc _ _ _, fun e1 => absurd ((h.st2 e1).2) (by rw [hme]; decide)⟩
          st0 := h2.st0
          st1 := h2.st1
          st2 := fun e => ⟨(h2.st2 e).1, rfl⟩ }
    | 9, hi, _ =>
      have hr := ready_dep hi rfl
      have hme : l9 = false := hr.1
      have hd : l6 = true ∧ l1 = true := ⟨hr.2 ⟨6, .data⟩ (by simp) (by kernel_rfl), hr.2 ⟨1, .data⟩ (by simp) (by kernel_rfl)⟩
      clear hr hi
      obtain ⟨k3, u3, rfl, hk3, hc3, _⟩ := h.bk0 hd.1
      obtain ⟨c1, c2⟩ := hc3.cell
      have c3 := hc3.frozen
      have hv := h.cl0 hd.2
      have hv' := hv
      obtain ⟨q0, rfl, q1⟩ := hv'
      refine wpOp_run rfl rfl (fun K hK => ?_)
      go_simp
      refine hK _ _ ⟨l0, l1, l2, l3, l4, l5, l6, l7, l8, true, l10, l11, _, _, _, _, _, _, _, _, _, rfl, rfl, ?_⟩
      exact
        { bel := h.bel.setCell hk3 _
          cc := hc3.set h.cc (by decide)
          ld0 := h.ld0
          ld1 := h.ld1
          ld2 := h.ld2
          cl0 := fun e => (h.cl0 e).set hc3 (by decide)
          cl1 := fun e => (h.cl1 e).set hc3 (by decide)
          cl2 := fun e => (h.cl2 e).set hc3 (by decide)
          bk0 := fun e => ⟨_, _, rfl, hk3, hc3.self, fun _ => rfl⟩
          bk1 := fun e => (by
              obtain ⟨k, u, g1, g2, g3, g4⟩ := h.bk1 e
              exact ⟨k, u, g1, g2, hc3.set g3 (by decide), g4⟩)
          bk2 := fun e => (by
              obtain ⟨k, u, g1, g2, g3, g4⟩ := h.bk2 e
              exact ⟨k, u, g1, g2, hc3.set g3 (by decide), g4⟩)
          st0 := fun _ => ⟨hd.2, hd.1⟩
          st1 := h.st1
          st2 := h.st2 }
    | 10, hi, _ =>
      have hr := ready_dep hi rfl
      have hme : l10 = false := hr.1
      have hd : l7 = true ∧ l3 = true := ⟨hr.2 ⟨7, .data⟩ (by simp) (by kernel_rfl), hr.2 ⟨3, .data⟩ (by simp) (by kernel_rfl)⟩
      clear hr hi
      obtain ⟨k3, u3, rfl, hk3, hc3, _⟩ := h.bk1 hd.1
      obtain ⟨c1, c2⟩ := hc3.cell
      have c3 := hc3.frozen
      have hv := h.cl1 hd.2
      have hv' := hv
      obtain ⟨q0, rfl, q1⟩ := hv'
      refine wpOp_run rfl rfl (fun K hK => ?_)
      go_simp
      refine hK _ _ ⟨l0, l1, l2, l3, l4, l5, l6, l7, l8, l9, true, l11, _, _, _, _, _, _, _, _, _, rfl, rfl, ?_⟩
      exact
        { bel := h.bel.setCell hk3 _
          cc := hc3.set h.cc (by decide)
          ld0 := h.ld0
          ld1 := h.ld1
          ld2 := h.ld2
          cl0 := fun e => (h.cl0 e).set hc3 (by decide)
          cl1 := fun e => (h.cl1 e).set hc3 (by decide)
          cl2 := fun e => (h.cl2 e).set hc3 (by decide)
          bk0 := fun e => (by
              obtain ⟨k, u, g1, g2, g3, g4⟩ := h.bk0 e
              exact ⟨k, u, g1, g2, hc3.set g3 (by decide), g4⟩)
          bk1 := fun e => ⟨_, _, rfl, hk3, hc3.self, fun _ => rfl⟩
          bk2 := fun e => (by
              obtain ⟨k, u, g1, g2, g3, g4⟩ := h.bk2 e
              exact ⟨k, u, g1, g2, hc3.set g3 (by decide), g4⟩)
          st0 := h.st0
          st1 := fun _ => ⟨hd.2, hd.1⟩
          st2 := h.st2 }
    | 11, hi, _ =>
      have hr := ready_dep hi rfl
      have hme : l11 = false := hr.1
      have hd : l8 = true ∧ l5 = true := ⟨hr.2 ⟨8, .data⟩ (by simp) (by kernel_rfl), hr.2 ⟨5, .data⟩ (by simp) (by kernel_rfl)⟩
      clear hr hi
      obtain ⟨k3, u3, rfl, hk3, hc3, _⟩ := h.bk2 hd.1
      obtain ⟨c1, c2⟩ := hc3.cell
      have c3 := hc3.frozen
      have hv := h.cl2 hd.2
      have hv' := hv
      obtain ⟨q0, rfl, q1⟩ := hv'
      refine wpOp_run rfl rfl (fun K hK => ?_)
      go_simp
      refine hK _ _ ⟨l0, l1, l2, l3, l4, l5, l6, l7, l8, l9, l10, true, _, _, _, _, _, _, _, _, _, rfl, rfl, ?_⟩
      exact
        { bel := h.bel.setCell hk3 _
          cc := hc3.set h.cc (by decide)
          ld0 := h.ld0
          ld1 := h.ld1
          ld2 := h.ld2
          cl0 := fun e => (h.cl0 e).set hc3 (by decide)
          cl1 := fun e => (h.cl1 e).set hc3 (by decide)
          cl2 := fun e => (h.cl2 e).set hc3 (by decide)
          bk0 := fun e => (by
              obtain ⟨k, u, g1, g2, g3, g4⟩ := h.bk0 e
              exact ⟨k, u, g1, g2, hc3.set g3 (by decide), g4⟩)
          bk1 := fun e => (by
              obtain ⟨k, u, g1, g2, g3, g4⟩ := h.bk1 e
              exact ⟨k, u, g1, g2, hc3.set g3 (by decide), g4⟩)
          bk2 := fun e => ⟨_, _, rfl, hk3, hc3.self, fun _ => rfl⟩
          st0 := h.st0
          st1 := h.st1
          st2 := fun _ => ⟨hd.2, hd.1⟩ }
  case done =>
    rintro l a w1 ⟨l0, l1, l2, l3, l4, l5, l6, l7, l8, l9, l10, l11, s0, s1, s2, s3, s4, s5, s6, s7, s8, rfl, rfl, h⟩ hr
    cases l0
    · exact (ready_none hr 0 rfl rfl rfl).elim
    cases l1
    · exact (ready_none hr 1 rfl rfl rfl).elim
    cases l2
    · exact (ready_none hr 2 rfl rfl rfl).elim
    cases l3
    · exact (ready_none hr 3 rfl rfl rfl).elim
    cases l4
    · exact (ready_none hr 4 rfl rfl rfl).elim
    cases l5
    · exact (ready_none hr 5 rfl rfl rfl).elim
    cases l6
    · exact (ready_none hr 6 rfl rfl rfl).elim
    cases l7
    · exact (ready_none hr 7 rfl rfl rfl).elim
    cases l8
    · exact (ready_none hr 8 rfl rfl rfl).elim
    cases l9
    · exact (ready_none hr 9 rfl rfl rfl).elim
    cases l10
    · exact (ready_none hr 10 rfl rfl rfl).elim
    cases l11
    · exact (ready_none hr 11 rfl rfl rfl).elim
    have hv0 := h.cl0 rfl
    obtain ⟨k0, u0, rfl, _, hk0, hu0⟩ := h.bk0 rfl
    obtain rfl := hu0 rfl
    obtain rfl := h.ld0 rfl
    have hv1 := h.cl1 rfl
    obtain ⟨k1, u1, rfl, _, hk1, hu1⟩ := h.bk1 rfl
    obtain rfl := hu1 rfl
    obtain rfl := h.ld1 rfl
    have hv2 := h.cl2 rfl
    obtain ⟨k2, u2, rfl, _, hk2, hu2⟩ := h.bk2 rfl
    obtain rfl := hu2 rfl
    obtain rfl := h.ld2 rfl
    clear hr
    have HBA : Hid (Below w.heap.size w w1) := HB0.out.trans (h.bel.mono HB0.out.size)
    have HKA : Hid (CellT w1 (w.heap.size + 1) 3 (.int .i64 k)) := CellT.below HK0.out h.bel
    have HA0 : Hid (CellT w1 k0 130 u0 ∧ BitsV w1 u0 b) := ⟨hk0, hv0⟩
    have HA1 : Hid (CellT w1 k1 132 u1 ∧ NotsV w1 u1 b) := ⟨hk1, hv1⟩
    have HA2 : Hid (CellT w1 k2 105 u2 ∧ PairsV w1 u2 b) := ⟨hk2, hv2⟩
    have HCA : Hid (CellT w1 w.heap.size 118 (.pointer (some ⟨b, 0, none⟩))) := h.cc
    clear h hk0 hk1 hk2 hv0 hv1 hv2 hu0 hu1 hu2 HC0 HK0 HB0 HC HK hw0
    go_wp2_with fail
    refine wp_region_any (by kernel_rfl) ?_
    change wpAny _ _ _ _ _ _ _ (World.drew _)
    obtain ⟨w2, hw2⟩ : ∃ w2, w1.drew = w2 := ⟨_, rfl⟩
    rw [hw2]
    have HC0 : Hid (CellT w2 w.heap.size 118 (.pointer (some ⟨b, 0, none⟩))) := by
      rw [← hw2]
      exact HCA.out
    refine wpAny_inv (fun l a w' => ∃ (l0 l1 l2 l3 l4 l5 l6 l7 : Bool) (s0 s1 s2 s3 s4 s5 : Value), l = #[l0, l1, l2, l3, l4, l5, l6, l7] ∧ a = { tmps := #[.pointer (some ⟨b, 0, none⟩), .int .i64 k, .pointer (some ⟨w.heap.size, 0, none⟩), .pointer (some ⟨w.heap.size + 1, 0, none⟩), .nilFunc, .pointer (some ⟨k0, 0, none⟩), .pointer (some ⟨k1, 0, none⟩), .pointer (some ⟨k2, 0, none⟩), s4, s5, .pointer (some ⟨b, 0, none⟩), u0, .pointer (some ⟨b, 0, none⟩), u1, .pointer (some ⟨b, 0, none⟩), u2, s0, s2, s1, s3, undef], defers := [] } ∧ Reg2 b (w.heap.size) w2 w' l0 l1 l2 l3 l4 l5 l6 l7 s0 s1 s2 s3 s4 s5) ?done ?step 8 _ _ _ ⟨false, false, false, false, false, false, false, false, _, _, _, _, _, _, rfl, rfl, ?init⟩ (by decide)
    case init => exact { bel := Below.refl _ _, cc := HC0.out, ld0 := fun e => (by cases e), ld1 := fun e => (by cases e), cl0 := fun e => (by cases e), cl1 := fun e => (by cases e), bk0 := fun e => (by cases e), bk1 := fun e => (by cases e), st0 := fun e => (by cases e), st1 := fun e => (by cases e) }
    case step =>
      rintro l a w3 ⟨l0, l1, l2, l3, l4, l5, l6, l7, s0, s1, s2, s3, s4, s5, rfl, rfl, h⟩
      intro i hi
      have hlt := ready_lt hi
      match i, hi, hlt with
      | 0, hi, _ =>
        have hr := ready_dep hi rfl
        have hme : l0 = false := hr.1
        clear hr hi
        refine wpOp_run rfl rfl (fun K hK => ?_)
        obtain ⟨c1, c2⟩ := h.cc.cell
        go_simp
        refine hK _ _ ⟨true, l1, l2, l3, l4, l5, l6, l7, _, _, _, _, _, _, rfl, rfl, ?_⟩
        exact
          { bel := h.bel
            cc := h.cc
            ld0 := fun _ => rfl
            ld1 := h.ld1
            cl0 := h.cl0
            cl1 := h.cl1
            bk0 := h.bk0
            bk1 := h.bk1
            st0 := h.st0
            st1 := h.st1 }
      | 1, hi, _ =>
        have hr := ready_dep hi rfl
        have hme : l1 = false := hr.1
        have hd : l0 = true ∧ l1 = false := ⟨hr.2 ⟨0, .data⟩ (by simp) (by kernel_rfl), hme⟩
        clear hr hi
        obtain rfl := h.ld0 hd.1
        refine wpOp_run rfl rfl (fun K hK => ?_)
        go_simp
        go_at_call 105
        refine (timesLayer_any b _).mono ?_
        rintro e w2 ⟨v2, rfl, hv2, hs2⟩
        have h2 := h.below hs2
        refine hK _ _ ⟨l0, true, l2, l3, l4, l5, l6, l7, _, _, _, _, _, _, rfl, rfl, ?_⟩
        exact
          { bel := h2.bel
            cc := h2.cc
            ld0 := h2.ld0
            ld1 := h2.ld1
            cl0 := fun _ => hv2
            cl1 := h2.cl1
            bk0 := fun e => (by
                obtain ⟨k, u, g1, g2, g3, g4⟩ := h2.bk0 e
                exact ⟨k, u, g1, g2, g3, fun e1 => absurd ((h2.st0 e1).1) (by rw [hd.2]; decide)⟩)
            bk1 := h2.bk1
            st0 := fun e => ⟨rfl, (h2.st0 e).2⟩
            st1 := h2.st1 }
      | 2, hi, _ =>
        have hr := ready_dep hi rfl
        have hme : l2 = false := hr.1
        clear hr hi
        refine wpOp_run rfl rfl (fun K hK => ?_)
        obtain ⟨c1, c2⟩ := h.cc.cell
        go_simp
        refine hK _ _ ⟨l0, l1, true, l3, l4, l5, l6, l7, _, _, _, _, _, _, rfl, rfl, ?_⟩
        exact
          { bel := h.bel
            cc := h.cc
            ld0 := h.ld0
            ld1 := fun _ => rfl
            cl0 := h.cl0
            cl1 := h.cl1
            bk0 := h.bk0
            bk1 := h.bk1
            st0 := h.st0
            st1 := h.st1 }
      | 3, hi, _ =>
        have hr := ready_dep hi rfl
        have hme : l3 = false := hr.1
        have hd : l2 = true ∧ l3 = false := ⟨hr.2 ⟨2, .data⟩ (by simp) (by kernel_rfl), hme⟩
        clear hr hi
        obtain rfl := h.ld1 hd.1
        refine wpOp_run rfl rfl (fun K hK => ?_)
        go_simp
        go_at_call 106
        refine (lessLayer_any b _).mono ?_
        rintro e w2 ⟨v2, rfl, hv2, hs2⟩
        have h2 := h.below hs2
        refine hK _ _ ⟨l0, l1, l2, true, l4, l5, l6, l7, _, _, _, _, _, _, rfl, rfl, ?_⟩
        exact
          { bel := h2.bel
            cc := h2.cc
            ld0 := h2.ld0
            ld1 := h2.ld1
            cl0 := h2.cl0
            cl1 := fun _ => hv2
            bk0 := h2.bk0
            bk1 := fun e => (by
                obtain ⟨k, u, g1, g2, g3, g4⟩ := h2.bk1 e
                exact ⟨k, u, g1, g2, g3, fun e1 => absurd ((h2.st1 e1).1) (by rw [hd.2]; decide)⟩)
            st0 := h2.st0
            st1 := fun e => ⟨rfl, (h2.st1 e).2⟩ }
      | 4, hi, _ =>
        have hr := ready_dep hi rfl
        have hme : l4 = false := hr.1
        clear hr hi
        refine wpOp_run rfl rfl (fun K hK => ?_)
        go_simp
        have h2 := h.below (below_alloc _ (.cells #[.nilFunc] 128))
        refine hK _ _ ⟨l0, l1, l2, l3, true, l5, l6, l7, _, _, _, _, _, _, rfl, rfl, ?_⟩
        exact
          { bel := h2.bel
            cc := h2.cc
            ld0 := h2.ld0
            ld1 := h2.ld1
            cl0 := h2.cl0
            cl1 := h2.cl1
            bk0 := fun _ => ⟨_, _, rfl, h.bel.size, cellT_alloc _ _ _, fun e1 => absurd ((h.st0 e1).2) (by rw [hme]; decide)⟩
            bk1 := h2.bk1
            st0 := fun e => ⟨(h2.st0 e).1, rfl⟩
            st1 := h2.st1 }
      | 5, hi, _ =>
        have hr := ready_dep hi rfl
        have hme : l5 = false := hr.1
        clear hr hi
        refine wpOp_run rfl rfl (fun K hK => ?_)
        go_simp
        have h2 := h.below (below_alloc _ (.cells #[.nilFunc] 129))
        refine hK _ _ ⟨l0, l1, l2, l3, l4, true, l6, l7, _, _, _, _, _, _, rfl, rfl, ?_⟩
        exact
          { bel := h2.bel
            cc := h2.cc
            ld0 := h2.ld0
            ld1 := h2.ld1
            cl0 := h2.cl0
            cl1 := h2.cl1
            bk0 := h2.bk0
            bk1 := fun _ => ⟨_, _, rfl, h.bel.size, cellT_alloc _ _ _, fun e1 => absurd ((h.st1 e1).2) (by rw [hme]; decide)⟩
            st0 := h2.st0
            st1 := fun e => ⟨(h2.st1 e).1, rfl⟩ }
      | 6, hi, _ =>
        have hr := ready_dep hi rfl
        have hme : l6 = false := hr.1
        have hd : l4 = true ∧ l1 = true := ⟨hr.2 ⟨4, .data⟩ (by simp) (by kernel_rfl), hr.2 ⟨1, .data⟩ (by simp) (by kernel_rfl)⟩
        clear hr hi
        obtain ⟨k3, u3, rfl, hk3, hc3, _⟩ := h.bk0 hd.1
        obtain ⟨c1, c2⟩ := hc3.cell
        have c3 := hc3.frozen
        have hv := h.cl0 hd.2
        have hv' := hv
        obtain ⟨q0, q1, q2, rfl, q3⟩ := hv'
        refine wpOp_run rfl rfl (fun K hK => ?_)
        go_simp
        refine hK _ _ ⟨l0, l1, l2, l3, l4, l5, true, l7, _, _, _, _, _, _, rfl, rfl, ?_⟩
        exact
          { bel := h.bel.setCell hk3 _
            cc := hc3.set h.cc (by decide)
            ld0 := h.ld0
            ld1 := h.ld1
            cl0 := fun e => (h.cl0 e).set hc3 (by decide) (by decide)
            cl1 := fun e => (h.cl1 e).set hc3 (by decide) (by decide)
            bk0 := fun e => ⟨_, _, rfl, hk3, hc3.self, fun _ => rfl⟩
            bk1 := fun e => (by
                obtain ⟨k, u, g1, g2, g3, g4⟩ := h.bk1 e
                exact ⟨k, u, g1, g2, hc3.set g3 (by decide), g4⟩)
            st0 := fun _ => ⟨hd.2, hd.1⟩
            st1 := h.st1 }
      | 7, hi, _ =>
        have hr := ready_dep hi rfl
        have hme : l7 = false := hr.1
        have hd : l5 = true ∧ l3 = true := ⟨hr.2 ⟨5, .data⟩ (by simp) (by kernel_rfl), hr.2 ⟨3, .data⟩ (by simp) (by kernel_rfl)⟩
        clear hr hi
        obtain ⟨k3, u3, rfl, hk3, hc3, _⟩ := h.bk1 hd.1
        obtain ⟨c1, c2⟩ := hc3.cell
        have c3 := hc3.frozen
        have hv := h.cl1 hd.2
        have hv' := hv
        obtain ⟨q0, q1, q2, rfl, q3⟩ := hv'
        refine wpOp_run rfl rfl (fun K hK => ?_)
        go_simp
        refine hK _ _ ⟨l0, l1, l2, l3, l4, l5, l6, true, _, _, _, _, _, _, rfl, rfl, ?_⟩
        exact
          { bel := h.bel.setCell hk3 _
            cc := hc3.set h.cc (by decide)
            ld0 := h.ld0
            ld1 := h.ld1
            cl0 := fun e => (h.cl0 e).set hc3 (by decide) (by decide)
            cl1 := fun e => (h.cl1 e).set hc3 (by decide) (by decide)
            bk0 := fun e => (by
                obtain ⟨k, u, g1, g2, g3, g4⟩ := h.bk0 e
                exact ⟨k, u, g1, g2, hc3.set g3 (by decide), g4⟩)
            bk1 := fun e => ⟨_, _, rfl, hk3, hc3.self, fun _ => rfl⟩
            st0 := h.st0
            st1 := fun _ => ⟨hd.2, hd.1⟩ }
    case done =>
      rintro l a w3 ⟨l0, l1, l2, l3, l4, l5, l6, l7, s0, s1, s2, s3, s4, s5, rfl, rfl, h⟩ hr
      cases l0
      · exact (ready_none hr 0 rfl rfl rfl).elim
      cases l1
      · exact (ready_none hr 1 rfl rfl rfl).elim
      cases l2
      · exact (ready_none hr 2 rfl rfl rfl).elim
      cases l3
      · exact (ready_none hr 3 rfl rfl rfl).elim
      cases l4
      · exact (ready_none hr 4 rfl rfl rfl).elim
      cases l5
      · exact (ready_none hr 5 rfl rfl rfl).elim
      cases l6
      · exact (ready_none hr 6 rfl rfl rfl).elim
      cases l7
      · exact (ready_none hr 7 rfl rfl rfl).elim
      have hv0 := h.cl0 rfl
      obtain ⟨k0_1, u0_1, rfl, _, hk0, hu0⟩ := h.bk0 rfl
      obtain rfl := hu0 rfl
      obtain rfl := h.ld0 rfl
      have hv1 := h.cl1 rfl
      obtain ⟨k1_1, u1_1, rfl, _, hk1, hu1⟩ := h.bk1 rfl
      obtain rfl := hu1 rfl
      obtain rfl := h.ld1 rfl
      clear hr
      have hA : Below w1.heap.size w1 w3 := by
        have h1 := h.bel
        rw [← hw2] at h1
        exact ⟨h1.os, h1.tape, h1.output, h1.size, h1.block⟩
      have HF : Hid (Below w.heap.size w w3) := HBA.out.trans (hA.mono HBA.out.size)
      have HN : Hid (NodeV w3 (.func (.func 107) #[] #[.pointer (some ⟨w.heap.size + 1, 0, none⟩), .pointer (some ⟨k0, 0, none⟩), .pointer (some ⟨k1, 0, none⟩), .pointer (some ⟨k2, 0, none⟩), .pointer (some ⟨w.heap.size, 0, none⟩), .pointer (some ⟨k0_1, 0, none⟩), .pointer (some ⟨k1_1, 0, none⟩)]) b k) :=
        ⟨_, _, _, _, _, _, _, _, _, _, _, _, rfl, CellT.below HKA.out hA, ⟨CellT.below HA0.out.1 hA, BitsV.below HA0.out.2 hA⟩, ⟨CellT.below HA1.out.1 hA, NotsV.below HA1.out.2 hA⟩, ⟨CellT.below HA2.out.1 hA, PairsV.below HA2.out.2 hA⟩, h.cc, ⟨hk0, hv0⟩, hk1, hv1⟩
      clear h hA hk0 hk1 hv0 hv1 hu0 hu1
      go_wp2_with fail
      go_ret
      exact ⟨_, rfl, HN.out, HF.out⟩
end Go.Proofs.YtpjllhlbdcanlaaDoor

namespace Go.Proofs.YtpjllhlbdcanlaaDoor
open Go Go.RowKit
open M
set_option linter.unusedVariables false
set_option linter.unusedSimpArgs false

set_option maxRecDepth 100000 in
set_option maxHeartbeats 8000000 in
theorem varWires_any (k : Nat) (hk : k ≤ 4) (v : Nat) (hv : v ≤ 4) (w : World) :
    Calls Tryd.prog 108 #[.int .i64 k, .int .u64 (v : Int)] w fun e w' => ∃ r, e = .returned r ∧ w'.ownsRow w.heap.size 3 1 r k (cellsI (wiresF ((v : Int) * k) k)) ∧ Below w.heap.size w w' := by
  obtain ⟨i0, hif, hz0, hz1, hz2⟩ := info_parts infoInt
  obtain ⟨M, hM⟩ : ∃ M : Int, (v : Int) * (k : Int) = M := ⟨_, rfl⟩
  rw [hM]
  have hM0 : 0 ≤ M := by rw [← hM]; exact Int.mul_nonneg (by omega) (by omega)
  have hM1 : M ≤ 16 := by
    rw [← hM]
    have : v * k ≤ 4 * 4 := Nat.mul_le_mul hv hk
    have e : (v : Int) * (k : Int) = ((v * k : Nat) : Int) := (Int.natCast_mul v k).symm
    omega
  go_enter Tryd.func108, Tryd.ntmps108
  go_wp2_with fail
  go_loopw [5, 8] (fun vs i wr => ∃ j : Nat, j ≤ k ∧ i = .int .i64 j ∧ Hid (wr.ownsRow w.heap.size 3 1 vs j (cellsI (wiresF M j))) ∧ Hid (Below w.heap.size w wr)) (fun _ i _ => k - (intOf i).toNat)
  case atStart => exact ⟨0, by omega, rfl, World.ownsRow_nil _ _ _ _, Below.refl _ _⟩
  case round =>
    obtain ⟨j, hj, rfl, OW, HB⟩ := hrel
    by_cases hlt : j < k
    · obtain ⟨va, vc, hv0⟩ := own_shape OW.out
      subst hv0
      obtain ⟨S0, hS0⟩ : ∃ S0 : Int, M + (j : Int) = S0 := ⟨_, rfl⟩
      have HNS : Hid (wiresF M (j + 1) = wiresF M j ++ [S0]) := by
        show wiresF M (j + 1) = _
        rw [wiresF_snoc, hS0]
      have own6 := World.ownsRow.alloc OW.out (.cells #[.int .i64 S0] 3)
      have hb6 : Below w.heap.size w (wr.alloc (.cells #[.int .i64 S0] 3)) := HB.out.alloc HB.out.size _
      have hs6 := hb6.size
      have hjA : (j : Int) < (k : Int) := by omega
      clear OW HB
      go_wp2_with (at_builtin; refine wpList_append_own _ rfl _ _ 39 rfl w.heap.size 3 i0 (.int .i64 0) 1 8 Tryd.underlying39 hif hz0 hz1 hz2 rfl (by decide) _ _ _ rfl own6 ⟨wr.heap.size, 0, none⟩ 1 1 [.int .i64 S0] rfl rfl (oneI_cells wr S0) (ints_one [S0]) (by unfold maxLen; omega) (by omega) hs6 ?_)
      intro v7 w7 own7 grow7 _
      have HB7 : Hid (Below w.heap.size w w7) := below_app hb6 (by omega) (Nat.le_refl _) own6 grow7
      have HS7 : Hid (w7.ownsRow w.heap.size 3 1 v7 (j + 1) (cellsI (wiresF M (j + 1)))) := by
        show w7.ownsRow w.heap.size 3 1 v7 (j + 1) (cellsI (wiresF M (j + 1)))
        rw [HNS.out]
        unfold cellsI
        rw [List.map_append]
        exact own7
      clear own6 own7 grow7 hb6 HNS
      go_wp2_with fail
      go_roundw
      case rel => exact ⟨j + 1, by omega, by go_num, HS7, HB7⟩
      case measure => simp [intOf]; omega
    · obtain rfl : j = k := by omega
      go_wp2_with fail
      go_ret
      exact ⟨_, rfl, OW.out, HB.out⟩
end Go.Proofs.YtpjllhlbdcanlaaDoor

namespace Go.Proofs.YtpjllhlbdcanlaaDoor
open Go Go.RowKit
open M
set_option linter.unusedVariables false
set_option linter.unusedSimpArgs false

/-- the captured variables of the function value that lays a node's gates -/
def NodeC (w : World) (b k cw c0 c1 c2 cb c3 c4 : Nat) : Prop := ∃ bv nv pv tv lv,
  CellT w cw 3 (.int .i64 k) ∧ (CellT w c0 130 bv ∧ BitsV w bv b) ∧ (CellT w c1 132 nv ∧ NotsV w nv b) ∧ (CellT w c2 105 pv ∧ PairsV w pv b) ∧ CellT w cb 118 (.pointer (some ⟨b, 0, none⟩)) ∧ (CellT w c3 128 tv ∧ TimesV w tv b) ∧ (CellT w c4 129 lv ∧ LessV w lv b)
theorem NodeV.opened {w : World} {v : Value} {b k : Nat} (h : NodeV w v b k) : ∃ cw c0 c1 c2 cb c3 c4, v = .func (.func 107) #[] #[.pointer (some ⟨cw, 0, none⟩), .pointer (some ⟨c0, 0, none⟩), .pointer (some ⟨c1, 0, none⟩), .pointer (some ⟨c2, 0, none⟩), .pointer (some ⟨cb, 0, none⟩), .pointer (some ⟨c3, 0, none⟩), .pointer (some ⟨c4, 0, none⟩)] ∧ NodeC w b k cw c0 c1 c2 cb c3 c4 := by
  obtain ⟨cw, c0, c1, c2, cb, c3, c4, bv, nv, pv, tv, lv, h0, h1⟩ := h
  exact ⟨cw, c0, c1, c2, cb, c3, c4, h0, bv, nv, pv, tv, lv, h1⟩
/-- what laying a node leaves: its wires, the circuit with its gates -/
def NodeOut (lo hi b : Nat) (ins : Int) (gs : List Gt) (os : List Int) (w : World) (R : List Gt × List Int) (e : Ending) (w' : World) : Prop :=
  ∃ r, e = .returned r ∧ w'.ownsRow w.heap.size 3 1 r R.2.length (cellsI R.2) ∧ Bld w' lo hi b 41 (ins, gs ++ R.1, os) ∧ Fr lo w w'
theorem one_own (w : World) (x : Int) (B : Nat) (hB : B ≤ w.heap.size) : (w.alloc (.cells #[.int .i64 x] 3)).ownsRow B 3 1 (.slice (some ⟨w.heap.size, 0, none⟩) 1 1) 1 (cellsI [x]) :=
  ⟨by simp [cellsI], Or.inr ⟨w.heap.size, 1, _, rfl, hB, cellT_alloc _ _ _, by omega, by unfold maxLen; omega, by simp, by simp [cellsI]⟩⟩
set_option maxRecDepth 100000 in
set_option maxHeartbeats 8000000 in
theorem iNode_var (lo hi b wide cw c0 c1 c2 cb c3 c4 : Nat) (hw1 : 1 ≤ wide) (hw4 : wide ≤ 4) (ins : Int) (gs : List Gt) (os : List Int) (n : Int) (av bv : Value) (a bb : List Int) (N : Int) (hN : ins + gs.length = N) (hI0 : 0 ≤ ins) (hI1 : ins ≤ 16) (hn : gs.length ≤ 15000) (w : World) (h : Bld w lo hi b 41 (ins, gs, os)) (hhi : hi ≤ w.heap.size) (hC : NodeC w b wide cw c0 c1 c2 cb c3 c4) (v : Nat) (hv : v ≤ 4) (hnn : n = (v : Int))
    (hca : CapN av) (hcb : CapN bv) (ha : ∀ w', Fr lo w w' → IntsAt w' av a) (hb : ∀ w', Fr lo w w' → IntsAt w' bv bb) :
    Calls Tryd.prog 107 #[.agg #[.int .i64 2, .int .u64 n], av, bv, .pointer (some ⟨cw, 0, none⟩), .pointer (some ⟨c0, 0, none⟩), .pointer (some ⟨c1, 0, none⟩), .pointer (some ⟨c2, 0, none⟩), .pointer (some ⟨cb, 0, none⟩), .pointer (some ⟨c3, 0, none⟩), .pointer (some ⟨c4, 0, none⟩)] w (NodeOut lo hi b ins gs os w (([], wiresF (n * wide) wide))) := by
  obtain ⟨fv, nv, pv, tv, lv, HW, ⟨HF, hfv⟩, ⟨HNO, hnv⟩, ⟨HPA, hpv⟩, HCB, ⟨HT, htv⟩, HL, hlv⟩ := hC
  have hlo := h.size
  obtain ⟨aa, acap, hav, _⟩ := (ha w (Fr.refl _ _)).opened
  obtain ⟨ba, bcap, hbv, _⟩ := (hb w (Fr.refl _ _)).opened
  obtain ⟨lw, cw_⟩ := HW.cell
  obtain ⟨l0, c0_⟩ := HF.cell
  obtain ⟨l1, c1_⟩ := HNO.cell
  obtain ⟨l2, c2_⟩ := HPA.cell
  obtain ⟨lb, cb_⟩ := HCB.cell
  obtain ⟨l3, c3_⟩ := HT.cell
  obtain ⟨l4, c4_⟩ := HL.cell
  have hf0 : Fr lo w (w.alloc (.cells #[.int .i64 2, .int .u64 n] 80)) := (Fr.refl _ _).alloc hlo _
  obtain ⟨w0, hw0⟩ : ∃ w0, w.alloc (.cells #[.int .i64 2, .int .u64 n] 80) = w0 := ⟨_, rfl⟩
  have h0 : Bld w0 lo hi b 41 (ins, gs, os) := by rw [← hw0]; exact h.alloc _
  have hs0 : w.heap.size ≤ w0.heap.size := by rw [← hw0]; exact hf0.size
  have ha0 : ∀ w', Fr lo w0 w' → IntsAt w' av a := fun w' hf => ha w' (by rw [hw0] at hf0; exact hf0.trans hf)
  have hb0 : ∀ w', Fr lo w0 w' → IntsAt w' bv bb := fun w' hf => hb w' (by rw [hw0] at hf0; exact hf0.trans hf)
  have HF0 : Hid (Fr lo w w0) := by rw [← hw0]; exact hf0
  have HW0 : Hid (w.alloc (.cells #[.int .i64 2, .int .u64 n] 80) = w0) := hw0
  clear hw0
  have g := varWires_any wide hw4 v hv w0
  rw [← hnn] at g
  clear hnn
  clear ha hb h HW HF HNO HPA HCB HT HL hf0 ha0 hb0
  subst hav hbv
  have HB0 : Hid _ := h0
  clear h0
  go_enter Tryd.func107, Tryd.ntmps107
  go_wp2_with fail
  rw [HW0.out]
  refine g.mono ?_
  rintro e w1 ⟨r, rfl, o, bl⟩
  have O1 : Hid (w1.ownsRow w.heap.size 3 1 r wide (cellsI (wiresF (n * wide) wide))) := own_base o hs0
  have B1 : Hid (Bld w1 lo hi b 41 (ins, gs, os)) := Bld.bel HB0.out bl
  have F1 : Hid (Fr lo w w1) := HF0.out.trans ⟨bl.mono (Nat.le_trans hlo hs0), KeepC.below bl⟩
  clear g o bl
  go_wp2_with fail
  go_ret
  refine ⟨_, rfl, ?_, ?_, F1.out⟩
  · rw [wiresF_len]; exact O1.out
  · rw [List.append_nil]; exact B1.out
set_option maxRecDepth 100000 in
set_option maxHeartbeats 8000000 in
theorem iNode_num (lo hi b wide cw c0 c1 c2 cb c3 c4 : Nat) (hw1 : 1 ≤ wide) (hw4 : wide ≤ 4) (ins : Int) (gs : List Gt) (os : List Int) (n : Int) (av bv : Value) (a bb : List Int) (N : Int) (hN : ins + gs.length = N) (hI0 : 0 ≤ ins) (hI1 : ins ≤ 16) (hn : gs.length ≤ 15000) (w : World) (h : Bld w lo hi b 41 (ins, gs, os)) (hhi : hi ≤ w.heap.size) (hC : NodeC w b wide cw c0 c1 c2 cb c3 c4) (hn0 : 0 ≤ n) (hn1 : n ≤ 18446744073709551615)
    (hca : CapN av) (hcb : CapN bv) (ha : ∀ w', Fr lo w w' → IntsAt w' av a) (hb : ∀ w', Fr lo w w' → IntsAt w' bv bb) :
    Calls Tryd.prog 107 #[.agg #[.int .i64 1, .int .u64 n], av, bv, .pointer (some ⟨cw, 0, none⟩), .pointer (some ⟨c0, 0, none⟩), .pointer (some ⟨c1, 0, none⟩), .pointer (some ⟨c2, 0, none⟩), .pointer (some ⟨cb, 0, none⟩), .pointer (some ⟨c3, 0, none⟩), .pointer (some ⟨c4, 0, none⟩)] w (NodeOut lo hi b ins gs os w ((bitsG n wide, wiresF N wide))) := by
  obtain ⟨fv, nv, pv, tv, lv, HW, ⟨HF, hfv⟩, ⟨HNO, hnv⟩, ⟨HPA, hpv⟩, HCB, ⟨HT, htv⟩, HL, hlv⟩ := hC
  have hlo := h.size
  obtain ⟨aa, acap, hav, _⟩ := (ha w (Fr.refl _ _)).opened
  obtain ⟨ba, bcap, hbv, _⟩ := (hb w (Fr.refl _ _)).opened
  obtain ⟨lw, cw_⟩ := HW.cell
  obtain ⟨l0, c0_⟩ := HF.cell
  obtain ⟨l1, c1_⟩ := HNO.cell
  obtain ⟨l2, c2_⟩ := HPA.cell
  obtain ⟨lb, cb_⟩ := HCB.cell
  obtain ⟨l3, c3_⟩ := HT.cell
  obtain ⟨l4, c4_⟩ := HL.cell
  have hf0 : Fr lo w (w.alloc (.cells #[.int .i64 1, .int .u64 n] 80)) := (Fr.refl _ _).alloc hlo _
  obtain ⟨w0, hw0⟩ : ∃ w0, w.alloc (.cells #[.int .i64 1, .int .u64 n] 80) = w0 := ⟨_, rfl⟩
  have h0 : Bld w0 lo hi b 41 (ins, gs, os) := by rw [← hw0]; exact h.alloc _
  have hs0 : w.heap.size ≤ w0.heap.size := by rw [← hw0]; exact hf0.size
  have ha0 : ∀ w', Fr lo w0 w' → IntsAt w' av a := fun w' hf => ha w' (by rw [hw0] at hf0; exact hf0.trans hf)
  have hb0 : ∀ w', Fr lo w0 w' → IntsAt w' bv bb := fun w' hf => hb w' (by rw [hw0] at hf0; exact hf0.trans hf)
  have HF0 : Hid (Fr lo w w0) := by rw [← hw0]; exact hf0
  have HW0 : Hid (w.alloc (.cells #[.int .i64 1, .int .u64 n] 80) = w0) := hw0
  clear hw0
  obtain ⟨kb, rfl, hkb⟩ := hfv
  have g := iBits5_any lo hi b kb ins gs os wide (by omega) n hn0 hn1 N hN hI0 hI1 (by omega) w0 h0 (by omega) (CellT.keep hkb (HF0.out).keep)
  clear ha hb h HW HF HNO HPA HCB HT HL hf0 ha0 hb0 h0
  subst hav hbv
  go_enter Tryd.func107, Tryd.ntmps107
  go_wp2_with fail
  rw [HW0.out]
  refine g.mono ?_
  rintro e w1 ⟨r, rfl, o, bl, fr⟩
  have O1 : Hid _ := o
  have B1 : Hid _ := bl
  have F1 : Hid (Fr lo w w1) := HF0.out.trans fr
  clear g o bl fr
  go_wp2_with fail
  go_ret
  exact ⟨_, rfl, (by rw [wiresF_len]; exact own_base O1.out hs0), B1.out, F1.out⟩
set_option maxRecDepth 100000 in
set_option maxHeartbeats 8000000 in
theorem iNode_yes (lo hi b wide cw c0 c1 c2 cb c3 c4 : Nat) (hw1 : 1 ≤ wide) (hw4 : wide ≤ 4) (ins : Int) (gs : List Gt) (os : List Int) (n : Int) (av bv : Value) (a bb : List Int) (N : Int) (hN : ins + gs.length = N) (hI0 : 0 ≤ ins) (hI1 : ins ≤ 16) (hn : gs.length ≤ 15000) (w : World) (h : Bld w lo hi b 41 (ins, gs, os)) (hhi : hi ≤ w.heap.size) (hC : NodeC w b wide cw c0 c1 c2 cb c3 c4) (hn0 : 0 ≤ n) (hn1 : n ≤ 18446744073709551615)
    (hca : CapN av) (hcb : CapN bv) (ha : ∀ w', Fr lo w w' → IntsAt w' av a) (hb : ∀ w', Fr lo w w' → IntsAt w' bv bb) :
    Calls Tryd.prog 107 #[.agg #[.int .i64 20, .int .u64 n], av, bv, .pointer (some ⟨cw, 0, none⟩), .pointer (some ⟨c0, 0, none⟩), .pointer (some ⟨c1, 0, none⟩), .pointer (some ⟨c2, 0, none⟩), .pointer (some ⟨cb, 0, none⟩), .pointer (some ⟨c3, 0, none⟩), .pointer (some ⟨c4, 0, none⟩)] w (NodeOut lo hi b ins gs os w ((bitsG n 1, wiresF N 1))) := by
  obtain ⟨fv, nv, pv, tv, lv, HW, ⟨HF, hfv⟩, ⟨HNO, hnv⟩, ⟨HPA, hpv⟩, HCB, ⟨HT, htv⟩, HL, hlv⟩ := hC
  have hlo := h.size
  obtain ⟨aa, acap, hav, _⟩ := (ha w (Fr.refl _ _)).opened
  obtain ⟨ba, bcap, hbv, _⟩ := (hb w (Fr.refl _ _)).opened
  obtain ⟨lw, cw_⟩ := HW.cell
  obtain ⟨l0, c0_⟩ := HF.cell
  obtain ⟨l1, c1_⟩ := HNO.cell
  obtain ⟨l2, c2_⟩ := HPA.cell
  obtain ⟨lb, cb_⟩ := HCB.cell
  obtain ⟨l3, c3_⟩ := HT.cell
  obtain ⟨l4, c4_⟩ := HL.cell
  have hf0 : Fr lo w (w.alloc (.cells #[.int .i64 20, .int .u64 n] 80)) := (Fr.refl _ _).alloc hlo _
  obtain ⟨w0, hw0⟩ : ∃ w0, w.alloc (.cells #[.int .i64 20, .int .u64 n] 80) = w0 := ⟨_, rfl⟩
  have h0 : Bld w0 lo hi b 41 (ins, gs, os) := by rw [← hw0]; exact h.alloc _
  have hs0 : w.heap.size ≤ w0.heap.size := by rw [← hw0]; exact hf0.size
  have ha0 : ∀ w', Fr lo w0 w' → IntsAt w' av a := fun w' hf => ha w' (by rw [hw0] at hf0; exact hf0.trans hf)
  have hb0 : ∀ w', Fr lo w0 w' → IntsAt w' bv bb := fun w' hf => hb w' (by rw [hw0] at hf0; exact hf0.trans hf)
  have HF0 : Hid (Fr lo w w0) := by rw [← hw0]; exact hf0
  have HW0 : Hid (w.alloc (.cells #[.int .i64 20, .int .u64 n] 80) = w0) := hw0
  clear hw0
  obtain ⟨kb, rfl, hkb⟩ := hfv
  have g := iBits5_any lo hi b kb ins gs os 1 (by omega) n hn0 hn1 N hN hI0 hI1 (by omega) w0 h0 (by omega) (CellT.keep hkb (HF0.out).keep)
  clear ha hb h HW HF HNO HPA HCB HT HL hf0 ha0 hb0 h0
  subst hav hbv
  go_enter Tryd.func107, Tryd.ntmps107
  go_wp2_with fail
  rw [HW0.out]
  refine g.mono ?_
  rintro e w1 ⟨r, rfl, o, bl, fr⟩
  have O1 : Hid _ := o
  have B1 : Hid _ := bl
  have F1 : Hid (Fr lo w w1) := HF0.out.trans fr
  clear g o bl fr
  go_wp2_with fail
  go_ret
  exact ⟨_, rfl, (by rw [wiresF_len]; exact own_base O1.out hs0), B1.out, F1.out⟩
set_option maxRecDepth 100000 in
set_option maxHeartbeats 8000000 in
theorem iNode_flip (lo hi b wide cw c0 c1 c2 cb c3 c4 : Nat) (hw1 : 1 ≤ wide) (hw4 : wide ≤ 4) (ins : Int) (gs : List Gt) (os : List Int) (n : Int) (av bv : Value) (a bb : List Int) (N : Int) (hN : ins + gs.length = N) (hI0 : 0 ≤ ins) (hI1 : ins ≤ 16) (hn : gs.length ≤ 15000) (w : World) (h : Bld w lo hi b 41 (ins, gs, os)) (hhi : hi ≤ w.heap.size) (hC : NodeC w b wide cw c0 c1 c2 cb c3 c4) (hal : a.length ≤ 4)
    (hca : CapN av) (hcb : CapN bv) (ha : ∀ w', Fr lo w w' → IntsAt w' av a) (hb : ∀ w', Fr lo w w' → IntsAt w' bv bb) :
    Calls Tryd.prog 107 #[.agg #[.int .i64 13, .int .u64 n], av, bv, .pointer (some ⟨cw, 0, none⟩), .pointer (some ⟨c0, 0, none⟩), .pointer (some ⟨c1, 0, none⟩), .pointer (some ⟨c2, 0, none⟩), .pointer (some ⟨cb, 0, none⟩), .pointer (some ⟨c3, 0, none⟩), .pointer (some ⟨c4, 0, none⟩)] w (NodeOut lo hi b ins gs os w ((notsG a, wiresF N a.length))) := by
  obtain ⟨fv, nv, pv, tv, lv, HW, ⟨HF, hfv⟩, ⟨HNO, hnv⟩, ⟨HPA, hpv⟩, HCB, ⟨HT, htv⟩, HL, hlv⟩ := hC
  have hlo := h.size
  obtain ⟨aa, acap, hav, _⟩ := (ha w (Fr.refl _ _)).opened
  obtain ⟨ba, bcap, hbv, _⟩ := (hb w (Fr.refl _ _)).opened
  obtain ⟨lw, cw_⟩ := HW.cell
  obtain ⟨l0, c0_⟩ := HF.cell
  obtain ⟨l1, c1_⟩ := HNO.cell
  obtain ⟨l2, c2_⟩ := HPA.cell
  obtain ⟨lb, cb_⟩ := HCB.cell
  obtain ⟨l3, c3_⟩ := HT.cell
  obtain ⟨l4, c4_⟩ := HL.cell
  have hf0 : Fr lo w (w.alloc (.cells #[.int .i64 13, .int .u64 n] 80)) := (Fr.refl _ _).alloc hlo _
  obtain ⟨w0, hw0⟩ : ∃ w0, w.alloc (.cells #[.int .i64 13, .int .u64 n] 80) = w0 := ⟨_, rfl⟩
  have h0 : Bld w0 lo hi b 41 (ins, gs, os) := by rw [← hw0]; exact h.alloc _
  have hs0 : w.heap.size ≤ w0.heap.size := by rw [← hw0]; exact hf0.size
  have ha0 : ∀ w', Fr lo w0 w' → IntsAt w' av a := fun w' hf => ha w' (by rw [hw0] at hf0; exact hf0.trans hf)
  have hb0 : ∀ w', Fr lo w0 w' → IntsAt w' bv bb := fun w' hf => hb w' (by rw [hw0] at hf0; exact hf0.trans hf)
  have HF0 : Hid (Fr lo w w0) := by rw [← hw0]; exact hf0
  have HW0 : Hid (w.alloc (.cells #[.int .i64 13, .int .u64 n] 80) = w0) := hw0
  clear hw0
  obtain ⟨kb, rfl, hkb⟩ := hnv
  have g := iNots5_any lo hi b kb ins gs os av a (by omega) N hN hI0 hI1 (by omega) w0 h0 (by omega) (CellT.keep hkb (HF0.out).keep) ha0
  clear ha hb h HW HF HNO HPA HCB HT HL hf0 ha0 hb0 h0
  subst hav hbv
  have HLA : Hid (a.length = a.length) := rfl
  generalize a.length = an at *
  go_enter Tryd.func107, Tryd.ntmps107
  go_wp2_with fail
  rw [HW0.out]
  refine g.mono ?_
  rintro e w1 ⟨r, rfl, o, bl, fr⟩
  have O1 : Hid _ := o
  have B1 : Hid _ := bl
  have F1 : Hid (Fr lo w w1) := HF0.out.trans fr
  clear g o bl fr
  go_wp2_with fail
  go_ret
  exact ⟨_, rfl, (by rw [wiresF_len]; exact own_base O1.out hs0), B1.out, F1.out⟩
set_option maxRecDepth 100000 in
set_option maxHeartbeats 8000000 in
theorem iNode_no (lo hi b wide cw c0 c1 c2 cb c3 c4 : Nat) (hw1 : 1 ≤ wide) (hw4 : wide ≤ 4) (ins : Int) (gs : List Gt) (os : List Int) (n : Int) (av bv : Value) (a bb : List Int) (N : Int) (hN : ins + gs.length = N) (hI0 : 0 ≤ ins) (hI1 : ins ≤ 16) (hn : gs.length ≤ 15000) (w : World) (h : Bld w lo hi b 41 (ins, gs, os)) (hhi : hi ≤ w.heap.size) (hC : NodeC w b wide cw c0 c1 c2 cb c3 c4) (hal : a.length ≤ 4)
    (hca : CapN av) (hcb : CapN bv) (ha : ∀ w', Fr lo w w' → IntsAt w' av a) (hb : ∀ w', Fr lo w w' → IntsAt w' bv bb) :
    Calls Tryd.prog 107 #[.agg #[.int .i64 19, .int .u64 n], av, bv, .pointer (some ⟨cw, 0, none⟩), .pointer (some ⟨c0, 0, none⟩), .pointer (some ⟨c1, 0, none⟩), .pointer (some ⟨c2, 0, none⟩), .pointer (some ⟨cb, 0, none⟩), .pointer (some ⟨c3, 0, none⟩), .pointer (some ⟨c4, 0, none⟩)] w (NodeOut lo hi b ins gs os w ((notsG a, wiresF N a.length))) := by
  obtain ⟨fv, nv, pv, tv, lv, HW, ⟨HF, hfv⟩, ⟨HNO, hnv⟩, ⟨HPA, hpv⟩, HCB, ⟨HT, htv⟩, HL, hlv⟩ := hC
  have hlo := h.size
  obtain ⟨aa, acap, hav, _⟩ := (ha w (Fr.refl _ _)).opened
  obtain ⟨ba, bcap, hbv, _⟩ := (hb w (Fr.refl _ _)).opened
  obtain ⟨lw, cw_⟩ := HW.cell
  obtain ⟨l0, c0_⟩ := HF.cell
  obtain ⟨l1, c1_⟩ := HNO.cell
  obtain ⟨l2, c2_⟩ := HPA.cell
  obtain ⟨lb, cb_⟩ := HCB.cell
  obtain ⟨l3, c3_⟩ := HT.cell
  obtain ⟨l4, c4_⟩ := HL.cell
  have hf0 : Fr lo w (w.alloc (.cells #[.int .i64 19, .int .u64 n] 80)) := (Fr.refl _ _).alloc hlo _
  obtain ⟨w0, hw0⟩ : ∃ w0, w.alloc (.cells #[.int .i64 19, .int .u64 n] 80) = w0 := ⟨_, rfl⟩
  have h0 : Bld w0 lo hi b 41 (ins, gs, os) := by rw [← hw0]; exact h.alloc _
  have hs0 : w.heap.size ≤ w0.heap.size := by rw [← hw0]; exact hf0.size
  have ha0 : ∀ w', Fr lo w0 w' → IntsAt w' av a := fun w' hf => ha w' (by rw [hw0] at hf0; exact hf0.trans hf)
  have hb0 : ∀ w', Fr lo w0 w' → IntsAt w' bv bb := fun w' hf => hb w' (by rw [hw0] at hf0; exact hf0.trans hf)
  have HF0 : Hid (Fr lo w w0) := by rw [← hw0]; exact hf0
  have HW0 : Hid (w.alloc (.cells #[.int .i64 19, .int .u64 n] 80) = w0) := hw0
  clear hw0
  obtain ⟨kb, rfl, hkb⟩ := hnv
  have g := iNots5_any lo hi b kb ins gs os av a (by omega) N hN hI0 hI1 (by omega) w0 h0 (by omega) (CellT.keep hkb (HF0.out).keep) ha0
  clear ha hb h HW HF HNO HPA HCB HT HL hf0 ha0 hb0 h0
  subst hav hbv
  have HLA : Hid (a.length = a.length) := rfl
  generalize a.length = an at *
  go_enter Tryd.func107, Tryd.ntmps107
  go_wp2_with fail
  rw [HW0.out]
  refine g.mono ?_
  rintro e w1 ⟨r, rfl, o, bl, fr⟩
  have O1 : Hid _ := o
  have B1 : Hid _ := bl
  have F1 : Hid (Fr lo w w1) := HF0.out.trans fr
  clear g o bl fr
  go_wp2_with fail
  go_ret
  exact ⟨_, rfl, (by rw [wiresF_len]; exact own_base O1.out hs0), B1.out, F1.out⟩
set_option maxRecDepth 100000 in
set_option maxHeartbeats 8000000 in
theorem iNode_and (lo hi b wide cw c0 c1 c2 cb c3 c4 : Nat) (hw1 : 1 ≤ wide) (hw4 : wide ≤ 4) (ins : Int) (gs : List Gt) (os : List Int) (n : Int) (av bv : Value) (a bb : List Int) (N : Int) (hN : ins + gs.length = N) (hI0 : 0 ≤ ins) (hI1 : ins ≤ 16) (hn : gs.length ≤ 15000) (w : World) (h : Bld w lo hi b 41 (ins, gs, os)) (hhi : hi ≤ w.heap.size) (hC : NodeC w b wide cw c0 c1 c2 cb c3 c4) (hal : a.length ≤ 4) (hab : a.length = bb.length)
    (hca : CapN av) (hcb : CapN bv) (ha : ∀ w', Fr lo w w' → IntsAt w' av a) (hb : ∀ w', Fr lo w w' → IntsAt w' bv bb) :
    Calls Tryd.prog 107 #[.agg #[.int .i64 8, .int .u64 n], av, bv, .pointer (some ⟨cw, 0, none⟩), .pointer (some ⟨c0, 0, none⟩), .pointer (some ⟨c1, 0, none⟩), .pointer (some ⟨c2, 0, none⟩), .pointer (some ⟨cb, 0, none⟩), .pointer (some ⟨c3, 0, none⟩), .pointer (some ⟨c4, 0, none⟩)] w (NodeOut lo hi b ins gs os w ((pairG 3 a bb, wiresF N a.length))) := by
  obtain ⟨fv, nv, pv, tv, lv, HW, ⟨HF, hfv⟩, ⟨HNO, hnv⟩, ⟨HPA, hpv⟩, HCB, ⟨HT, htv⟩, HL, hlv⟩ := hC
  have hlo := h.size
  obtain ⟨aa, acap, hav, _⟩ := (ha w (Fr.refl _ _)).opened
  obtain ⟨ba, bcap, hbv, _⟩ := (hb w (Fr.refl _ _)).opened
  obtain ⟨lw, cw_⟩ := HW.cell
  obtain ⟨l0, c0_⟩ := HF.cell
  obtain ⟨l1, c1_⟩ := HNO.cell
  obtain ⟨l2, c2_⟩ := HPA.cell
  obtain ⟨lb, cb_⟩ := HCB.cell
  obtain ⟨l3, c3_⟩ := HT.cell
  obtain ⟨l4, c4_⟩ := HL.cell
  have hf0 : Fr lo w (w.alloc (.cells #[.int .i64 8, .int .u64 n] 80)) := (Fr.refl _ _).alloc hlo _
  obtain ⟨w0, hw0⟩ : ∃ w0, w.alloc (.cells #[.int .i64 8, .int .u64 n] 80) = w0 := ⟨_, rfl⟩
  have h0 : Bld w0 lo hi b 41 (ins, gs, os) := by rw [← hw0]; exact h.alloc _
  have hs0 : w.heap.size ≤ w0.heap.size := by rw [← hw0]; exact hf0.size
  have ha0 : ∀ w', Fr lo w0 w' → IntsAt w' av a := fun w' hf => ha w' (by rw [hw0] at hf0; exact hf0.trans hf)
  have hb0 : ∀ w', Fr lo w0 w' → IntsAt w' bv bb := fun w' hf => hb w' (by rw [hw0] at hf0; exact hf0.trans hf)
  have HF0 : Hid (Fr lo w w0) := by rw [← hw0]; exact hf0
  have HW0 : Hid (w.alloc (.cells #[.int .i64 8, .int .u64 n] 80) = w0) := hw0
  clear hw0
  obtain ⟨kb, rfl, hkb⟩ := hpv
  have g := iPairs5_any lo hi b kb ins gs os 3 av bv a bb hab (by omega) N hN hI0 hI1 (by omega) w0 h0 (by omega) (CellT.keep hkb (HF0.out).keep) ha0 hb0
  clear ha hb h HW HF HNO HPA HCB HT HL hf0 ha0 hb0 h0
  subst hav hbv
  rw [← hab] at g ⊢
  clear hab
  generalize a.length = an at *
  go_enter Tryd.func107, Tryd.ntmps107
  go_wp2_with fail
  rw [HW0.out]
  refine g.mono ?_
  rintro e w1 ⟨r, rfl, o, bl, fr⟩
  have O1 : Hid _ := o
  have B1 : Hid _ := bl
  have F1 : Hid (Fr lo w w1) := HF0.out.trans fr
  clear g o bl fr
  go_wp2_with fail
  go_ret
  exact ⟨_, rfl, (by rw [wiresF_len]; exact own_base O1.out hs0), B1.out, F1.out⟩
set_option maxRecDepth 100000 in
set_option maxHeartbeats 8000000 in
theorem iNode_both (lo hi b wide cw c0 c1 c2 cb c3 c4 : Nat) (hw1 : 1 ≤ wide) (hw4 : wide ≤ 4) (ins : Int) (gs : List Gt) (os : List Int) (n : Int) (av bv : Value) (a bb : List Int) (N : Int) (hN : ins + gs.length = N) (hI0 : 0 ≤ ins) (hI1 : ins ≤ 16) (hn : gs.length ≤ 15000) (w : World) (h : Bld w lo hi b 41 (ins, gs, os)) (hhi : hi ≤ w.heap.size) (hC : NodeC w b wide cw c0 c1 c2 cb c3 c4) (hal : a.length ≤ 4) (hab : a.length = bb.length)
    (hca : CapN av) (hcb : CapN bv) (ha : ∀ w', Fr lo w w' → IntsAt w' av a) (hb : ∀ w', Fr lo w w' → IntsAt w' bv bb) :
    Calls Tryd.prog 107 #[.agg #[.int .i64 17, .int .u64 n], av, bv, .pointer (some ⟨cw, 0, none⟩), .pointer (some ⟨c0, 0, none⟩), .pointer (some ⟨c1, 0, none⟩), .pointer (some ⟨c2, 0, none⟩), .pointer (some ⟨cb, 0, none⟩), .pointer (some ⟨c3, 0, none⟩), .pointer (some ⟨c4, 0, none⟩)] w (NodeOut lo hi b ins gs os w ((pairG 3 a bb, wiresF N a.length))) := by
  obtain ⟨fv, nv, pv, tv, lv, HW, ⟨HF, hfv⟩, ⟨HNO, hnv⟩, ⟨HPA, hpv⟩, HCB, ⟨HT, htv⟩, HL, hlv⟩ := hC
  have hlo := h.size
  obtain ⟨aa, acap, hav, _⟩ := (ha w (Fr.refl _ _)).opened
  obtain ⟨ba, bcap, hbv, _⟩ := (hb w (Fr.refl _ _)).opened
  obtain ⟨lw, cw_⟩ := HW.cell
  obtain ⟨l0, c0_⟩ := HF.cell
  obtain ⟨l1, c1_⟩ := HNO.cell
  obtain ⟨l2, c2_⟩ := HPA.cell
  obtain ⟨lb, cb_⟩ := HCB.cell
  obtain ⟨l3, c3_⟩ := HT.cell
  obtain ⟨l4, c4_⟩ := HL.cell
  have hf0 : Fr lo w (w.alloc (.cells #[.int .i64 17, .int .u64 n] 80)) := (Fr.refl _ _).alloc hlo _
  obtain ⟨w0, hw0⟩ : ∃ w0, w.alloc (.cells #[.int .i64 17, .int .u64 n] 80) = w0 := ⟨_, rfl⟩
  have h0 : Bld w0 lo hi b 41 (ins, gs, os) := by rw [← hw0]; exact h.alloc _
  have hs0 : w.heap.size ≤ w0.heap.size := by rw [← hw0]; exact hf0.size
  have ha0 : ∀ w', Fr lo w0 w' → IntsAt w' av a := fun w' hf => ha w' (by rw [hw0] at hf0; exact hf0.trans hf)
  have hb0 : ∀ w', Fr lo w0 w' → IntsAt w' bv bb := fun w' hf => hb w' (by rw [hw0] at hf0; exact hf0.trans hf)
  have HF0 : Hid (Fr lo w w0) := by rw [← hw0]; exact hf0
  have HW0 : Hid (w.alloc (.cells #[.int .i64 17, .int .u64 n] 80) = w0) := hw0
  clear hw0
  obtain ⟨kb, rfl, hkb⟩ := hpv
  have g := iPairs5_any lo hi b kb ins gs os 3 av bv a bb hab (by omega) N hN hI0 hI1 (by omega) w0 h0 (by omega) (CellT.keep hkb (HF0.out).keep) ha0 hb0
  clear ha hb h HW HF HNO HPA HCB HT HL hf0 ha0 hb0 h0
  subst hav hbv
  rw [← hab] at g ⊢
  clear hab
  generalize a.length = an at *
  go_enter Tryd.func107, Tryd.ntmps107
  go_wp2_with fail
  rw [HW0.out]
  refine g.mono ?_
  rintro e w1 ⟨r, rfl, o, bl, fr⟩
  have O1 : Hid _ := o
  have B1 : Hid _ := bl
  have F1 : Hid (Fr lo w w1) := HF0.out.trans fr
  clear g o bl fr
  go_wp2_with fail
  go_ret
  exact ⟨_, rfl, (by rw [wiresF_len]; exact own_base O1.out hs0), B1.out, F1.out⟩
set_option maxRecDepth 100000 in
set_option maxHeartbeats 8000000 in
theorem iNode_or (lo hi b wide cw c0 c1 c2 cb c3 c4 : Nat) (hw1 : 1 ≤ wide) (hw4 : wide ≤ 4) (ins : Int) (gs : List Gt) (os : List Int) (n : Int) (av bv : Value) (a bb : List Int) (N : Int) (hN : ins + gs.length = N) (hI0 : 0 ≤ ins) (hI1 : ins ≤ 16) (hn : gs.length ≤ 15000) (w : World) (h : Bld w lo hi b 41 (ins, gs, os)) (hhi : hi ≤ w.heap.size) (hC : NodeC w b wide cw c0 c1 c2 cb c3 c4) (hal : a.length ≤ 4) (hab : a.length = bb.length)
    (hca : CapN av) (hcb : CapN bv) (ha : ∀ w', Fr lo w w' → IntsAt w' av a) (hb : ∀ w', Fr lo w w' → IntsAt w' bv bb) :
    Calls Tryd.prog 107 #[.agg #[.int .i64 9, .int .u64 n], av, bv, .pointer (some ⟨cw, 0, none⟩), .pointer (some ⟨c0, 0, none⟩), .pointer (some ⟨c1, 0, none⟩), .pointer (some ⟨c2, 0, none⟩), .pointer (some ⟨cb, 0, none⟩), .pointer (some ⟨c3, 0, none⟩), .pointer (some ⟨c4, 0, none⟩)] w (NodeOut lo hi b ins gs os w ((pairG 4 a bb, wiresF N a.length))) := by
  obtain ⟨fv, nv, pv, tv, lv, HW, ⟨HF, hfv⟩, ⟨HNO, hnv⟩, ⟨HPA, hpv⟩, HCB, ⟨HT, htv⟩, HL, hlv⟩ := hC
  have hlo := h.size
  obtain ⟨aa, acap, hav, _⟩ := (ha w (Fr.refl _ _)).opened
  obtain ⟨ba, bcap, hbv, _⟩ := (hb w (Fr.refl _ _)).opened
  obtain ⟨lw, cw_⟩ := HW.cell
  obtain ⟨l0, c0_⟩ := HF.cell
  obtain ⟨l1, c1_⟩ := HNO.cell
  obtain ⟨l2, c2_⟩ := HPA.cell
  obtain ⟨lb, cb_⟩ := HCB.cell
  obtain ⟨l3, c3_⟩ := HT.cell
  obtain ⟨l4, c4_⟩ := HL.cell
  have hf0 : Fr lo w (w.alloc (.cells #[.int .i64 9, .int .u64 n] 80)) := (Fr.refl _ _).alloc hlo _
  obtain ⟨w0, hw0⟩ : ∃ w0, w.alloc (.cells #[.int .i64 9, .int .u64 n] 80) = w0 := ⟨_, rfl⟩
  have h0 : Bld w0 lo hi b 41 (ins, gs, os) := by rw [← hw0]; exact h.alloc _
  have hs0 : w.heap.size ≤ w0.heap.size := by rw [← hw0]; exact hf0.size
  have ha0 : ∀ w', Fr lo w0 w' → IntsAt w' av a := fun w' hf => ha w' (by rw [hw0] at hf0; exact hf0.trans hf)
  have hb0 : ∀ w', Fr lo w0 w' → IntsAt w' bv bb := fun w' hf => hb w' (by rw [hw0] at hf0; exact hf0.trans hf)
  have HF0 : Hid (Fr lo w w0) := by rw [← hw0]; exact hf0
  have HW0 : Hid (w.alloc (.cells #[.int .i64 9, .int .u64 n] 80) = w0) := hw0
  clear hw0
  obtain ⟨kb, rfl, hkb⟩ := hpv
  have g := iPairs5_any lo hi b kb ins gs os 4 av bv a bb hab (by omega) N hN hI0 hI1 (by omega) w0 h0 (by omega) (CellT.keep hkb (HF0.out).keep) ha0 hb0
  clear ha hb h HW HF HNO HPA HCB HT HL hf0 ha0 hb0 h0
  subst hav hbv
  rw [← hab] at g ⊢
  clear hab
  generalize a.length = an at *
  go_enter Tryd.func107, Tryd.ntmps107
  go_wp2_with fail
  rw [HW0.out]
  refine g.mono ?_
  rintro e w1 ⟨r, rfl, o, bl, fr⟩
  have O1 : Hid _ := o
  have B1 : Hid _ := bl
  have F1 : Hid (Fr lo w w1) := HF0.out.trans fr
  clear g o bl fr
  go_wp2_with fail
  go_ret
  exact ⟨_, rfl, (by rw [wiresF_len]; exact own_base O1.out hs0), B1.out, F1.out⟩
set_option maxRecDepth 100000 in
set_option maxHeartbeats 8000000 in
theorem iNode_either (lo hi b wide cw c0 c1 c2 cb c3 c4 : Nat) (hw1 : 1 ≤ wide) (hw4 : wide ≤ 4) (ins : Int) (gs : List Gt) (os : List Int) (n : Int) (av bv : Value) (a bb : List Int) (N : Int) (hN : ins + gs.length = N) (hI0 : 0 ≤ ins) (hI1 : ins ≤ 16) (hn : gs.length ≤ 15000) (w : World) (h : Bld w lo hi b 41 (ins, gs, os)) (hhi : hi ≤ w.heap.size) (hC : NodeC w b wide cw c0 c1 c2 cb c3 c4) (hal : a.length ≤ 4) (hab : a.length = bb.length)
    (hca : CapN av) (hcb : CapN bv) (ha : ∀ w', Fr lo w w' → IntsAt w' av a) (hb : ∀ w', Fr lo w w' → IntsAt w' bv bb) :
    Calls Tryd.prog 107 #[.agg #[.int .i64 18, .int .u64 n], av, bv, .pointer (some ⟨cw, 0, none⟩), .pointer (some ⟨c0, 0, none⟩), .pointer (some ⟨c1, 0, none⟩), .pointer (some ⟨c2, 0, none⟩), .pointer (some ⟨cb, 0, none⟩), .pointer (some ⟨c3, 0, none⟩), .pointer (some ⟨c4, 0, none⟩)] w (NodeOut lo hi b ins gs os w ((pairG 4 a bb, wiresF N a.length))) := by
  obtain ⟨fv, nv, pv, tv, lv, HW, ⟨HF, hfv⟩, ⟨HNO, hnv⟩, ⟨HPA, hpv⟩, HCB, ⟨HT, htv⟩, HL, hlv⟩ := hC
  have hlo := h.size
  obtain ⟨aa, acap, hav, _⟩ := (ha w (Fr.refl _ _)).opened
  obtain ⟨ba, bcap, hbv, _⟩ := (hb w (Fr.refl _ _)).opened
  obtain ⟨lw, cw_⟩ := HW.cell
  obtain ⟨l0, c0_⟩ := HF.cell
  obtain ⟨l1, c1_⟩ := HNO.cell
  obtain ⟨l2, c2_⟩ := HPA.cell
  obtain ⟨lb, cb_⟩ := HCB.cell
  obtain ⟨l3, c3_⟩ := HT.cell
  obtain ⟨l4, c4_⟩ := HL.cell
  have hf0 : Fr lo w (w.alloc (.cells #[.int .i64 18, .int .u64 n] 80)) := (Fr.refl _ _).alloc hlo _
  obtain ⟨w0, hw0⟩ : ∃ w0, w.alloc (.cells #[.int .i64 18, .int .u64 n] 80) = w0 := ⟨_, rfl⟩
  have h0 : Bld w0 lo hi b 41 (ins, gs, os) := by rw [← hw0]; exact h.alloc _
  have hs0 : w.heap.size ≤ w0.heap.size := by rw [← hw0]; exact hf0.size
  have ha0 : ∀ w', Fr lo w0 w' → IntsAt w' av a := fun w' hf => ha w' (by rw [hw0] at hf0; exact hf0.trans hf)
  have hb0 : ∀ w', Fr lo w0 w' → IntsAt w' bv bb := fun w' hf => hb w' (by rw [hw0] at hf0; exact hf0.trans hf)
  have HF0 : Hid (Fr lo w w0) := by rw [← hw0]; exact hf0
  have HW0 : Hid (w.alloc (.cells #[.int .i64 18, .int .u64 n] 80) = w0) := hw0
  clear hw0
  obtain ⟨kb, rfl, hkb⟩ := hpv
  have g := iPairs5_any lo hi b kb ins gs os 4 av bv a bb hab (by omega) N hN hI0 hI1 (by omega) w0 h0 (by omega) (CellT.keep hkb (HF0.out).keep) ha0 hb0
  clear ha hb h HW HF HNO HPA HCB HT HL hf0 ha0 hb0 h0
  subst hav hbv
  rw [← hab] at g ⊢
  clear hab
  generalize a.length = an at *
  go_enter Tryd.func107, Tryd.ntmps107
  go_wp2_with fail
  rw [HW0.out]
  refine g.mono ?_
  rintro e w1 ⟨r, rfl, o, bl, fr⟩
  have O1 : Hid _ := o
  have B1 : Hid _ := bl
  have F1 : Hid (Fr lo w w1) := HF0.out.trans fr
  clear g o bl fr
  go_wp2_with fail
  go_ret
  exact ⟨_, rfl, (by rw [wiresF_len]; exact own_base O1.out hs0), B1.out, F1.out⟩
set_option maxRecDepth 100000 in
set_option maxHeartbeats 8000000 in
theorem iNode_xor (lo hi b wide cw c0 c1 c2 cb c3 c4 : Nat) (hw1 : 1 ≤ wide) (hw4 : wide ≤ 4) (ins : Int) (gs : List Gt) (os : List Int) (n : Int) (av bv : Value) (a bb : List Int) (N : Int) (hN : ins + gs.length = N) (hI0 : 0 ≤ ins) (hI1 : ins ≤ 16) (hn : gs.length ≤ 15000) (w : World) (h : Bld w lo hi b 41 (ins, gs, os)) (hhi : hi ≤ w.heap.size) (hC : NodeC w b wide cw c0 c1 c2 cb c3 c4) (hal : a.length ≤ 4) (hab : a.length = bb.length)
    (hca : CapN av) (hcb : CapN bv) (ha : ∀ w', Fr lo w w' → IntsAt w' av a) (hb : ∀ w', Fr lo w w' → IntsAt w' bv bb) :
    Calls Tryd.prog 107 #[.agg #[.int .i64 10, .int .u64 n], av, bv, .pointer (some ⟨cw, 0, none⟩), .pointer (some ⟨c0, 0, none⟩), .pointer (some ⟨c1, 0, none⟩), .pointer (some ⟨c2, 0, none⟩), .pointer (some ⟨cb, 0, none⟩), .pointer (some ⟨c3, 0, none⟩), .pointer (some ⟨c4, 0, none⟩)] w (NodeOut lo hi b ins gs os w ((pairG 5 a bb, wiresF N a.length))) := by
  obtain ⟨fv, nv, pv, tv, lv, HW, ⟨HF, hfv⟩, ⟨HNO, hnv⟩, ⟨HPA, hpv⟩, HCB, ⟨HT, htv⟩, HL, hlv⟩ := hC
  have hlo := h.size
  obtain ⟨aa, acap, hav, _⟩ := (ha w (Fr.refl _ _)).opened
  obtain ⟨ba, bcap, hbv, _⟩ := (hb w (Fr.refl _ _)).opened
  obtain ⟨lw, cw_⟩ := HW.cell
  obtain ⟨l0, c0_⟩ := HF.cell
  obtain ⟨l1, c1_⟩ := HNO.cell
  obtain ⟨l2, c2_⟩ := HPA.cell
  obtain ⟨lb, cb_⟩ := HCB.cell
  obtain ⟨l3, c3_⟩ := HT.cell
  obtain ⟨l4, c4_⟩ := HL.cell
  have hf0 : Fr lo w (w.alloc (.cells #[.int .i64 10, .int .u64 n] 80)) := (Fr.refl _ _).alloc hlo _
  obtain ⟨w0, hw0⟩ : ∃ w0, w.alloc (.cells #[.int .i64 10, .int .u64 n] 80) = w0 := ⟨_, rfl⟩
  have h0 : Bld w0 lo hi b 41 (ins, gs, os) := by rw [← hw0]; exact h.alloc _
  have hs0 : w.heap.size ≤ w0.heap.size := by rw [← hw0]; exact hf0.size
  have ha0 : ∀ w', Fr lo w0 w' → IntsAt w' av a := fun w' hf => ha w' (by rw [hw0] at hf0; exact hf0.trans hf)
  have hb0 : ∀ w', Fr lo w0 w' → IntsAt w' bv bb := fun w' hf => hb w' (by rw [hw0] at hf0; exact hf0.trans hf)
  have HF0 : Hid (Fr lo w w0) := by rw [← hw0]; exact hf0
  have HW0 : Hid (w.alloc (.cells #[.int .i64 10, .int .u64 n] 80) = w0) := hw0
  clear hw0
  obtain ⟨kb, rfl, hkb⟩ := hpv
  have g := iPairs5_any lo hi b kb ins gs os 5 av bv a bb hab (by omega) N hN hI0 hI1 (by omega) w0 h0 (by omega) (CellT.keep hkb (HF0.out).keep) ha0 hb0
  clear ha hb h HW HF HNO HPA HCB HT HL hf0 ha0 hb0 h0
  subst hav hbv
  rw [← hab] at g ⊢
  clear hab
  generalize a.length = an at *
  go_enter Tryd.func107, Tryd.ntmps107
  go_wp2_with fail
  rw [HW0.out]
  refine g.mono ?_
  rintro e w1 ⟨r, rfl, o, bl, fr⟩
  have O1 : Hid _ := o
  have B1 : Hid _ := bl
  have F1 : Hid (Fr lo w w1) := HF0.out.trans fr
  clear g o bl fr
  go_wp2_with fail
  go_ret
  exact ⟨_, rfl, (by rw [wiresF_len]; exact own_base O1.out hs0), B1.out, F1.out⟩
end Go.Proofs.YtpjllhlbdcanlaaDoor

namespace Go.Proofs.YtpjllhlbdcanlaaDoor
open Go Go.RowKit
open M
set_option linter.unusedVariables false
set_option linter.unusedSimpArgs false

set_option maxRecDepth 100000 in
set_option maxHeartbeats 8000000 in
theorem iNode_add (lo hi b wide cw c0 c1 c2 cb c3 c4 : Nat) (hw1 : 1 ≤ wide) (hw4 : wide ≤ 4) (ins : Int) (gs : List Gt) (os : List Int) (n : Int) (av bv : Value) (a bb : List Int) (N : Int) (hN : ins + gs.length = N) (hI0 : 0 ≤ ins) (hI1 : ins ≤ 16) (hn : gs.length ≤ 15000) (w : World) (h : Bld w lo hi b 41 (ins, gs, os)) (hhi : hi ≤ w.heap.size) (hC : NodeC w b wide cw c0 c1 c2 cb c3 c4) (hal : a.length ≤ 4) (hab : a.length = bb.length)
    (hca : CapN av) (hcb : CapN bv) (ha : ∀ w', Fr lo w w' → IntsAt w' av a) (hb : ∀ w', Fr lo w w' → IntsAt w' bv bb) :
    Calls Tryd.prog 107 #[.agg #[.int .i64 3, .int .u64 n], av, bv, .pointer (some ⟨cw, 0, none⟩), .pointer (some ⟨c0, 0, none⟩), .pointer (some ⟨c1, 0, none⟩), .pointer (some ⟨c2, 0, none⟩), .pointer (some ⟨cb, 0, none⟩), .pointer (some ⟨c3, 0, none⟩), .pointer (some ⟨c4, 0, none⟩)] w (NodeOut lo hi b ins gs os w (([(1, 0, 0)] ++ (addG a bb N (N + 1)).1, (addG a bb N (N + 1)).2))) := by
  obtain ⟨fv, nv, pv, tv, lv, HW, ⟨HF, hfv⟩, ⟨HNO, hnv⟩, ⟨HPA, hpv⟩, HCB, ⟨HT, htv⟩, HL, hlv⟩ := hC
  have hlo := h.size
  obtain ⟨aa, acap, hav, _⟩ := (ha w (Fr.refl _ _)).opened
  obtain ⟨ba, bcap, hbv, _⟩ := (hb w (Fr.refl _ _)).opened
  obtain ⟨lw, cw_⟩ := HW.cell
  obtain ⟨l0, c0_⟩ := HF.cell
  obtain ⟨l1, c1_⟩ := HNO.cell
  obtain ⟨l2, c2_⟩ := HPA.cell
  obtain ⟨lb, cb_⟩ := HCB.cell
  obtain ⟨l3, c3_⟩ := HT.cell
  obtain ⟨l4, c4_⟩ := HL.cell
  have hf0 : Fr lo w (w.alloc (.cells #[.int .i64 3, .int .u64 n] 80)) := (Fr.refl _ _).alloc hlo _
  obtain ⟨w0, hw0⟩ : ∃ w0, w.alloc (.cells #[.int .i64 3, .int .u64 n] 80) = w0 := ⟨_, rfl⟩
  have h0 : Bld w0 lo hi b 41 (ins, gs, os) := by rw [← hw0]; exact h.alloc _
  have hs0 : w.heap.size ≤ w0.heap.size := by rw [← hw0]; exact hf0.size
  have ha0 : ∀ w', Fr lo w0 w' → IntsAt w' av a := fun w' hf => ha w' (by rw [hw0] at hf0; exact hf0.trans hf)
  have hb0 : ∀ w', Fr lo w0 w' → IntsAt w' bv bb := fun w' hf => hb w' (by rw [hw0] at hf0; exact hf0.trans hf)
  have HF0 : Hid (Fr lo w w0) := by rw [← hw0]; exact hf0
  have HW0 : Hid (w.alloc (.cells #[.int .i64 3, .int .u64 n] 80) = w0) := hw0
  clear hw0
  obtain ⟨kb, rfl, hkb⟩ := hfv
  have hbit : bitsG 0 1 = [(1, 0, 0)] := by simp [bitsG, bitI]
  have hlenA : (addG a bb N (N + 1)).2.length = a.length := (addG_len a bb N (N + 1) (by exact hab)).2
  obtain ⟨S1, hS1⟩ : ∃ S1 : Int, N = S1 := ⟨_, rfl⟩
  have hGl : ins + ((gs).length : Int) = S1 := by omega
  have hGn : (gs).length ≤ 16000 := by omega
  have GB : Hid (∀ w1 : World, Bld w1 lo hi b 41 (ins, gs, os) → Fr lo w w1 → Calls Tryd.prog 116 #[.int .i64 1, .int .u64 0, .pointer (some ⟨kb, 0, none⟩)] w1 fun e w' => ∃ r, e = .returned r ∧ w'.ownsRow w1.heap.size 3 1 r 1 (cellsI (wiresF S1 1)) ∧ Bld w' lo hi b 41 (ins, gs ++ [(1, 0, 0)], os) ∧ Fr lo w1 w') := by
    intro w1 h1 h2
    have g := iBits5_any lo hi b kb ins (gs) os 1 (by omega) 0 (by omega) (by omega) S1 hGl hI0 hI1 (by omega) w1 h1 (by have := h2.size; omega) (hkb.keep h2.keep)
    rw [hbit] at g
    exact g
  have GA : Hid (∀ (yv : Value) (w1 : World), Bld w1 lo hi b 41 (ins, gs ++ [(1, 0, 0)], os) → Fr lo w w1 → (∀ w', Fr lo w1 w' → IntsAt w' yv bb) → Calls Tryd.prog 109 #[.pointer (some ⟨b, 0, none⟩), av, yv, .int .i64 S1] w1 (NodeOut lo hi b ins gs os w ([(1, 0, 0)] ++ (addG a bb N (N + 1)).1, (addG a bb N (N + 1)).2))) := by
    intro yv w1 h1 h2 h3
    have g := iAdd5_any lo hi b ins (gs ++ [(1, 0, 0)]) os av yv a bb S1 (S1 + 1) (by rw [List.length_append, List.length_singleton]; omega) hI0 hI1 (by rw [List.length_append, List.length_singleton]; omega) (by exact hab) (by omega) w1 h1 (by have := h2.size; omega) (fun w' hf => ha w' (h2.trans hf)) h3
    refine g.mono ?_
    rintro e w' ⟨r, rfl, o, bl, fr⟩
    refine ⟨r, rfl, ?_, ?_, h2.trans fr⟩
    · subst hS1
      exact own_base o h2.size
    · subst hS1
      simpa [List.append_assoc] using bl
  have HCBk : Hid (∀ w', Fr lo w w' → cb < w'.heap.size ∧ w'.cell? ⟨cb, 0, none⟩ = some (.pointer (some ⟨b, 0, none⟩))) := fun w' hw => (HCB.keep hw.keep).cell
  have HFk : Hid (∀ w', Fr lo w w' → c0 < w'.heap.size ∧ w'.cell? ⟨c0, 0, none⟩ = some (.func (.func 116) #[] #[.pointer (some ⟨kb, 0, none⟩)])) := fun w' hw => (HF.keep hw.keep).cell
  have HBb : Hid (∀ w', Fr lo w w' → IntsAt w' bv bb) := hb
  have HB0 : Hid _ := h0
  have hbb4 : bb.length ≤ 4 := by omega
  clear hlenA hbit hGl hGn hkb hS1 hab
  clear ha hb h HW HF HNO HPA HCB HT HL hf0 ha0 hb0 h0
  subst hav hbv
  generalize ([(1, 0, 0)] ++ (addG a bb N (N + 1)).1, (addG a bb N (N + 1)).2) = RR at *
  go_enter Tryd.func107, Tryd.ntmps107
  go_wp2_with fail
  rw [HW0.out]
  refine (GB.out w0 HB0.out HF0.out).mono ?_
  rintro e w8 ⟨r8, rfl, o8, b8, f8⟩
  obtain ⟨ra8, rc8, hr8⟩ := own_shape o8
  subst hr8
  obtain ⟨_, _, e8, hc8⟩ := (ints_keep (t := wiresF S1 1) o8 (KeepC.refl _) (by rw [wiresF_len]; omega)).opened
  injection e8 with e81 e82 e83
  obtain ⟨kg, koff, hkk, kl1, kl2⟩ := hc8 0 S1 (by simp [wiresF])
  rw [← e81] at hkk
  subst hkk
  have kl3 : w8.cell? ⟨kg, koff, none⟩ = some (.int .i64 S1) := kl2
  have F8 : Hid (Fr lo w w8) := HF0.out.trans f8
  have B8 : Hid _ := b8
  obtain ⟨c5, c6⟩ := HCBk.out w8 F8.out
  have HY : Hid (∀ w', Fr lo w8 w' → IntsAt w' (.slice ba bb.length bcap) bb) := fun w' hf => HBb.out w' (F8.out.trans hf)
  have GA2 : Hid (∀ w9 : World, (w9 = w8 ∨ w9 = w8.drew) → Calls Tryd.prog 109 #[.pointer (some ⟨b, 0, none⟩), .slice aa a.length acap, (.slice ba bb.length bcap), .int .i64 S1] w9 (NodeOut lo hi b ins gs os w RR)) := by
    intro w9 h9
    rcases h9 with rfl | rfl
    · exact GA.out _ w9 B8.out F8.out HY.out
    · exact GA.out _ _ (Bld.drew B8.out) F8.out.drew (fun w' hf => HY.out w' ((Fr.refl _ _).drew.trans hf))
  clear o8 b8 f8 hc8 e81 e82 e83 GA GB HY F8 B8
  generalize a.length = an at *
  generalize bb.length = bn at *
  go_wp2_with fail
  go_region_with (go_at_call 109; refine (GA2.out _ (by first | exact Or.inl rfl | exact Or.inr rfl)).mono ?_; rintro e w9 ⟨r9, rfl, h9⟩; have H9 : Hid _ := h9; clear h9)
  all_goals
    go_wp2_with fail
    go_ret
    exact ⟨_, rfl, H9.out⟩
set_option maxRecDepth 100000 in
set_option maxHeartbeats 8000000 in
theorem iNode_sub (lo hi b wide cw c0 c1 c2 cb c3 c4 : Nat) (hw1 : 1 ≤ wide) (hw4 : wide ≤ 4) (ins : Int) (gs : List Gt) (os : List Int) (n : Int) (av bv : Value) (a bb : List Int) (N : Int) (hN : ins + gs.length = N) (hI0 : 0 ≤ ins) (hI1 : ins ≤ 16) (hn : gs.length ≤ 15000) (w : World) (h : Bld w lo hi b 41 (ins, gs, os)) (hhi : hi ≤ w.heap.size) (hC : NodeC w b wide cw c0 c1 c2 cb c3 c4) (hal : a.length ≤ 4) (hab : a.length = bb.length)
    (hca : CapN av) (hcb : CapN bv) (ha : ∀ w', Fr lo w w' → IntsAt w' av a) (hb : ∀ w', Fr lo w w' → IntsAt w' bv bb) :
    Calls Tryd.prog 107 #[.agg #[.int .i64 4, .int .u64 n], av, bv, .pointer (some ⟨cw, 0, none⟩), .pointer (some ⟨c0, 0, none⟩), .pointer (some ⟨c1, 0, none⟩), .pointer (some ⟨c2, 0, none⟩), .pointer (some ⟨cb, 0, none⟩), .pointer (some ⟨c3, 0, none⟩), .pointer (some ⟨c4, 0, none⟩)] w (NodeOut lo hi b ins gs os w ((notsG bb ++ [(1, 1, 0)] ++ (addG a (wiresF N bb.length) (N + bb.length) (N + bb.length + 1)).1, (addG a (wiresF N bb.length) (N + bb.length) (N + bb.length + 1)).2))) := by
  obtain ⟨fv, nv, pv, tv, lv, HW, ⟨HF, hfv⟩, ⟨HNO, hnv⟩, ⟨HPA, hpv⟩, HCB, ⟨HT, htv⟩, HL, hlv⟩ := hC
  have hlo := h.size
  obtain ⟨aa, acap, hav, _⟩ := (ha w (Fr.refl _ _)).opened
  obtain ⟨ba, bcap, hbv, _⟩ := (hb w (Fr.refl _ _)).opened
  obtain ⟨lw, cw_⟩ := HW.cell
  obtain ⟨l0, c0_⟩ := HF.cell
  obtain ⟨l1, c1_⟩ := HNO.cell
  obtain ⟨l2, c2_⟩ := HPA.cell
  obtain ⟨lb, cb_⟩ := HCB.cell
  obtain ⟨l3, c3_⟩ := HT.cell
  obtain ⟨l4, c4_⟩ := HL.cell
  have hf0 : Fr lo w (w.alloc (.cells #[.int .i64 4, .int .u64 n] 80)) := (Fr.refl _ _).alloc hlo _
  obtain ⟨w0, hw0⟩ : ∃ w0, w.alloc (.cells #[.int .i64 4, .int .u64 n] 80) = w0 := ⟨_, rfl⟩
  have h0 : Bld w0 lo hi b 41 (ins, gs, os) := by rw [← hw0]; exact h.alloc _
  have hs0 : w.heap.size ≤ w0.heap.size := by rw [← hw0]; exact hf0.size
  have ha0 : ∀ w', Fr lo w0 w' → IntsAt w' av a := fun w' hf => ha w' (by rw [hw0] at hf0; exact hf0.trans hf)
  have hb0 : ∀ w', Fr lo w0 w' → IntsAt w' bv bb := fun w' hf => hb w' (by rw [hw0] at hf0; exact hf0.trans hf)
  have HF0 : Hid (Fr lo w w0) := by rw [← hw0]; exact hf0
  have HW0 : Hid (w.alloc (.cells #[.int .i64 4, .int .u64 n] 80) = w0) := hw0
  clear hw0
  obtain ⟨kb, rfl, hkb⟩ := hfv
  have hbit : bitsG 1 1 = [(1, 1, 0)] := by simp [bitsG, bitI, pw]
  have hlenA : (addG a (wiresF N bb.length) (N + bb.length) (N + bb.length + 1)).2.length = a.length := (addG_len a (wiresF N bb.length) (N + bb.length) (N + bb.length + 1) (by rw [wiresF_len]; exact hab)).2
  obtain ⟨kn, rfl, hkn⟩ := hnv
  have g := iNots5_any lo hi b kn ins gs os bv bb (by omega) N hN hI0 hI1 (by omega) w0 h0 (by omega) (CellT.keep hkn (HF0.out).keep) hb0
  obtain ⟨S1, hS1⟩ : ∃ S1 : Int, (N + bb.length) = S1 := ⟨_, rfl⟩
  have hGl : ins + ((gs ++ notsG bb).length : Int) = S1 := by rw [List.length_append, notsG_len]; omega
  have hGn : (gs ++ notsG bb).length ≤ 16000 := by rw [List.length_append, notsG_len]; omega
  have GB : Hid (∀ w1 : World, Bld w1 lo hi b 41 (ins, gs ++ notsG bb, os) → Fr lo w w1 → Calls Tryd.prog 116 #[.int .i64 1, .int .u64 1, .pointer (some ⟨kb, 0, none⟩)] w1 fun e w' => ∃ r, e = .returned r ∧ w'.ownsRow w1.heap.size 3 1 r 1 (cellsI (wiresF S1 1)) ∧ Bld w' lo hi b 41 (ins, gs ++ notsG bb ++ [(1, 1, 0)], os) ∧ Fr lo w1 w') := by
    intro w1 h1 h2
    have g := iBits5_any lo hi b kb ins (gs ++ notsG bb) os 1 (by omega) 1 (by omega) (by omega) S1 hGl hI0 hI1 (by omega) w1 h1 (by have := h2.size; omega) (hkb.keep h2.keep)
    rw [hbit] at g
    exact g
  have GA : Hid (∀ (yv : Value) (w1 : World), Bld w1 lo hi b 41 (ins, gs ++ notsG bb ++ [(1, 1, 0)], os) → Fr lo w w1 → (∀ w', Fr lo w1 w' → IntsAt w' yv (wiresF N bb.length)) → Calls Tryd.prog 109 #[.pointer (some ⟨b, 0, none⟩), av, yv, .int .i64 S1] w1 (NodeOut lo hi b ins gs os w (notsG bb ++ [(1, 1, 0)] ++ (addG a (wiresF N bb.length) (N + bb.length) (N + bb.length + 1)).1, (addG a (wiresF N bb.length) (N + bb.length) (N + bb.length + 1)).2))) := by
    intro yv w1 h1 h2 h3
    have g := iAdd5_any lo hi b ins (gs ++ notsG bb ++ [(1, 1, 0)]) os av yv a (wiresF N bb.length) S1 (S1 + 1) (by rw [List.length_append, List.length_singleton]; omega) hI0 hI1 (by rw [List.length_append, List.length_singleton]; omega) (by rw [wiresF_len]; exact hab) (by omega) w1 h1 (by have := h2.size; omega) (fun w' hf => ha w' (h2.trans hf)) h3
    refine g.mono ?_
    rintro e w' ⟨r, rfl, o, bl, fr⟩
    refine ⟨r, rfl, ?_, ?_, h2.trans fr⟩
    · subst hS1
      exact own_base o h2.size
    · subst hS1
      simpa [List.append_assoc] using bl
  have HCBk : Hid (∀ w', Fr lo w w' → cb < w'.heap.size ∧ w'.cell? ⟨cb, 0, none⟩ = some (.pointer (some ⟨b, 0, none⟩))) := fun w' hw => (HCB.keep hw.keep).cell
  have HFk : Hid (∀ w', Fr lo w w' → c0 < w'.heap.size ∧ w'.cell? ⟨c0, 0, none⟩ = some (.func (.func 116) #[] #[.pointer (some ⟨kb, 0, none⟩)])) := fun w' hw => (HF.keep hw.keep).cell
  have HBb : Hid (∀ w', Fr lo w w' → IntsAt w' bv bb) := hb
  have HB0 : Hid _ := h0
  have hbb4 : bb.length ≤ 4 := by omega
  clear hlenA hbit hGl hGn hkb hS1 hab
  clear ha hb h HW HF HNO HPA HCB HT HL hf0 ha0 hb0 h0
  subst hav hbv
  generalize (notsG bb ++ [(1, 1, 0)] ++ (addG a (wiresF N bb.length) (N + bb.length) (N + bb.length + 1)).1, (addG a (wiresF N bb.length) (N + bb.length) (N + bb.length + 1)).2) = RR at *
  generalize bb.length = bn at *
  go_enter Tryd.func107, Tryd.ntmps107
  go_wp2_with fail
  rw [HW0.out]
  refine g.mono ?_
  rintro e w1 ⟨r1, rfl, o1, b1, f1⟩
  obtain ⟨ra1, rc1, hr1⟩ := own_shape o1
  subst hr1
  have O1 : Hid (w1.ownsRow w0.heap.size 3 1 (.slice ra1 bn rc1) bn (cellsI (wiresF N bn))) := o1
  have B1 : Hid _ := b1
  have F1 : Hid (Fr lo w w1) := HF0.out.trans f1
  obtain ⟨d1, d2⟩ := HFk.out w1 F1.out
  clear g o1 b1 f1
  go_wp2_with fail
  refine (GB.out w1 B1.out F1.out).mono ?_
  rintro e w8 ⟨r8, rfl, o8, b8, f8⟩
  obtain ⟨ra8, rc8, hr8⟩ := own_shape o8
  subst hr8
  obtain ⟨_, _, e8, hc8⟩ := (ints_keep (t := wiresF S1 1) o8 (KeepC.refl _) (by rw [wiresF_len]; omega)).opened
  injection e8 with e81 e82 e83
  obtain ⟨kg, koff, hkk, kl1, kl2⟩ := hc8 0 S1 (by simp [wiresF])
  rw [← e81] at hkk
  subst hkk
  have kl3 : w8.cell? ⟨kg, koff, none⟩ = some (.int .i64 S1) := kl2
  have F8 : Hid (Fr lo w w8) := F1.out.trans f8
  have B8 : Hid _ := b8
  obtain ⟨c5, c6⟩ := HCBk.out w8 F8.out
  have HY : Hid (∀ w', Fr lo w8 w' → IntsAt w' (.slice ra1 bn rc1) (wiresF N bn)) := fun w' hf => ints_keep (B := w0.heap.size) (t := wiresF N bn) (by rw [wiresF_len]; exact own_keepT O1.out f8.keep.int) hf.keep (by rw [wiresF_len]; omega)
  have GA2 : Hid (∀ w9 : World, (w9 = w8 ∨ w9 = w8.drew) → Calls Tryd.prog 109 #[.pointer (some ⟨b, 0, none⟩), .slice aa a.length acap, (.slice ra1 bn rc1), .int .i64 S1] w9 (NodeOut lo hi b ins gs os w RR)) := by
    intro w9 h9
    rcases h9 with rfl | rfl
    · exact GA.out _ w9 B8.out F8.out HY.out
    · exact GA.out _ _ (Bld.drew B8.out) F8.out.drew (fun w' hf => HY.out w' ((Fr.refl _ _).drew.trans hf))
  clear o8 b8 f8 hc8 e81 e82 e83 GA GB HY F8 B8
  generalize a.length = an at *
  go_wp2_with fail
  go_region_with (go_at_call 109; refine (GA2.out _ (by first | exact Or.inl rfl | exact Or.inr rfl)).mono ?_; rintro e w9 ⟨r9, rfl, h9⟩; have H9 : Hid _ := h9; clear h9)
  all_goals
    go_wp2_with fail
    go_ret
    exact ⟨_, rfl, H9.out⟩
set_option maxRecDepth 100000 in
set_option maxHeartbeats 8000000 in
theorem iNode_eq (lo hi b wide cw c0 c1 c2 cb c3 c4 : Nat) (hw1 : 1 ≤ wide) (hw4 : wide ≤ 4) (ins : Int) (gs : List Gt) (os : List Int) (n : Int) (av bv : Value) (a bb : List Int) (N : Int) (hN : ins + gs.length = N) (hI0 : 0 ≤ ins) (hI1 : ins ≤ 16) (hn : gs.length ≤ 15000) (w : World) (h : Bld w lo hi b 41 (ins, gs, os)) (hhi : hi ≤ w.heap.size) (hC : NodeC w b wide cw c0 c1 c2 cb c3 c4) (hal : a.length ≤ 4) (hab : a.length = bb.length)
    (hca : CapN av) (hcb : CapN bv) (ha : ∀ w', Fr lo w w' → IntsAt w' av a) (hb : ∀ w', Fr lo w w' → IntsAt w' bv bb) :
    Calls Tryd.prog 107 #[.agg #[.int .i64 14, .int .u64 n], av, bv, .pointer (some ⟨cw, 0, none⟩), .pointer (some ⟨c0, 0, none⟩), .pointer (some ⟨c1, 0, none⟩), .pointer (some ⟨c2, 0, none⟩), .pointer (some ⟨cb, 0, none⟩), .pointer (some ⟨c3, 0, none⟩), .pointer (some ⟨c4, 0, none⟩)] w (NodeOut lo hi b ins gs os w (([(1, 1, 0)] ++ (eqG a bb N (N + 1)).1, [onW N (N + 1) 3 2 a.length]))) := by
  obtain ⟨fv, nv, pv, tv, lv, HW, ⟨HF, hfv⟩, ⟨HNO, hnv⟩, ⟨HPA, hpv⟩, HCB, ⟨HT, htv⟩, HL, hlv⟩ := hC
  have hlo := h.size
  obtain ⟨aa, acap, hav, _⟩ := (ha w (Fr.refl _ _)).opened
  obtain ⟨ba, bcap, hbv, _⟩ := (hb w (Fr.refl _ _)).opened
  obtain ⟨lw, cw_⟩ := HW.cell
  obtain ⟨l0, c0_⟩ := HF.cell
  obtain ⟨l1, c1_⟩ := HNO.cell
  obtain ⟨l2, c2_⟩ := HPA.cell
  obtain ⟨lb, cb_⟩ := HCB.cell
  obtain ⟨l3, c3_⟩ := HT.cell
  obtain ⟨l4, c4_⟩ := HL.cell
  have hf0 : Fr lo w (w.alloc (.cells #[.int .i64 14, .int .u64 n] 80)) := (Fr.refl _ _).alloc hlo _
  obtain ⟨w0, hw0⟩ : ∃ w0, w.alloc (.cells #[.int .i64 14, .int .u64 n] 80) = w0 := ⟨_, rfl⟩
  have h0 : Bld w0 lo hi b 41 (ins, gs, os) := by rw [← hw0]; exact h.alloc _
  have hs0 : w.heap.size ≤ w0.heap.size := by rw [← hw0]; exact hf0.size
  have ha0 : ∀ w', Fr lo w0 w' → IntsAt w' av a := fun w' hf => ha w' (by rw [hw0] at hf0; exact hf0.trans hf)
  have hb0 : ∀ w', Fr lo w0 w' → IntsAt w' bv bb := fun w' hf => hb w' (by rw [hw0] at hf0; exact hf0.trans hf)
  have HF0 : Hid (Fr lo w w0) := by rw [← hw0]; exact hf0
  have HW0 : Hid (w.alloc (.cells #[.int .i64 14, .int .u64 n] 80) = w0) := hw0
  clear hw0
  have g := iEq5_any lo hi b ins gs os av bv a bb N hN hI0 hI1 (by omega) hab (by omega) w0 h0 (by omega) ha0 hb0
  clear ha hb h HW HF HNO HPA HCB HT HL hf0 ha0 hb0 h0
  subst hav hbv
  obtain ⟨O, hO⟩ : ∃ O, onW N (N + 1) 3 2 a.length = O := ⟨_, rfl⟩
  rw [hO] at g ⊢
  clear hO
  rw [← hab] at g ⊢
  clear hab
  generalize a.length = an at *
  go_enter Tryd.func107, Tryd.ntmps107
  go_wp2_with fail
  rw [HW0.out]
  refine g.mono ?_
  rintro e w1 ⟨rfl, bl, fr⟩
  have B1 : Hid (Bld w1 lo hi b 41 (ins, gs ++ [(1, 1, 0)] ++ (eqG a bb N (N + 1)).1, os)) := bl
  have F1 : Hid (Fr lo w w1) := HF0.out.trans fr
  clear g bl fr
  go_wp2_with fail
  go_ret
  refine ⟨_, rfl, one_own w1 O _ (F1.out.size), ?_, F1.out.alloc (Nat.le_trans hlo F1.out.size) _⟩
  have h1 := Bld.alloc B1.out (.cells #[.int .i64 O] 3)
  simpa [List.append_assoc] using h1
set_option maxRecDepth 100000 in
set_option maxHeartbeats 8000000 in
theorem iNode_less (lo hi b wide cw c0 c1 c2 cb c3 c4 : Nat) (hw1 : 1 ≤ wide) (hw4 : wide ≤ 4) (ins : Int) (gs : List Gt) (os : List Int) (n : Int) (av bv : Value) (a bb : List Int) (N : Int) (hN : ins + gs.length = N) (hI0 : 0 ≤ ins) (hI1 : ins ≤ 16) (hn : gs.length ≤ 15000) (w : World) (h : Bld w lo hi b 41 (ins, gs, os)) (hhi : hi ≤ w.heap.size) (hC : NodeC w b wide cw c0 c1 c2 cb c3 c4) (hal : a.length ≤ 4) (hab : a.length = bb.length)
    (hca : CapN av) (hcb : CapN bv) (ha : ∀ w', Fr lo w w' → IntsAt w' av a) (hb : ∀ w', Fr lo w w' → IntsAt w' bv bb) :
    Calls Tryd.prog 107 #[.agg #[.int .i64 15, .int .u64 n], av, bv, .pointer (some ⟨cw, 0, none⟩), .pointer (some ⟨c0, 0, none⟩), .pointer (some ⟨c1, 0, none⟩), .pointer (some ⟨c2, 0, none⟩), .pointer (some ⟨cb, 0, none⟩), .pointer (some ⟨c3, 0, none⟩), .pointer (some ⟨c4, 0, none⟩)] w (NodeOut lo hi b ins gs os w (([(1, 0, 0)] ++ (lessG a bb N (N + 1)).1, [onW N (N + 1) 6 5 a.length]))) := by
  obtain ⟨fv, nv, pv, tv, lv, HW, ⟨HF, hfv⟩, ⟨HNO, hnv⟩, ⟨HPA, hpv⟩, HCB, ⟨HT, htv⟩, HL, hlv⟩ := hC
  have hlo := h.size
  obtain ⟨aa, acap, hav, _⟩ := (ha w (Fr.refl _ _)).opened
  obtain ⟨ba, bcap, hbv, _⟩ := (hb w (Fr.refl _ _)).opened
  obtain ⟨lw, cw_⟩ := HW.cell
  obtain ⟨l0, c0_⟩ := HF.cell
  obtain ⟨l1, c1_⟩ := HNO.cell
  obtain ⟨l2, c2_⟩ := HPA.cell
  obtain ⟨lb, cb_⟩ := HCB.cell
  obtain ⟨l3, c3_⟩ := HT.cell
  obtain ⟨l4, c4_⟩ := HL.cell
  have hf0 : Fr lo w (w.alloc (.cells #[.int .i64 15, .int .u64 n] 80)) := (Fr.refl _ _).alloc hlo _
  obtain ⟨w0, hw0⟩ : ∃ w0, w.alloc (.cells #[.int .i64 15, .int .u64 n] 80) = w0 := ⟨_, rfl⟩
  have h0 : Bld w0 lo hi b 41 (ins, gs, os) := by rw [← hw0]; exact h.alloc _
  have hs0 : w.heap.size ≤ w0.heap.size := by rw [← hw0]; exact hf0.size
  have ha0 : ∀ w', Fr lo w0 w' → IntsAt w' av a := fun w' hf => ha w' (by rw [hw0] at hf0; exact hf0.trans hf)
  have hb0 : ∀ w', Fr lo w0 w' → IntsAt w' bv bb := fun w' hf => hb w' (by rw [hw0] at hf0; exact hf0.trans hf)
  have HF0 : Hid (Fr lo w w0) := by rw [← hw0]; exact hf0
  have HW0 : Hid (w.alloc (.cells #[.int .i64 15, .int .u64 n] 80) = w0) := hw0
  clear hw0
  have g := iLess5_any lo hi b ins gs os av bv a bb N hN hI0 hI1 (by omega) hab (by omega) w0 h0 (by omega) ha0 hb0
  clear ha hb h HW HF HNO HPA HCB HT HL hf0 ha0 hb0 h0
  subst hav hbv
  obtain ⟨O, hO⟩ : ∃ O, onW N (N + 1) 6 5 a.length = O := ⟨_, rfl⟩
  rw [hO] at g ⊢
  clear hO
  rw [← hab] at g ⊢
  clear hab
  generalize a.length = an at *
  go_enter Tryd.func107, Tryd.ntmps107
  go_wp2_with fail
  rw [HW0.out]
  refine g.mono ?_
  rintro e w1 ⟨rfl, bl, fr⟩
  have B1 : Hid (Bld w1 lo hi b 41 (ins, gs ++ [(1, 0, 0)] ++ (lessG a bb N (N + 1)).1, os)) := bl
  have F1 : Hid (Fr lo w w1) := HF0.out.trans fr
  clear g bl fr
  go_wp2_with fail
  go_ret
  refine ⟨_, rfl, one_own w1 O _ (F1.out.size), ?_, F1.out.alloc (Nat.le_trans hlo F1.out.size) _⟩
  have h1 := Bld.alloc B1.out (.cells #[.int .i64 O] 3)
  simpa [List.append_assoc] using h1
set_option maxRecDepth 100000 in
set_option maxHeartbeats 8000000 in
theorem iNode_mul (lo hi b wide cw c0 c1 c2 cb c3 c4 : Nat) (hw1 : 1 ≤ wide) (hw4 : wide ≤ 4) (ins : Int) (gs : List Gt) (os : List Int) (n : Int) (av bv : Value) (a bb : List Int) (N : Int) (hN : ins + gs.length = N) (hI0 : 0 ≤ ins) (hI1 : ins ≤ 16) (hn : gs.length ≤ 15000) (w : World) (h : Bld w lo hi b 41 (ins, gs, os)) (hhi : hi ≤ w.heap.size) (hC : NodeC w b wide cw c0 c1 c2 cb c3 c4) (hal : a.length ≤ 4) (hab : a.length = bb.length)
    (hca : CapN av) (hcb : CapN bv) (ha : ∀ w', Fr lo w w' → IntsAt w' av a) (hb : ∀ w', Fr lo w w' → IntsAt w' bv bb) :
    Calls Tryd.prog 107 #[.agg #[.int .i64 5, .int .u64 n], av, bv, .pointer (some ⟨cw, 0, none⟩), .pointer (some ⟨c0, 0, none⟩), .pointer (some ⟨c1, 0, none⟩), .pointer (some ⟨c2, 0, none⟩), .pointer (some ⟨cb, 0, none⟩), .pointer (some ⟨c3, 0, none⟩), .pointer (some ⟨c4, 0, none⟩)] w (NodeOut lo hi b ins gs os w (mulG a bb N)) := by
  obtain ⟨fv, nv, pv, tv, lv, HW, ⟨HF, hfv⟩, ⟨HNO, hnv⟩, ⟨HPA, hpv⟩, HCB, ⟨HT, htv⟩, HL, hlv⟩ := hC
  have hlo := h.size
  obtain ⟨aa, acap, hav, _⟩ := (ha w (Fr.refl _ _)).opened
  obtain ⟨ba, bcap, hbv, _⟩ := (hb w (Fr.refl _ _)).opened
  obtain ⟨lw, cw_⟩ := HW.cell
  obtain ⟨l0, c0_⟩ := HF.cell
  obtain ⟨l1, c1_⟩ := HNO.cell
  obtain ⟨l2, c2_⟩ := HPA.cell
  obtain ⟨lb, cb_⟩ := HCB.cell
  obtain ⟨l3, c3_⟩ := HT.cell
  obtain ⟨l4, c4_⟩ := HL.cell
  have hf0 : Fr lo w (w.alloc (.cells #[.int .i64 5, .int .u64 n] 80)) := (Fr.refl _ _).alloc hlo _
  obtain ⟨w0, hw0⟩ : ∃ w0, w.alloc (.cells #[.int .i64 5, .int .u64 n] 80) = w0 := ⟨_, rfl⟩
  have h0 : Bld w0 lo hi b 41 (ins, gs, os) := by rw [← hw0]; exact h.alloc _
  have hs0 : w.heap.size ≤ w0.heap.size := by rw [← hw0]; exact hf0.size
  have ha0 : ∀ w', Fr lo w0 w' → IntsAt w' av a := fun w' hf => ha w' (by rw [hw0] at hf0; exact hf0.trans hf)
  have hb0 : ∀ w', Fr lo w0 w' → IntsAt w' bv bb := fun w' hf => hb w' (by rw [hw0] at hf0; exact hf0.trans hf)
  have HF0 : Hid (Fr lo w w0) := by rw [← hw0]; exact hf0
  have HW0 : Hid (w.alloc (.cells #[.int .i64 5, .int .u64 n] 80) = w0) := hw0
  clear hw0
  obtain ⟨cc, cb', bv', rfl, q1, q2, q3⟩ := htv
  have g := iTimes5_any lo hi b cc cb' bv' ins gs os av bv a bb hab hal N hN hI0 hI1 (by omega) w0 h0 (by omega) (q1.keep HF0.out.keep) (q2.keep HF0.out.keep) (q3.keep HF0.out.keep) hca ha0 hb0
  clear ha hb h HW HF HNO HPA HCB HT HL hf0 ha0 hb0 h0
  subst hav hbv
  obtain ⟨RR, hRR⟩ : ∃ RR, mulG a bb N = RR := ⟨_, rfl⟩
  rw [hRR] at g ⊢
  clear hRR
  rw [← hab] at g ⊢
  clear hab
  generalize a.length = an at *
  go_enter Tryd.func107, Tryd.ntmps107
  go_wp2_with fail
  rw [HW0.out]
  refine g.mono ?_
  rintro e w1 ⟨r, rfl, o, bl, fr⟩
  have O1 : Hid _ := o
  have B1 : Hid _ := bl
  have F1 : Hid (Fr lo w w1) := HF0.out.trans fr
  clear g o bl fr
  go_wp2_with fail
  go_ret
  exact ⟨_, rfl, own_base O1.out hs0, B1.out, F1.out⟩
end Go.Proofs.YtpjllhlbdcanlaaDoor

namespace Go.Proofs.YtpjllhlbdcanlaaDoor
open Go Go.RowKit
open M
set_option linter.unusedVariables false
set_option linter.unusedSimpArgs false

set_option maxRecDepth 100000 in
set_option maxHeartbeats 8000000 in
theorem iLessS5_any (lo hi b cc cb : Nat) (fv : Value) (ins : Int) (gs : List Gt) (os : List Int) (av bv : Value) (a bb : List Int) (hl : a.length = bb.length) (hl1 : 1 ≤ a.length) (hl4 : a.length ≤ 4) (N : Int) (hN : ins + gs.length = N) (hI0 : 0 ≤ ins) (hI1 : ins ≤ 16) (hn : gs.length ≤ 18000) (w : World) (h : Bld w lo hi b 41 (ins, gs, os)) (hhi : hi ≤ w.heap.size)
    (hcc : CellT w cc 132 fv) (hfv : NotsV w fv b) (hcb : CellT w cb 118 (.pointer (some ⟨b, 0, none⟩))) (hca : CapN av) (hcb2 : CapN bv) (ha : ∀ w', Fr lo w w' → IntsAt w' av a) (hb : ∀ w', Fr lo w w' → IntsAt w' bv bb) :
    Calls Tryd.prog 121 #[av, bv, .pointer (some ⟨cc, 0, none⟩), .pointer (some ⟨cb, 0, none⟩)] w fun e w' => e = .returned (.int .i64 (onW (N + 2) (N + 3) 6 5 a.length)) ∧ Bld w' lo hi b 41 (ins, gs ++ ([(2, a.getD (a.length - 1) 0, 0), (2, bb.getD (bb.length - 1) 0, 0)] ++ [(1, 0, 0)] ++ (lessG (topW a N) (topW bb (N + 1)) (N + 2) (N + 3)).1), os) ∧ Fr lo w w' := by
  obtain ⟨kb, rfl, hkb⟩ := hfv
  have hlo := h.size
  obtain ⟨aa, acap, hav, hA0⟩ := (ha w (Fr.refl _ _)).opened
  obtain ⟨ba, bcap, hbv, hB0⟩ := (hb w (Fr.refl _ _)).opened
  subst hav hbv
  obtain ⟨top, htop⟩ : ∃ top, a.length - 1 = top := ⟨_, rfl⟩
  have hal : a.length = top + 1 := by omega
  have hbl : bb.length = top + 1 := by omega
  have hcap1 : top + 1 ≤ acap := by have := hca _ _ _ rfl; omega
  have hcap2 : top + 1 ≤ bcap := by have := hcb2 _ _ _ rfl; omega
  obtain ⟨x, hx⟩ : ∃ x, a[top]? = some x := ⟨a[top]'(by omega), List.getElem?_eq_getElem _⟩
  obtain ⟨y, hy⟩ : ∃ y, bb[top]? = some y := ⟨bb[top]'(by omega), List.getElem?_eq_getElem _⟩
  obtain ⟨ag, aoff, rfl, al1, al2⟩ := hA0 top x hx
  obtain ⟨bg, boff, rfl, bl1, bl2⟩ := hB0 top y hy
  obtain ⟨c1, c2⟩ := hcc.cell
  have hga : a.getD (a.length - 1) 0 = x := by rw [htop, List.getD_eq_getElem?_getD, hx]; rfl
  have hgb : bb.getD (bb.length - 1) 0 = y := by rw [hbl, Nat.add_sub_cancel, List.getD_eq_getElem?_getD, hy]; rfl
  rw [hga, hgb]
  have hta : topW a N = a.take top ++ [N] := by unfold topW; rw [htop]
  have htb : topW bb (N + 1) = bb.take top ++ [N + 1] := by unfold topW; rw [hbl, Nat.add_sub_cancel]
  have GN : Hid (∀ w1 : World, Bel w w1 → CellT2 w1 w.heap.size x y → Calls Tryd.prog 118 #[.slice (some ⟨w.heap.size, 0, none⟩) 2 2, .pointer (some ⟨kb, 0, none⟩)] w1 fun e w' => ∃ r, e = .returned r ∧ w'.ownsRow w.heap.size 3 1 r 2 (cellsI (wiresF N 2)) ∧ Bld w' lo hi b 41 (ins, gs ++ [(2, x, 0), (2, y, 0)], os) ∧ Fr lo w w') := by
    intro w1 hb1 hc2
    have hk1 : KeepC w w1 := KeepC.below hb1
    have hf1 : Fr lo w w1 := ⟨hb1.mono hlo, hk1⟩
    have g := iNots5_any lo hi b kb ins gs os (.slice (some ⟨w.heap.size, 0, none⟩) 2 2) [x, y] (by simp) N hN hI0 hI1 (by omega) w1 (h.bel hb1) (Nat.le_trans hhi hb1.size) (hkb.keep hk1) (fun w' hf => hc2.ints hf.keep)
    refine g.mono ?_
    rintro e w' ⟨r, rfl, o, bl, fr⟩
    exact ⟨r, rfl, own_base o hb1.size, bl, hf1.trans fr⟩
  have GL : Hid (∀ (v7 v8 : Value) (w4 : World) (S2 : Int), S2 = N + 2 → Fr lo w w4 → Bld w4 lo hi b 41 (ins, gs ++ [(2, x, 0), (2, y, 0)], os) → (∀ w', Fr lo w4 w' → IntsAt w' v7 (topW a N)) → (∀ w', Fr lo w4 w' → IntsAt w' v8 (topW bb (N + 1))) → Calls Tryd.prog 111 #[.pointer (some ⟨b, 0, none⟩), v7, v8] w4 fun e w' => e = .returned (.int .i64 (onW (N + 2) (N + 3) 6 5 (top + 1))) ∧ Bld w' lo hi b 41 (ins, gs ++ ([(2, x, 0), (2, y, 0)] ++ [(1, 0, 0)] ++ (lessG (topW a N) (topW bb (N + 1)) (N + 2) (N + 3)).1), os) ∧ Fr lo w w' ∧ KeepC w4 w') := by
    intro v7 v8 w4 S2 h2 hf hbl4 i7 i8
    have hl7 : (topW a N).length = top + 1 := by rw [hta]; simp; omega
    have hl8 : (topW bb (N + 1)).length = top + 1 := by rw [htb]; simp; omega
    have g := iLess5_any lo hi b ins (gs ++ [(2, x, 0), (2, y, 0)]) os v7 v8 (topW a N) (topW bb (N + 1)) (N + 2) (by simp only [List.length_append, List.length_cons, List.length_nil]; omega) hI0 hI1 (by simp only [List.length_append, List.length_cons, List.length_nil]; omega) (by rw [hl7, hl8]) (by omega) w4 hbl4 (Nat.le_trans hhi hf.size) i7 i8
    rw [hl7, show N + 2 + 1 = N + 3 from by omega] at g
    refine g.mono ?_
    rintro e w' ⟨rfl, bl, fr⟩
    refine ⟨rfl, ?_, hf.trans fr, fr.keep⟩
    simpa [List.append_assoc] using bl
  have HOLDA : Hid (∀ W : World, Fr lo w W → ∀ (j : Nat) (u : Value), (cellsI (a.take top))[j]? = some u → W.cell? ((⟨ag, aoff, none⟩ : Addr).add j) = some u) := by
    intro W hf j u hu
    simp only [cellsI, List.getElem?_map, Option.map_eq_some_iff] at hu
    obtain ⟨z, hz, rfl⟩ := hu
    have hz2 : a[j]? = some z := by
      rw [List.getElem?_take] at hz
      split at hz
      · exact hz
      · cases hz
    obtain ⟨_, _, e, hc⟩ := (ha W hf).opened
    obtain ⟨g, off, e2, _, h2⟩ := hc j z hz2
    injection e with e1
    rw [← e1] at e2
    injection e2 with e3
    injection e3 with e4 e5
    subst e4 e5
    rw [Addr.add_lit]
    exact h2
  have HOLDB : Hid (∀ W : World, Fr lo w W → ∀ (j : Nat) (u : Value), (cellsI (bb.take top))[j]? = some u → W.cell? ((⟨bg, boff, none⟩ : Addr).add j) = some u) := by
    intro W hf j u hu
    simp only [cellsI, List.getElem?_map, Option.map_eq_some_iff] at hu
    obtain ⟨z, hz, rfl⟩ := hu
    have hz2 : bb[j]? = some z := by
      rw [List.getElem?_take] at hz
      split at hz
      · exact hz
      · cases hz
    obtain ⟨_, _, e, hc⟩ := (hb W hf).opened
    obtain ⟨g, off, e2, _, h2⟩ := hc j z hz2
    injection e with e1
    rw [← e1] at e2
    injection e2 with e3
    injection e3 with e4 e5
    subst e4 e5
    rw [Addr.add_lit]
    exact h2
  have hlA : (cellsI (a.take top)).length = top * 1 := by simp [cellsI]; omega
  have hlB : (cellsI (bb.take top)).length = top * 1 := by simp [cellsI]; omega
  have HTA : Hid (topW a N = a.take top ++ [N]) := hta
  have HTB : Hid (topW bb (N + 1) = bb.take top ++ [N + 1]) := htb
  have HCB : Hid (∀ w', Fr lo w w' → cb < w'.heap.size ∧ w'.cell? ⟨cb, 0, none⟩ = some (.pointer (some ⟨b, 0, none⟩))) := fun w' hw => (hcb.keep hw.keep).cell
  have htl : top + 1 ≤ 4 := by omega
  obtain ⟨i0, hif, hz0, hz1, hz2⟩ := info_parts infoInt
  rw [hal, hbl]
  obtain ⟨an, han⟩ : ∃ an, top + 1 = an := ⟨_, rfl⟩
  rw [han] at GL htl hcap1 hcap2 ⊢
  have han1 : (an : Int) - 1 = (top : Int) := by omega
  have han2 : top < an := by omega
  have han3 : (top : Int) < (an : Int) := by omega
  clear han
  clear ha hb h hcc hcb hkb hA0 hB0 hx hy hga hgb hta htb hal hbl htop hl hl1 hl4 hca hcb2
  go_enter Tryd.func121, Tryd.ntmps121
  go_wp2_with fail
  go_cut [8] from 2 to 2 (fun s wx => Hid (wx.ownsRow w.heap.size 3 1 s 2 (cellsI (wiresF N 2))) ∧ Hid (Bld wx lo hi b 41 (ins, gs ++ [(2, x, 0), (2, y, 0)], os)) ∧ Hid (Fr lo w wx))
  case first =>
    go_region_law (go_simp; go_at_call 118; refine (GN.out _ (by first | exact Bel.alloc (Bel.drew (Bel.refl _)) _ | exact Bel.drew (Bel.alloc (Bel.refl _) _)) (by first | exact cellT2_alloc _ _ _ | exact cellT2_alloc (World.drew _) _ _)).mono ?_; rintro e w3 ⟨r3, rfl, own3, hB3, hf3⟩; have OW3 : Hid _ := own3; have HB3 : Hid (Bld w3 lo hi b 41 (ins, gs ++ [(2, x, 0), (2, y, 0)], os)) := hB3; have HF3 : Hid (Fr lo w w3) := hf3; clear own3 hB3 hf3)
    all_goals
      go_wp2_with fail
      go_meet
      case rel => exact ⟨OW3, HB3, HF3⟩
  obtain ⟨OW3, HB3, HF3⟩ := hcut
  obtain ⟨ra, rc, hr3⟩ := own_shape OW3.out
  subst hr3
  obtain ⟨_, _, e8, hc8⟩ := (ints_keep (t := wiresF N 2) OW3.out (KeepC.refl _) (by rw [wiresF_len]; omega)).opened
  injection e8 with e81 e82 e83
  obtain ⟨kg, koff, hkk, kl1, kl2⟩ := hc8 0 N (by simp [wiresF, List.range_succ])
  obtain ⟨kg', koff', hkk', kl1', kl3⟩ := hc8 1 (N + 1) (by simp [wiresF, List.range_succ])
  rw [hkk] at hkk'
  injection hkk' with q1
  injection q1 with q2 q3
  subst q2 q3
  rw [← e81] at hkk
  subst hkk
  obtain ⟨N1, hN1⟩ : ∃ N1 : Int, N + 1 = N1 := ⟨_, rfl⟩
  rw [hN1] at kl3
  have kl4 : wc.cell? ⟨kg, koff, none⟩ = some (.int .i64 N) := kl2
  obtain ⟨c5, c6⟩ := HCB.out wc HF3.out
  have HFB : Hid (∀ W : World, Bel wc W → Fr lo w W) := fun W hb => HF3.out.trans ⟨hb.mono (Nat.le_trans hlo HF3.out.size), KeepC.below hb⟩
  have H7 : Hid (∀ (B : Nat) (v7 : Value) (w7 w' : World), w7.ownsRow B 3 1 v7 (top + 1) (cellsI (a.take top) ++ [.int .i64 N]) → KeepC w7 w' → IntsAt w' v7 (topW a N)) := by
    intro B v7 w7 w' ho hk
    have hlt : (topW a N).length = top + 1 := by rw [HTA.out]; simp [cellsI] at hlA ⊢; omega
    refine ints_keep (B := B) ?_ hk (by omega)
    rw [hlt, HTA.out]
    simpa [cellsI] using ho
  have H8 : Hid (∀ (B : Nat) (v8 : Value) (w8 w' : World), w8.ownsRow B 3 1 v8 (top + 1) (cellsI (bb.take top) ++ [.int .i64 N1]) → KeepC w8 w' → IntsAt w' v8 (topW bb (N + 1))) := by
    intro B v7 w7 w' ho hk
    have hlt : (topW bb (N + 1)).length = top + 1 := by rw [HTB.out]; simp [cellsI] at hlB ⊢; omega
    refine ints_keep (B := B) ?_ hk (by omega)
    rw [hlt, HTB.out, hN1]
    simpa [cellsI] using ho
  have HTC1 : top ≤ acap := by omega
  have HTC2 : top ≤ bcap := by omega
  have HKC : Hid (∀ w' : World, Fr lo w w' → KeepC wc w' → w'.cell? ⟨cb, 0, none⟩ = some (.pointer (some ⟨b, 0, none⟩)) ∧ w'.cell? ⟨kg, koff, none⟩ = some (.int .i64 N) ∧ w'.cell? ⟨kg, koff + 1, none⟩ = some (.int .i64 N1)) := by
    intro w' hf hk
    obtain ⟨_, _, f8, hd8⟩ := (ints_keep (t := wiresF N 2) OW3.out hk (by rw [wiresF_len]; omega)).opened
    injection f8 with f81 f82 f83
    obtain ⟨g1, o1, e1, _, h1⟩ := hd8 0 N (by simp [wiresF, List.range_succ])
    obtain ⟨g2, o2, e2, _, h2⟩ := hd8 1 (N + 1) (by simp [wiresF, List.range_succ])
    rw [← f81] at e1 e2
    injection e1 with e1
    injection e1 with e3 e4
    injection e2 with e2
    injection e2 with e5 e6
    subst e3 e4 e5 e6
    rw [hN1] at h2
    exact ⟨(HCB.out w' hf).2, h1, h2⟩
  clear hc8 e81 e82 e83 kl2 kl1' OW3 GN HCB HTA HTB al2 bl2 c2 hN1
  go_wp2_with fail
  have HKS : Hid (∀ W : World, Bel wc W → W.cell? ⟨cb, 0, none⟩ = some (.pointer (some ⟨b, 0, none⟩)) ∧ W.cell? ⟨kg, koff, none⟩ = some (.int .i64 N) ∧ W.cell? ⟨kg, koff + 1, none⟩ = some (.int .i64 N1)) := fun W hb => ⟨(hb.cell (p := ⟨cb, 0, none⟩) c5).trans c6, (hb.cell (p := ⟨kg, koff, none⟩) kl1).trans kl4, (hb.cell (p := ⟨kg, koff + 1, none⟩) kl1).trans kl3⟩
  go_region_held_law (fun W => W.cell? ⟨cb, 0, none⟩ = some (.pointer (some ⟨b, 0, none⟩)) ∧ W.cell? ⟨kg, koff, none⟩ = some (.int .i64 N) ∧ W.cell? ⟨kg, koff + 1, none⟩ = some (.int .i64 N1)) (first | exact HS9 | exact HKS.out _ (by repeat (first | exact Bel.refl _ | refine Bel.drew ?_ | refine Bel.alloc ?_ _ | refine Bel.grown ?_ grow8 | refine Bel.grown ?_ grow7)) | go_keep) (first | (refine step_append_full rfl _ _ 39 rfl 3 i0 (.int .i64 0) 1 8 Tryd.underlying39 hif hz0 hz1 hz2 rfl (by decide) ⟨ag, aoff, none⟩ top top (cellsI (a.take top)) (by simp [Act.eval, Act.put]) hlA (HOLDA.out _ (HFB.out _ (by repeat (first | exact Bel.refl _ | refine Bel.drew ?_ | refine Bel.alloc ?_ _ | refine Bel.grown ?_ grow8 | refine Bel.grown ?_ grow7)))) _ 1 1 [.int .i64 N] rfl rfl (CellT.news (by first | exact cellT_alloc _ _ _ | exact CellT.alloc (cellT_alloc _ _ _) _ | exact cellT_alloc2 _ _ _ _ | exact CellT.below (by first | exact cellT_alloc _ _ _ | exact CellT.alloc (cellT_alloc _ _ _) _ | exact cellT_alloc2 _ _ _ _) (Bel.grown (Bel.refl _) grow8))) (by omega) (by unfold maxLen; omega) (by omega) ?_; intro v7 w7 own7 grow7) | (refine step_append_full rfl _ _ 39 rfl 3 i0 (.int .i64 0) 1 8 Tryd.underlying39 hif hz0 hz1 hz2 rfl (by decide) ⟨bg, boff, none⟩ top top (cellsI (bb.take top)) (by simp [Act.eval, Act.put]) hlB (HOLDB.out _ (HFB.out _ (by repeat (first | exact Bel.refl _ | refine Bel.drew ?_ | refine Bel.alloc ?_ _ | refine Bel.grown ?_ grow8 | refine Bel.grown ?_ grow7)))) _ 1 1 [.int .i64 N1] rfl rfl (CellT.news (by first | exact cellT_alloc _ _ _ | exact CellT.alloc (cellT_alloc _ _ _) _ | exact cellT_alloc2 _ _ _ _ | exact CellT.below (by first | exact cellT_alloc _ _ _ | exact CellT.alloc (cellT_alloc _ _ _) _ | exact cellT_alloc2 _ _ _ _) (Bel.grown (Bel.refl _) grow7))) (by omega) (by unfold maxLen; omega) (by omega) ?_; intro v8 w8 own8 grow8) | (go_simp; go_at_call 111; refine (GL.out v7 v8 _ (N + 2) rfl (HFB.out _ (by repeat (first | exact Bel.refl _ | refine Bel.drew ?_ | refine Bel.alloc ?_ _ | refine Bel.grown ?_ grow8 | refine Bel.grown ?_ grow7))) (HB3.out.bel (by repeat (first | exact Bel.refl _ | refine Bel.drew ?_ | refine Bel.alloc ?_ _ | refine Bel.grown ?_ grow8 | refine Bel.grown ?_ grow7))) (fun w' hf => H7.out _ v7 w7 w' own7 (KeepC.trans (KeepC.below (by repeat (first | exact Bel.refl _ | refine Bel.drew ?_ | refine Bel.alloc ?_ _ | refine Bel.grown ?_ grow8 | refine Bel.grown ?_ grow7))) hf.keep)) (fun w' hf => H8.out _ v8 w8 w' own8 (KeepC.trans (KeepC.below (by repeat (first | exact Bel.refl _ | refine Bel.drew ?_ | refine Bel.alloc ?_ _ | refine Bel.grown ?_ grow8 | refine Bel.grown ?_ grow7))) hf.keep))).mono ?_; rintro e w9 ⟨rfl, hB9, hf9, hk9⟩; have HB9 : Hid _ := hB9; have HF9 : Hid (Fr lo w w9) := hf9; have HS9 := HKC.out w9 hf9 (KeepC.trans (KeepC.below (by repeat (first | exact Bel.refl _ | refine Bel.drew ?_ | refine Bel.alloc ?_ _ | refine Bel.grown ?_ grow8 | refine Bel.grown ?_ grow7))) hk9); clear hB9 hf9 hk9))
  all_goals
    go_wp2_with fail
    go_ret
    exact ⟨rfl, HB9.out, HF9.out⟩
end Go.Proofs.YtpjllhlbdcanlaaDoor

namespace Go.Proofs.YtpjllhlbdcanlaaDoor
open Go Go.RowKit
open M
set_option linter.unusedVariables false
set_option linter.unusedSimpArgs false

set_option maxRecDepth 100000 in
set_option maxHeartbeats 8000000 in
theorem iNode_lessS (lo hi b wide cw c0 c1 c2 cb c3 c4 : Nat) (hw1 : 1 ≤ wide) (hw4 : wide ≤ 4) (ins : Int) (gs : List Gt) (os : List Int) (n : Int) (av bv : Value) (a bb : List Int) (N : Int) (hN : ins + gs.length = N) (hI0 : 0 ≤ ins) (hI1 : ins ≤ 16) (hn : gs.length ≤ 15000) (w : World) (h : Bld w lo hi b 41 (ins, gs, os)) (hhi : hi ≤ w.heap.size) (hC : NodeC w b wide cw c0 c1 c2 cb c3 c4) (hal1 : 1 ≤ a.length) (hal : a.length ≤ 4) (hab : a.length = bb.length)
    (hca : CapN av) (hcb : CapN bv) (ha : ∀ w', Fr lo w w' → IntsAt w' av a) (hb : ∀ w', Fr lo w w' → IntsAt w' bv bb) :
    Calls Tryd.prog 107 #[.agg #[.int .i64 16, .int .u64 n], av, bv, .pointer (some ⟨cw, 0, none⟩), .pointer (some ⟨c0, 0, none⟩), .pointer (some ⟨c1, 0, none⟩), .pointer (some ⟨c2, 0, none⟩), .pointer (some ⟨cb, 0, none⟩), .pointer (some ⟨c3, 0, none⟩), .pointer (some ⟨c4, 0, none⟩)] w (NodeOut lo hi b ins gs os w (([(2, a.getD (a.length - 1) 0, 0), (2, bb.getD (bb.length - 1) 0, 0)] ++ [(1, 0, 0)] ++ (lessG (topW a N) (topW bb (N + 1)) (N + 2) (N + 3)).1, [onW (N + 2) (N + 3) 6 5 a.length]))) := by
  obtain ⟨fv, nv, pv, tv, lv, HW, ⟨HF, hfv⟩, ⟨HNO, hnv⟩, ⟨HPA, hpv⟩, HCB, ⟨HT, htv⟩, HL, hlv⟩ := hC
  have hlo := h.size
  obtain ⟨aa, acap, hav, _⟩ := (ha w (Fr.refl _ _)).opened
  obtain ⟨ba, bcap, hbv, _⟩ := (hb w (Fr.refl _ _)).opened
  obtain ⟨lw, cw_⟩ := HW.cell
  obtain ⟨l0, c0_⟩ := HF.cell
  obtain ⟨l1, c1_⟩ := HNO.cell
  obtain ⟨l2, c2_⟩ := HPA.cell
  obtain ⟨lb, cb_⟩ := HCB.cell
  obtain ⟨l3, c3_⟩ := HT.cell
  obtain ⟨l4, c4_⟩ := HL.cell
  have hf0 : Fr lo w (w.alloc (.cells #[.int .i64 16, .int .u64 n] 80)) := (Fr.refl _ _).alloc hlo _
  obtain ⟨w0, hw0⟩ : ∃ w0, w.alloc (.cells #[.int .i64 16, .int .u64 n] 80) = w0 := ⟨_, rfl⟩
  have h0 : Bld w0 lo hi b 41 (ins, gs, os) := by rw [← hw0]; exact h.alloc _
  have hs0 : w.heap.size ≤ w0.heap.size := by rw [← hw0]; exact hf0.size
  have ha0 : ∀ w', Fr lo w0 w' → IntsAt w' av a := fun w' hf => ha w' (by rw [hw0] at hf0; exact hf0.trans hf)
  have hb0 : ∀ w', Fr lo w0 w' → IntsAt w' bv bb := fun w' hf => hb w' (by rw [hw0] at hf0; exact hf0.trans hf)
  have HF0 : Hid (Fr lo w w0) := by rw [← hw0]; exact hf0
  have HW0 : Hid (w.alloc (.cells #[.int .i64 16, .int .u64 n] 80) = w0) := hw0
  clear hw0
  obtain ⟨cc, cb', bv', rfl, q1, q2, q3⟩ := hlv
  have g := iLessS5_any lo hi b cc cb' bv' ins gs os av bv a bb hab hal1 hal N hN hI0 hI1 (by omega) w0 h0 (by omega) (q1.keep HF0.out.keep) (q2.keep HF0.out.keep) (q3.keep HF0.out.keep) hca hcb ha0 hb0
  clear ha hb h HW HF HNO HPA HCB HT HL hf0 ha0 hb0 h0
  subst hav hbv
  obtain ⟨O, hO⟩ : ∃ O, onW (N + 2) (N + 3) 6 5 a.length = O := ⟨_, rfl⟩
  rw [hO] at g ⊢
  obtain ⟨GG, hGG⟩ : ∃ GG, [(2, a.getD (a.length - 1) 0, 0), (2, bb.getD (bb.length - 1) 0, 0)] ++ [(1, 0, 0)] ++ (lessG (topW a N) (topW bb (N + 1)) (N + 2) (N + 3)).1 = GG := ⟨_, rfl⟩
  rw [hGG] at g ⊢
  clear hO hGG
  rw [← hab] at g ⊢
  clear hab
  generalize a.length = an at *
  go_enter Tryd.func107, Tryd.ntmps107
  go_wp2_with fail
  rw [HW0.out]
  refine g.mono ?_
  rintro e w1 ⟨rfl, bl, fr⟩
  have B1 : Hid (Bld w1 lo hi b 41 (ins, gs ++ GG, os)) := bl
  have F1 : Hid (Fr lo w w1) := HF0.out.trans fr
  clear g bl fr
  go_wp2_with fail
  go_ret
  exact ⟨_, rfl, one_own w1 O _ (F1.out.size), Bld.alloc B1.out _, F1.out.alloc (Nat.le_trans hlo F1.out.size) _⟩
end Go.Proofs.YtpjllhlbdcanlaaDoor

namespace Go.Proofs.YtpjllhlbdcanlaaDoor
open Go Go.RowKit
open M
set_option linter.unusedVariables false
set_option linter.unusedSimpArgs false

theorem iNode_any (lo hi b wide cw c0 c1 c2 cb c3 c4 : Nat) (hw1 : 1 ≤ wide) (hw4 : wide ≤ 4) (ins : Int) (gs : List Gt) (os : List Int) (op n : Int) (av bv : Value) (a bb : List Int) (N : Int) (hN : ins + gs.length = N) (hI0 : 0 ≤ ins) (hI1 : ins ≤ 16) (hn : gs.length ≤ 15000) (w : World) (h : Bld w lo hi b 41 (ins, gs, os)) (hhi : hi ≤ w.heap.size) (hC : NodeC w b wide cw c0 c1 c2 cb c3 c4)
    (ho : ¬ ownOf op = 0) (hpl : plainN (op, n)) (hn0 : 0 ≤ n) (hn1 : n ≤ 18446744073709551615) (hv : op = 2 → n ≤ 4) (hla : 1 ≤ manyOf op → a.length = lenK wide (partOf op)) (hlb : manyOf op = 2 → bb.length = lenK wide (partOf op))
    (hca : CapN av) (hcb : CapN bv) (ha : ∀ w', Fr lo w w' → IntsAt w' av a) (hb : ∀ w', Fr lo w w' → IntsAt w' bv bb) :
    Calls Tryd.prog 107 #[.agg #[.int .i64 op, .int .u64 n], av, bv, .pointer (some ⟨cw, 0, none⟩), .pointer (some ⟨c0, 0, none⟩), .pointer (some ⟨c1, 0, none⟩), .pointer (some ⟨c2, 0, none⟩), .pointer (some ⟨cb, 0, none⟩), .pointer (some ⟨c3, 0, none⟩), .pointer (some ⟨c4, 0, none⟩)] w (NodeOut lo hi b ins gs os w (layN wide op n a bb N)) := by
  have hr : 1 ≤ op ∧ op ≤ 20 := by
    unfold ownOf at ho
    split at ho
    · omega
    · split at ho <;> omega
  obtain ⟨p6, p7, p11, p12⟩ := hpl
  simp only at p6 p7 p11 p12
  have hm : op = 1 ∨ op = 2 ∨ op = 3 ∨ op = 4 ∨ op = 5 ∨ op = 8 ∨ op = 9 ∨ op = 10 ∨ op = 13 ∨ op = 14 ∨ op = 15 ∨ op = 16 ∨ op = 17 ∨ op = 18 ∨ op = 19 ∨ op = 20 := by omega
  clear hr p6 p7 p11 p12 ho
  rcases hm with rfl | rfl | rfl | rfl | rfl | rfl | rfl | rfl | rfl | rfl | rfl | rfl | rfl | rfl | rfl | rfl
  all_goals
    simp (config := {decide := true}) only [manyOf, partOf, lenK, if_true, if_false, forall_const] at hla hlb
    simp (config := {decide := true}) only [layN, if_true, if_false]
  · exact iNode_num lo hi b wide cw c0 c1 c2 cb c3 c4 hw1 hw4 ins gs os n av bv a bb N hN hI0 hI1 hn w h hhi hC hn0 hn1 hca hcb ha hb
  · exact iNode_var lo hi b wide cw c0 c1 c2 cb c3 c4 hw1 hw4 ins gs os n av bv a bb N hN hI0 hI1 hn w h hhi hC n.toNat (by have := hv rfl; omega) (by omega) hca hcb ha hb
  · exact iNode_add lo hi b wide cw c0 c1 c2 cb c3 c4 hw1 hw4 ins gs os n av bv a bb N hN hI0 hI1 hn w h hhi hC (by omega) (by omega) hca hcb ha hb
  · exact iNode_sub lo hi b wide cw c0 c1 c2 cb c3 c4 hw1 hw4 ins gs os n av bv a bb N hN hI0 hI1 hn w h hhi hC (by omega) (by omega) hca hcb ha hb
  · exact iNode_mul lo hi b wide cw c0 c1 c2 cb c3 c4 hw1 hw4 ins gs os n av bv a bb N hN hI0 hI1 hn w h hhi hC (by omega) (by omega) hca hcb ha hb
  · exact iNode_and lo hi b wide cw c0 c1 c2 cb c3 c4 hw1 hw4 ins gs os n av bv a bb N hN hI0 hI1 hn w h hhi hC (by omega) (by omega) hca hcb ha hb
  · exact iNode_or lo hi b wide cw c0 c1 c2 cb c3 c4 hw1 hw4 ins gs os n av bv a bb N hN hI0 hI1 hn w h hhi hC (by omega) (by omega) hca hcb ha hb
  · exact iNode_xor lo hi b wide cw c0 c1 c2 cb c3 c4 hw1 hw4 ins gs os n av bv a bb N hN hI0 hI1 hn w h hhi hC (by omega) (by omega) hca hcb ha hb
  · exact iNode_flip lo hi b wide cw c0 c1 c2 cb c3 c4 hw1 hw4 ins gs os n av bv a bb N hN hI0 hI1 hn w h hhi hC (by omega) hca hcb ha hb
  · exact iNode_eq lo hi b wide cw c0 c1 c2 cb c3 c4 hw1 hw4 ins gs os n av bv a bb N hN hI0 hI1 hn w h hhi hC (by omega) (by omega) hca hcb ha hb
  · exact iNode_less lo hi b wide cw c0 c1 c2 cb c3 c4 hw1 hw4 ins gs os n av bv a bb N hN hI0 hI1 hn w h hhi hC (by omega) (by omega) hca hcb ha hb
  · exact iNode_lessS lo hi b wide cw c0 c1 c2 cb c3 c4 hw1 hw4 ins gs os n av bv a bb N hN hI0 hI1 hn w h hhi hC (by omega) (by omega) (by omega) hca hcb ha hb
  · exact iNode_both lo hi b wide cw c0 c1 c2 cb c3 c4 hw1 hw4 ins gs os n av bv a bb N hN hI0 hI1 hn w h hhi hC (by omega) (by omega) hca hcb ha hb
  · exact iNode_either lo hi b wide cw c0 c1 c2 cb c3 c4 hw1 hw4 ins gs os n av bv a bb N hN hI0 hI1 hn w h hhi hC (by omega) (by omega) hca hcb ha hb
  · exact iNode_no lo hi b wide cw c0 c1 c2 cb c3 c4 hw1 hw4 ins gs os n av bv a bb N hN hI0 hI1 hn w h hhi hC (by omega) hca hcb ha hb
  · exact iNode_yes lo hi b wide cw c0 c1 c2 cb c3 c4 hw1 hw4 ins gs os n av bv a bb N hN hI0 hI1 hn w h hhi hC hn0 hn1 hca hcb ha hb
end Go.Proofs.YtpjllhlbdcanlaaDoor

namespace Go.Proofs.YtpjllhlbdcanlaaDoor
open Go Go.RowKit
open M

abbrev FV := Bool × Int × List Nd
/-- the one node of a value -/
def litN (op v : Int) : Nd := (if ownOf op = 2 then 20 else 1, v)
def fold0 (x : Nd) : FV := if x.1 = 2 then (true, 0, [x]) else (false, x.2, [litN x.1 x.2])
def fold1 (k : Nat) (x : Nd) (a : FV) : FV := if a.1 = true then (true, 0, a.2.2 ++ [x]) else (false, val1 k x a.2.1, [litN x.1 (val1 k x a.2.1)])
def fold2 (k : Nat) (x : Nd) (a b : FV) : FV := if (a.1 || b.1) = true then (true, 0, a.2.2 ++ b.2.2 ++ [x]) else (false, doOp k x.1 a.2.1 b.2.1, [litN x.1 (doOp k x.1 a.2.1 b.2.1)])
theorem tree_exists {α : Type} {wide vars : Int} {f0 : Nd → α} {f1 : Nd → α → α} {f2 : Nd → α → α → α} {t : List Nd} {n : Nat} {p : List (Ent α)} (h : pileE wide vars f0 f1 f2 t n = some p) {j : Nat} (hj : j < n) : ∃ e, TreeAt wide vars f0 f1 f2 t j e := by
  obtain ⟨q, hq⟩ := pileE_prefix n p h (j + 1) (by omega)
  obtain ⟨p0, x, _, _, hs⟩ := pileE_step hq
  obtain ⟨_, _, ⟨_, rfl⟩ | ⟨_, d, r, rfl, _, rfl⟩ | ⟨_, d, c, r, rfl, _, _, rfl⟩⟩ := stepE_inv hs
  · exact ⟨_, _, hq⟩
  · exact ⟨_, _, hq⟩
  · exact ⟨_, _, hq⟩
/-- no variable between two nodes -/
def NoVar (t : List Nd) (a j : Nat) : Prop := ∀ (i : Nat) (m : Int), a ≤ i → i ≤ j → t[i]? ≠ some (2, m)
theorem tree_two {k : Nat} {vars : Int} {t : List Nd} : ∀ (n j : Nat), j ≤ n → ∀ (e : Ent Int) (f : Ent FV), TreeAt k vars (val0 []) (val1 k) (val2 k) t j e → TreeAt k vars fold0 (fold1 k) (fold2 k) t j f →
    e.at0 = f.at0 ∧ e.kind = f.kind ∧ (f.val.1 = false → f.val.2.1 = e.val) ∧ (f.val.1 = false ↔ NoVar t f.at0 j)
  | n, j, hj, e, f, he, hf => by
    obtain ⟨⟨op, m⟩, hx, n1, n2, hcase⟩ := tree_cases he
    obtain ⟨y, hy, _, _, hcase'⟩ := tree_cases hf
    rw [hx] at hy
    obtain rfl := Option.some.inj hy
    simp only at hcase hcase' n1 n2
    rcases hcase with ⟨m0, rfl⟩ | ⟨m1, hj1, d, hd, hdk, hdj, rfl⟩ | ⟨m2, hj1, d, c, hd, hdk, hd1, hdj, hcc, hck, hcd, rfl⟩
    · rcases hcase' with ⟨_, rfl⟩ | ⟨m1, _⟩ | ⟨m2, _⟩
      · refine ⟨rfl, rfl, ?_, ?_⟩
        · intro h
          simp only [fold0] at h ⊢
          by_cases h2 : op = 2
          · subst h2
            simp at h
          · simp [val0, h2]
        · simp only [fold0]
          by_cases h2 : op = 2
          · subst h2
            simp only [if_true]
            constructor
            · intro h
              cases h
            · intro h
              exact absurd hx (h j m (Nat.le_refl _) (Nat.le_refl _))
          · simp only [if_neg h2]
            refine ⟨fun _ => ?_, fun _ => trivial⟩
            intro i q h0 h1 h3
            obtain rfl : i = j := by omega
            rw [hx] at h3
            simp at h3
            exact h2 h3.1
      · omega
      · omega
    · rcases hcase' with ⟨m0, _⟩ | ⟨_, _, d', hd', _, hdj', rfl⟩ | ⟨m2, _⟩
      · omega
      · match n, hj with
        | 0, hj => omega
        | n' + 1, hj =>
          obtain ⟨i1, i2, i3, i4⟩ := tree_two n' (j - 1) (by omega) d d' hd hd'
          have hop : op ≠ 2 := by
            intro e
            subst e
            exact absurd m1 (by decide)
          refine ⟨i1, rfl, ?_, ?_⟩
          · intro h
            simp only [fold1] at h ⊢
            split at h
            · cases h
            · rename_i hv
              have hv' : d'.val.1 = false := by simpa using hv
              rw [if_neg hv]
              simp only
              rw [i3 hv']
          · simp only [fold1]
            constructor
            · intro h
              split at h
              · cases h
              · rename_i hv
                have hv' : d'.val.1 = false := by simpa using hv
                have h4 := i4.1 hv'
                intro i q h0 h1 h3
                by_cases e : i = j
                · subst e
                  rw [hx] at h3
                  simp at h3
                  exact hop h3.1
                · exact h4 i q h0 (by omega) h3
            · intro h
              have h4 : d'.val.1 = false := i4.2 (fun i q h0 h1 => h i q h0 (by omega))
              rw [if_neg (by rw [h4]; decide)]
      · omega
    · rcases hcase' with ⟨m0, _⟩ | ⟨m1, _⟩ | ⟨_, _, d', c', hd', _, hd1', hdj', hcc', _, hcd', rfl⟩
      · omega
      · omega
      · match n, hj with
        | 0, hj => omega
        | n' + 1, hj =>
          obtain ⟨i1, i2, i3, i4⟩ := tree_two n' (j - 1) (by omega) d d' hd hd'
          rw [← i1] at hcc'
          obtain ⟨k1, k2, k3, k4⟩ := tree_two n' (d.at0 - 1) (by omega) c c' hcc hcc'
          have hop : op ≠ 2 := by
            intro e
            subst e
            exact absurd m2 (by decide)
          refine ⟨k1, rfl, ?_, ?_⟩
          · intro h
            simp only [fold2] at h ⊢
            split at h
            · cases h
            · rename_i hv
              have hv' : c'.val.1 = false ∧ d'.val.1 = false := by simpa using hv
              rw [if_neg hv]
              simp only
              rw [i3 hv'.2, k3 hv'.1]
              rfl
          · simp only [fold2]
            constructor
            · intro h
              split at h
              · cases h
              · rename_i hv
                have hv' : c'.val.1 = false ∧ d'.val.1 = false := by simpa using hv
                have h4 := i4.1 hv'.2
                have h5 := k4.1 hv'.1
                intro i q h0 h1 h3
                by_cases e : i = j
                · subst e
                  rw [hx] at h3
                  simp at h3
                  exact hop h3.1
                · by_cases hi : i ≤ d.at0 - 1
                  · exact h5 i q h0 hi h3
                  · exact h4 i q (by omega) (by omega) h3
            · intro h
              have h4 : d'.val.1 = false := i4.2 (fun i q h0 h1 => h i q (by omega) (by omega))
              have h5 : c'.val.1 = false := k4.2 (fun i q h0 h1 => h i q h0 (by omega))
              rw [if_neg (by rw [h4, h5]; decide)]
end Go.Proofs.YtpjllhlbdcanlaaDoor

namespace Go.Proofs.YtpjllhlbdcanlaaDoor
open Go Go.RowKit
open M
set_option linter.unusedVariables false

theorem own_single (w : World) (B : Nat) (op z : Int) (hB : B ≤ w.heap.size) : OwnNodes (w.alloc (.cells #[.int .i64 op, .int .u64 z] 80)) B (.slice (some ⟨w.heap.size, 0, none⟩) 1 1) [(op, z)] := by
  refine ⟨rfl, Or.inr ⟨w.heap.size, 1, #[.int .i64 op, .int .u64 z], rfl, hB, ?_, Nat.le_refl _, by unfold maxLen; omega, rfl, rfl⟩⟩
  show (w.heap.push _)[w.heap.size]? = _
  simp
end Go.Proofs.YtpjllhlbdcanlaaDoor

namespace Go.Proofs.YtpjllhlbdcanlaaDoor
open Go Go.RowKit
open M
set_option linter.unusedVariables false

def saidJoin (wide vars op : Int) (a b : List Nd) : Bool := decide (manyOf op = 2 ∧ kindL wide vars a = partOf op ∧ kindL wide vars b = partOf op ∧ 0 < kindL wide vars (a ++ b ++ [(op, 0)]))
end Go.Proofs.YtpjllhlbdcanlaaDoor

namespace Go.Proofs.YtpjllhlbdcanlaaDoor
open Go Go.RowKit
open M
set_option linter.unusedVariables false

theorem OwnNodes.low {w : World} {B C : Nat} {v : Value} {t : List Nd} (h : OwnNodes w B v t) (hc : C ≤ B) : OwnNodes w C v t := by
  obtain ⟨h1, h2⟩ := h
  refine ⟨h1, ?_⟩
  rcases h2 with h2 | ⟨g, cp, cur, hv, hg, r⟩
  · exact Or.inl h2
  · exact Or.inr ⟨g, cp, cur, hv, Nat.le_trans hc hg, r⟩
theorem one_cells2 (w : World) (op n : Int) : ∀ (j : Nat) (u : Value), ([.int .i64 op, .int .u64 n] : List Value)[j]? = some u → (w.alloc (.cells #[.int .i64 op, .int .u64 n] 80)).cell? ((⟨w.heap.size, 0, none⟩ : Addr).add j) = some u := by
  intro j u hu
  match j, hu with
  | 0, hu => simp at hu; subst hu; simp [Addr.add]
  | 1, hu => simp at hu; subst hu; simp [Addr.add]
end Go.Proofs.YtpjllhlbdcanlaaDoor

namespace Go.Proofs.YtpjllhlbdcanlaaDoor
open Go Go.RowKit
open M
set_option linter.unusedVariables false

theorem vars_foldl : ∀ (l : List Nd) (a : List Int), (l.foldl (fun l x => if x.1 = 2 then putL l x.2 else l) a).length ≤ a.length + l.length ∧ (l.foldl (fun l x => if x.1 = 2 then putL l x.2 else l) a = [] ↔ a = [] ∧ ∀ x ∈ l, x.1 ≠ 2)
  | [], a => by simp
  | x :: l, a => by
    rw [List.foldl_cons]
    have hp := putL_len a x.2
    by_cases h : x.1 = 2
    · rw [if_pos h]
      obtain ⟨h1, h2⟩ := vars_foldl l (putL a x.2)
      refine ⟨by rw [List.length_cons]; omega, ?_, ?_⟩
      · intro h3
        rw [(h2.1 h3).1] at hp
        simp at hp
      · intro h3
        exact absurd h (h3.2 x (by simp))
    · rw [if_neg h]
      obtain ⟨h1, h2⟩ := vars_foldl l a
      refine ⟨by rw [List.length_cons]; omega, ?_, ?_⟩
      · intro h3
        refine ⟨(h2.1 h3).1, ?_⟩
        intro y hy
        rcases List.mem_cons.1 hy with rfl | hy
        · exact h
        · exact (h2.1 h3).2 y hy
      · intro h3
        exact h2.2 ⟨h3.1, fun y hy => h3.2 y (List.mem_cons_of_mem _ hy)⟩
theorem varsL_both (l : List Nd) : (varsL l).length ≤ l.length ∧ (varsL l = [] ↔ ∀ x ∈ l, x.1 ≠ 2) := by
  obtain ⟨h1, h2⟩ := vars_foldl l []
  refine ⟨by unfold varsL; simpa using h1, ?_⟩
  unfold varsL
  rw [h2]
  simp
theorem litN_ok (op v : Int) (h0 : 0 ≤ v) (h1 : v ≤ 18446744073709551615) : NdOk (litN op v) := by
  unfold litN NdOk
  simp only
  split <;> omega
/-- a folded tree is no longer than the tree, and of nodes that can be -/
theorem fold_ok {k : Nat} (hk1 : 1 ≤ k) (hk : k ≤ 64) {vars : Int} {t : List Nd} (hok : ∀ x ∈ t, NdOk x) {N : Nat} {p : List (Ent Int)} (hp : pileE k vars (val0 []) (val1 k) (val2 k) t N = some p) :
    ∀ (n j : Nat), j ≤ n → j < N → ∀ (f : Ent FV), TreeAt k vars fold0 (fold1 k) (fold2 k) t j f →
      f.at0 ≤ j ∧ f.val.2.2.length ≤ j + 1 - f.at0 ∧ f.val.2.2 ≠ [] ∧ (∀ x ∈ f.val.2.2, NdOk x) ∧ (f.val.1 = false → 0 ≤ f.val.2.1 ∧ f.val.2.1 ≤ 18446744073709551615 ∧ ∀ x, t[j]? = some x → f.val.2.2 = [litN x.1 f.val.2.1])
  | n, j, hj, hjN, f, hf => by
    obtain ⟨e, he⟩ := tree_exists hp hjN
    obtain ⟨t1, t2, t3, t4⟩ := tree_two n j hj e f he hf
    have hpw := pw_le k hk
    have hval : f.val.1 = false → 0 ≤ f.val.2.1 ∧ f.val.2.1 ≤ 18446744073709551615 := by
      intro h
      have h4 := t4.1 h
      have hv := tree_ok hk1 hk (st := []) (fun x hx => (hok x hx).2.2.1) (by simp) j j (Nat.le_refl _) e he (fun i m h0 h1 h2 => absurd h2 (h4 i m (by omega) h1))
      have hw := hv.word hk1
      rw [t3 h]
      omega
    clear he t1 t2 t3 t4
    obtain ⟨⟨op, m⟩, hx, n1, n2, hcase⟩ := tree_cases hf
    have hmem := hok (op, m) (List.mem_of_getElem? hx)
    simp only at hcase n1 n2
    rcases hcase with ⟨m0, rfl⟩ | ⟨m1, hj1, d, hd, hdk, hdj, rfl⟩ | ⟨m2, hj1, d, c, hd, hdk, hd1, hdj, hcc, hck, hcd, rfl⟩
    · simp only [fold0] at hval ⊢
      by_cases h2 : op = 2
      · subst h2
        simp only [if_true]
        refine ⟨Nat.le_refl _, by simp, by simp, ?_, by simp⟩
        intro x hx'
        simp at hx'
        subst hx'
        exact hmem
      · simp only [if_neg h2] at hval ⊢
        refine ⟨Nat.le_refl _, by simp, by simp, ?_, ?_⟩
        · intro x hx'
          simp at hx'
          subst hx'
          exact litN_ok _ _ (hval trivial).1 (hval trivial).2
        · intro _
          refine ⟨(hval trivial).1, (hval trivial).2, ?_⟩
          intro x hx'
          rw [hx] at hx'
          obtain rfl := Option.some.inj hx'
          rfl
    · match n, hj with
      | 0, hj => omega
      | n' + 1, hj =>
        obtain ⟨i1, i2, i3, i4, i5⟩ := fold_ok hk1 hk hok hp n' (j - 1) (by omega) (by omega) d hd
        simp only [fold1] at hval ⊢
        by_cases hv : d.val.1 = true
        · simp only [if_pos hv]
          refine ⟨by omega, by rw [List.length_append]; simp; omega, by simp, ?_, by simp⟩
          intro x hx'
          rcases List.mem_append.1 hx' with h | h
          · exact i4 x h
          · simp at h
            subst h
            exact hmem
        · simp only [if_neg hv] at hval ⊢
          refine ⟨by omega, by simp; omega, by simp, ?_, ?_⟩
          · intro x hx'
            simp only [List.mem_singleton] at hx'
            subst hx'
            exact litN_ok _ _ (hval trivial).1 (hval trivial).2
          · intro _
            refine ⟨(hval trivial).1, (hval trivial).2, ?_⟩
            intro x hx'
            rw [hx] at hx'
            obtain rfl := Option.some.inj hx'
            rfl
    · match n, hj with
      | 0, hj => omega
      | n' + 1, hj =>
        obtain ⟨i1, i2, i3, i4, i5⟩ := fold_ok hk1 hk hok hp n' (j - 1) (by omega) (by omega) d hd
        obtain ⟨k1, k2, k3, k4, k5⟩ := fold_ok hk1 hk hok hp n' (d.at0 - 1) (by omega) (by omega) c hcc
        simp only [fold2] at hval ⊢
        by_cases hv : (c.val.1 || d.val.1) = true
        · simp only [if_pos hv]
          refine ⟨by omega, by rw [List.length_append, List.length_append]; simp; omega, by simp, ?_, by simp⟩
          intro x hx'
          rcases List.mem_append.1 hx' with h | h
          · rcases List.mem_append.1 h with h | h
            · exact k4 x h
            · exact i4 x h
          · simp at h
            subst h
            exact hmem
        · simp only [if_neg hv] at hval ⊢
          refine ⟨by omega, by simp; omega, by simp, ?_, ?_⟩
          · intro x hx'
            simp only [List.mem_singleton] at hx'
            subst hx'
            exact litN_ok _ _ (hval trivial).1 (hval trivial).2
          · intro _
            refine ⟨(hval trivial).1, (hval trivial).2, ?_⟩
            intro x hx'
            rw [hx] at hx'
            obtain rfl := Option.some.inj hx'
            rfl
theorem sub_get (t : List Nd) (a j i : Nat) (x : Nd) (h : ((t.drop a).take (j + 1 - a))[i]? = some x) : t[a + i]? = some x ∧ i < j + 1 - a := by
  rw [List.getElem?_take] at h
  split at h
  · rw [List.getElem?_drop] at h
    exact ⟨h, by assumption⟩
  · cases h
theorem sub_novar (t : List Nd) (a j : Nat) : NoVar t a j ↔ ∀ x ∈ (t.drop a).take (j + 1 - a), x.1 ≠ 2 := by
  constructor
  · intro h x hx h2
    obtain ⟨i, hi⟩ := List.mem_iff_getElem?.1 hx
    obtain ⟨h3, h4⟩ := sub_get t a j i x hi
    obtain ⟨x1, x2⟩ := x
    simp only at h2
    subst h2
    exact h (a + i) x2 (by omega) (by omega) h3
  · intro h i m h0 h1 h2
    refine h (2, m) ?_ rfl
    apply List.mem_iff_getElem?.2
    refine ⟨i - a, ?_⟩
    rw [List.getElem?_take, if_pos (by omega), List.getElem?_drop, show a + (i - a) = i by omega]
    exact h2
end Go.Proofs.YtpjllhlbdcanlaaDoor

namespace Go.Proofs.YtpjllhlbdcanlaaDoor
open Go Go.RowKit
open M
set_option linter.unusedVariables false

section
variable {k : Nat} {vars : Int} {t : List Nd} {b off cap : Nat} {p : List (Ent Int)}
end
end Go.Proofs.YtpjllhlbdcanlaaDoor

namespace Go.Proofs.YtpjllhlbdcanlaaDoor
open Go Go.RowKit
open M
set_option linter.unusedVariables false

/-- a slice whose length is within its capacity -/
def CapOk (v : Value) : Prop := ∀ (a : Option Addr) (n c : Nat), v = .slice a n c → n ≤ c ∧ c ≤ 9223372036854775807
theorem cap_of_own {w : World} {B : Nat} {v : Value} {t : List Nd} (h : OwnNodes w B v t) : CapOk v := by
  intro a n c e
  rcases h.2 with ⟨h1, h2⟩ | ⟨g, cap, cur, h1, _, _, h2, h3, _⟩
  · rw [h1] at e
    simp at e
    omega
  · rw [h1] at e
    simp at e
    unfold maxLen at h3
    omega
theorem fold_len {k : Nat} {vars : Int} {t : List Nd} : ∀ (n j : Nat), j ≤ n → ∀ (f : Ent FV), TreeAt k vars fold0 (fold1 k) (fold2 k) t j f → f.at0 ≤ j ∧ f.val.2.2.length ≤ j + 1 - f.at0
  | n, j, hj, f, hf => by
    obtain ⟨⟨op, m⟩, hx, n1, n2, hcase⟩ := tree_cases hf
    simp only at hcase n1 n2
    rcases hcase with ⟨m0, rfl⟩ | ⟨m1, hj1, d, hd, hdk, hdj, rfl⟩ | ⟨m2, hj1, d, c, hd, hdk, hd1, hdj, hcc, hck, hcd, rfl⟩
    · simp only [fold0]
      refine ⟨Nat.le_refl _, ?_⟩
      split <;> simp
    · match n, hj with
      | 0, hj => omega
      | n' + 1, hj =>
        obtain ⟨i1, i2⟩ := fold_len n' (j - 1) (by omega) d hd
        simp only [fold1]
        refine ⟨by omega, ?_⟩
        split
        · rw [List.length_append]
          simp only [List.length_singleton]
          omega
        · simp only [List.length_singleton]
          omega
    · match n, hj with
      | 0, hj => omega
      | n' + 1, hj =>
        obtain ⟨i1, i2⟩ := fold_len n' (j - 1) (by omega) d hd
        obtain ⟨k1, k2⟩ := fold_len n' (d.at0 - 1) (by omega) c hcc
        simp only [fold2]
        refine ⟨by omega, ?_⟩
        split
        · rw [List.length_append, List.length_append]
          simp only [List.length_singleton]
          omega
        · simp only [List.length_singleton]
          omega
def foldL (wide vars : Int) (t : List Nd) : List Nd :=
  if 0 < kindL wide vars t then
    match pileE wide vars fold0 (fold1 wide.toNat) (fold2 wide.toNat) t t.length with
    | some (f :: _) => f.val.2.2
    | _ => []
  else []
theorem foldL_root {wide vars : Int} {t : List Nd} (h : 0 < kindL wide vars t) : ∃ k : Nat, wide = k ∧ 1 ≤ k ∧ k ≤ 64 ∧ vars ≤ 4 ∧ 1 ≤ t.length ∧ t.length ≤ 48 ∧
    (∃ f, TreeAt k vars fold0 (fold1 k) (fold2 k) t (t.length - 1) f ∧ foldL wide vars t = f.val.2.2) ∧ ∃ p, pileE k vars (val0 []) (val1 k) (val2 k) t t.length = some p := by
  obtain ⟨g1, g2, g3, g4, g5, f, ht, hk⟩ := tree_root (f0 := fold0) (f1 := fold1 wide.toNat) (f2 := fold2 wide.toNat) h
  obtain ⟨_, _, _, _, _, e, he, _⟩ := tree_root (f0 := val0 []) (f1 := val1 wide.toNat) (f2 := val2 wide.toNat) h
  obtain ⟨k, rfl, hk1, hk64⟩ := wideB_true g1
  refine ⟨k, rfl, hk1, hk64, g3, g4, g5, ⟨f, by simpa using ht, ?_⟩, ?_⟩
  · unfold foldL
    rw [if_pos h]
    obtain ⟨r, hr⟩ := ht
    rw [show t.length - 1 + 1 = t.length from by omega] at hr
    rw [hr]
  · obtain ⟨r, hr⟩ := he
    rw [show t.length - 1 + 1 = t.length from by omega] at hr
    exact ⟨e :: r, by simpa using hr⟩
theorem foldTerm_len0 (wide vars : Int) (t : List Nd) : (foldL wide vars t).length ≤ t.length := by
  by_cases h : 0 < kindL wide vars t
  · obtain ⟨k, rfl, _, _, _, h1, _, ⟨f, hf, e⟩, _⟩ := foldL_root h
    have := fold_len (t.length - 1) (t.length - 1) (Nat.le_refl _) f hf
    rw [e]
    omega
  · unfold foldL
    rw [if_neg h]
    simp
theorem foldTerm_reads0 (wide vars : Int) (t : List Nd) (hwide0 : -9223372036854775808 ≤ wide) (hwide1 : wide ≤ 9223372036854775807) (hvars0 : -9223372036854775808 ≤ vars) (hvars1 : vars ≤ 9223372036854775807) (hok : ∀ x ∈ t, NdOk x) (hl : t.length ≤ 1048576) :
    ∀ (w1 : World) (B : Nat) (v1 : Value), OwnNodes w1 B v1 (foldL wide vars t) → NodesAt w1 v1 (foldL wide vars t) := by
  intro w1 B v1 ho
  have hlen := foldTerm_len0 wide vars t
  refine nodes_of_own ?_ (by omega) ho
  by_cases h : 0 < kindL wide vars t
  · obtain ⟨k, rfl, hk1, hk, _, h1, _, ⟨f, hf, e⟩, p, hp⟩ := foldL_root h
    rw [e]
    exact (fold_ok hk1 hk hok hp (t.length - 1) (t.length - 1) (Nat.le_refl _) (by omega) f hf).2.2.2.1
  · unfold foldL
    rw [if_neg h]
    simp
end Go.Proofs.YtpjllhlbdcanlaaDoor

namespace Go.Proofs.YtpjllhlbdcanlaaDoor
open Go Go.RowKit
open M
set_option linter.unusedVariables false

/-- a slice of slices of nodes -/
def NodesSS (w : World) (v : Value) (bs : List (List Nd)) : Prop :=
  bs.length ≤ 9223372036854775807 ∧ ((bs = [] ∧ ∃ (a : Option Addr) (cap : Nat), v = .slice a 0 cap) ∨
  ∃ b off cap : Nat, v = .slice (some ⟨b, off, none⟩) bs.length cap ∧ b < w.heap.size ∧ ∀ (i : Nat) (t : List Nd), bs[i]? = some t → ∃ u : Value, w.cell? ⟨b, off + i, none⟩ = some u ∧ NodesAt w u t)
theorem NodesSS.below {w w' : World} {v : Value} {bs : List (List Nd)} (h : NodesSS w v bs) (hb : Below w.heap.size w w') : NodesSS w' v bs := by
  obtain ⟨h1, h2⟩ := h
  refine ⟨h1, ?_⟩
  rcases h2 with h2 | ⟨b, off, cap, hv, hlt, hc⟩
  · exact Or.inl h2
  · refine Or.inr ⟨b, off, cap, hv, Nat.lt_of_lt_of_le hlt hb.size, fun i t ht => ?_⟩
    obtain ⟨u, h3, h4⟩ := hc i t ht
    refine ⟨u, ?_, h4.below hb⟩
    rw [hb.cell (p := ⟨b, off + i, none⟩) hlt]
    exact h3
/-- for each variable its nodes, for any other node itself -/
def putsL (bs : List (List Nd)) (t : List Nd) : List Nd := t.flatMap fun x => if x.1 = 2 then bs.getD x.2.toNat [] else [x]
theorem putsL_snoc (bs : List (List Nd)) (t : List Nd) (x : Nd) : putsL bs (t ++ [x]) = putsL bs t ++ (if x.1 = 2 then bs.getD x.2.toNat [] else [x]) := by
  unfold putsL
  rw [List.flatMap_append]
  simp
end Go.Proofs.YtpjllhlbdcanlaaDoor

namespace Go.Proofs.YtpjllhlbdcanlaaDoor
open Go Go.RowKit
open M
set_option linter.unusedVariables false

theorem NodesSS.shape {w : World} {v : Value} {bs : List (List Nd)} (h : NodesSS w v bs) : ∃ (a : Option Addr) (cap : Nat), v = .slice a bs.length cap := by
  rcases h.2 with ⟨rfl, a, cap, h⟩ | ⟨b, off, cap, h, _⟩
  · exact ⟨a, cap, h⟩
  · exact ⟨_, cap, h⟩
def canPut (wide vars : Int) (t : List Nd) (bs : List (List Nd)) : Bool := decide (0 < kindL wide vars t) && (decide ((bs.length : Int) = vars) && bs.all fun u => decide (kindL wide vars u = 1))
def saidPut (wide vars : Int) (t : List Nd) (bs : List (List Nd)) : Bool := canPut wide vars t bs && decide (0 < kindL wide vars (putsL bs t))
def putAllL (wide vars : Int) (t : List Nd) (bs : List (List Nd)) : List Nd := if canPut wide vars t bs = true then madeL wide vars (putsL bs t) else []
end Go.Proofs.YtpjllhlbdcanlaaDoor

namespace Go.Proofs.YtpjllhlbdcanlaaDoor
open Go Go.RowKit
open M
set_option linter.unusedVariables false

/-- what a tree comes to -/
def trVal (k : Nat) (st : List Int) : Tr → Int
  | .leaf x => val0 st x
  | .one x a => val1 k x (trVal k st a)
  | .two x a b => val2 k x (trVal k st a) (trVal k st b)
/-- a variable is in it -/
def trVar : Tr → Bool
  | .leaf x => decide (x.1 = 2)
  | .one _ a => trVar a
  | .two _ a b => trVar a || trVar b
def trFold (k : Nat) : Tr → Tr
  | .leaf x => if x.1 = 2 then .leaf x else .leaf (litN x.1 x.2)
  | .one x a => if trVar a = true then .one x (trFold k a) else .leaf (litN x.1 (val1 k x (trVal k [] a)))
  | .two x a b => if (trVar a || trVar b) = true then .two x (trFold k a) (trFold k b) else .leaf (litN x.1 (val2 k x (trVal k [] a) (trVal k [] b)))
def trPut (bs : List Tr) : Tr → Tr
  | .leaf x => if x.1 = 2 then bs.getD x.2.toNat (.leaf x) else .leaf x
  | .one x a => .one x (trPut bs a)
  | .two x a b => .two x (trPut bs a) (trPut bs b)
/-- the values of a good term are those of its tree -/
theorem valueL_tree {wide : Int} {t : List Nd} {st : List Int} {r : Tr} (hs : saidV wide t st = true) (hr : pileT wide st.length t t.length = some [⟨0, r.kind, r⟩]) : valueL wide t st = trVal wide.toNat st r := by
  unfold valueL
  rw [if_pos hs, pileE_map (f0 := Tr.leaf) (f1 := Tr.one) (f2 := Tr.two) (g0 := val0 st) (g1 := val1 wide.toNat) (g2 := val2 wide.toNat) (trVal wide.toNat st) (fun _ => rfl) (fun _ _ => rfl) (fun _ _ _ => rfl)]
  rw [show pileE wide st.length Tr.leaf Tr.one Tr.two t t.length = some [⟨0, r.kind, r⟩] from hr]
  rfl
def trFV (k : Nat) : Tr → FV
  | .leaf x => fold0 x
  | .one x a => fold1 k x (trFV k a)
  | .two x a b => fold2 k x (trFV k a) (trFV k b)
theorem trFV_eq (k : Nat) : ∀ t : Tr, trFV k t = (trVar t, if trVar t = true then 0 else trVal k [] t, (trFold k t).flat)
  | .leaf x => by
    simp only [trFV, fold0, trVar, trFold, trVal, val0]
    by_cases h : x.1 = 2 <;> simp [h, Tr.flat]
  | .one x a => by
    have ha := trFV_eq k a
    simp only [trFV, ha, fold1, trVar, trFold, trVal]
    by_cases h : trVar a = true <;> simp [h, Tr.flat]
  | .two x a b => by
    have ha := trFV_eq k a
    have hb := trFV_eq k b
    simp only [trFV, ha, hb, fold2, trVar, trFold, trVal]
    by_cases h1 : trVar a = true <;> by_cases h2 : trVar b = true <;> simp [Tr.flat, val2, h1, h2]
theorem foldL_tree {wide vars : Int} {t : List Nd} {r : Tr} (h : 0 < kindL wide vars t) (hr : pileT wide vars t t.length = some [⟨0, r.kind, r⟩]) : foldL wide vars t = (trFold wide.toNat r).flat := by
  unfold foldL
  rw [if_pos h, pileE_map (f0 := Tr.leaf) (f1 := Tr.one) (f2 := Tr.two) (g0 := fold0) (g1 := fold1 wide.toNat) (g2 := fold2 wide.toNat) (trFV wide.toNat) (fun _ => rfl) (fun _ _ => rfl) (fun _ _ _ => rfl)]
  rw [show pileE wide vars Tr.leaf Tr.one Tr.two t t.length = some [⟨0, r.kind, r⟩] from hr]
  show (trFV wide.toNat r).2.2 = _
  rw [trFV_eq]
/-- all numbers of a tree are at least 0 -/
abbrev Pos (t : Tr) : Prop := ∀ x ∈ t.flat, 0 ≤ x.2
/-- its variables are below n -/
abbrev VarsBelow (t : Tr) (n : Nat) : Prop := ∀ x ∈ t.flat, x.1 = 2 → x.2.toNat < n
theorem ok_vars {wide vars : Int} : ∀ {t : Tr}, t.Ok wide vars → ∀ x ∈ t.flat, x.1 = 2 → x.2 < vars
  | .leaf y, h, x, hx, h2 => by
    simp only [Tr.flat, List.mem_singleton] at hx
    subst hx
    have := h.2.1
    rw [h2] at this
    exact of_decide_eq_true (show decide (x.2 < vars) = true from this)
  | .one y a, h, x, hx, h2 => by
    simp only [Tr.flat, List.mem_append, List.mem_singleton] at hx
    rcases hx with hx | rfl
    · exact ok_vars h.2.2.2.2 x hx h2
    · have := h.2.2.1
      rw [h2] at this
      exact absurd this (by decide)
  | .two y a b, h, x, hx, h2 => by
    simp only [Tr.flat, List.mem_append, List.mem_singleton] at hx
    rcases hx with (hx | hx) | rfl
    · exact ok_vars h.2.2.2.2.2.1 x hx h2
    · exact ok_vars h.2.2.2.2.2.2 x hx h2
    · have := h.2.2.1
      rw [h2] at this
      exact absurd this (by decide)
theorem trVar_iff : ∀ {wide vars : Int} {t : Tr}, t.Ok wide vars → (trVar t = true ↔ ∃ x ∈ t.flat, x.1 = 2)
  | wide, vars, .leaf y, h => by simp [trVar, Tr.flat]
  | wide, vars, .one y a, h => by
    have ha := trVar_iff h.2.2.2.2
    have hy : y.1 ≠ 2 := by intro e; have := h.2.2.1; rw [e] at this; exact absurd this (by decide)
    simp only [trVar, ha, Tr.flat, List.mem_append, List.mem_singleton]
    constructor
    · rintro ⟨x, hx, h2⟩
      exact ⟨x, Or.inl hx, h2⟩
    · rintro ⟨x, hx | rfl, h2⟩
      · exact ⟨x, hx, h2⟩
      · exact absurd h2 hy
  | wide, vars, .two y a b, h => by
    have ha := trVar_iff h.2.2.2.2.2.1
    have hb := trVar_iff h.2.2.2.2.2.2
    have hy : y.1 ≠ 2 := by intro e; have := h.2.2.1; rw [e] at this; exact absurd this (by decide)
    simp only [trVar, Bool.or_eq_true, ha, hb, Tr.flat, List.mem_append, List.mem_singleton]
    constructor
    · rintro (⟨x, hx, h2⟩ | ⟨x, hx, h2⟩)
      · exact ⟨x, Or.inl (Or.inl hx), h2⟩
      · exact ⟨x, Or.inl (Or.inr hx), h2⟩
    · rintro ⟨x, (hx | hx) | rfl, h2⟩
      · exact Or.inl ⟨x, hx, h2⟩
      · exact Or.inr ⟨x, hx, h2⟩
      · exact absurd h2 hy
/-- a tree's value is a word or a truth -/
theorem trVal_ok {k : Nat} (hk1 : 1 ≤ k) (hk : k ≤ 64) {vars : Int} {st : List Int} (hst : ∀ s ∈ st, 0 ≤ s ∧ s < pw k) : ∀ {t : Tr}, t.Ok k vars → Pos t → VarsBelow t st.length → ValOk k ⟨0, t.kind, trVal k st t⟩
  | .leaf ⟨op, m⟩, h, hp, hv => by
    obtain ⟨n1, n2, m0⟩ := h
    have hm0 := hp (op, m) (by simp [Tr.flat])
    have hvv := hv (op, m) (by simp [Tr.flat])
    simp only at n1 n2 m0 hm0 hvv
    have hop : op = 1 ∨ op = 2 ∨ op = 20 := by
      unfold manyOf at m0
      unfold ownOf at n1
      split at m0
      · omega
      · split at m0
        · omega
        · split at n1
          · omega
          · split at n1 <;> omega
    rcases hop with rfl | rfl | rfl
    · left
      obtain ⟨k', e1, _, _, h3⟩ := goodB_true (show goodB k m = true from n2)
      obtain rfl : k = k' := by omega
      exact ⟨rfl, hm0, h3⟩
    · left
      have hlt := hvv rfl
      have hmem : st.getD m.toNat 0 ∈ st := by
        rw [List.getD_eq_getElem?_getD, List.getElem?_eq_getElem hlt]
        exact List.getElem_mem hlt
      exact ⟨rfl, (hst _ hmem).1, (hst _ hmem).2⟩
    · right
      have h2 : m < 2 := of_decide_eq_true (show decide (m < 2) = true from n2)
      exact ⟨rfl, by show m = 0 ∨ m = 1; omega⟩
  | .one ⟨op, m⟩ a, h, hp, hv => by
    obtain ⟨n1, n2, m1, hk2, ha⟩ := h
    have ih := trVal_ok hk1 hk hst ha (fun x hx => hp x (by simp [Tr.flat, hx])) (fun x hx => hv x (by simp [Tr.flat, hx]))
    have hop : op = 13 ∨ op = 19 := by
      unfold manyOf at m1
      split at m1
      · assumption
      · split at m1 <;> omega
    rcases hop with rfl | rfl
    · rcases ih with ⟨_, h0, h1⟩ | ⟨hk3, _⟩
      · simp only at h0 h1
        exact Or.inl ⟨rfl, by show 0 ≤ pw k - 1 - trVal k st a; omega, by show pw k - 1 - trVal k st a < pw k; omega⟩
      · simp only at hk3
        rw [hk3] at hk2
        cases hk2
    · rcases ih with ⟨hk3, _⟩ | ⟨_, h0⟩
      · simp only at hk3
        rw [hk3] at hk2
        cases hk2
      · simp only at h0
        exact Or.inr ⟨rfl, by show 1 - trVal k st a = 0 ∨ 1 - trVal k st a = 1; omega⟩
  | .two ⟨op, m⟩ a b, h, hp, hv => by
    obtain ⟨n1, n2, m2, hka, hkb, ha, hb⟩ := h
    have ih1 := trVal_ok hk1 hk hst ha (fun x hx => hp x (by simp [Tr.flat, hx])) (fun x hx => hv x (by simp [Tr.flat, hx]))
    have ih2 := trVal_ok hk1 hk hst hb (fun x hx => hp x (by simp [Tr.flat, hx])) (fun x hx => hv x (by simp [Tr.flat, hx]))
    have hop : (3 ≤ op ∧ op ≤ 12) ∨ (14 ≤ op ∧ op ≤ 16) ∨ (op = 17 ∨ op = 18) := by
      unfold manyOf at m2
      split at m2
      · cases m2
      · split at m2 <;> omega
    have w1 := ih1.word hk1
    have w2 := ih2.word hk1
    simp only at w1 w2
    rcases hop with hop | hop | hop
    · left
      have h := doOp_word k hk op (trVal k st a) (trVal k st b) hop w1.1 w1.2 w2.1 w2.2
      exact ⟨by show ownOf op = 1; unfold ownOf; rw [if_pos (by omega)], h.1, h.2⟩
    · right
      exact ⟨by show ownOf op = 2; unfold ownOf; rw [if_neg (by omega), if_pos (by omega)], doOp_cond k op _ _ hop⟩
    · right
      have hp2 : partOf op = 2 := by
        unfold partOf
        rw [if_neg (by omega), if_pos (by omega)]
      simp only at hka hkb
      rw [hp2] at hka hkb
      have v1 : trVal k st a = 0 ∨ trVal k st a = 1 := by
        rcases ih1 with ⟨h, _⟩ | ⟨_, h⟩
        · simp only at h
          rw [h] at hka
          cases hka
        · exact h
      have v2 : trVal k st b = 0 ∨ trVal k st b = 1 := by
        rcases ih2 with ⟨h, _⟩ | ⟨_, h⟩
        · simp only at h
          rw [h] at hkb
          cases hkb
        · exact h
      exact ⟨by show ownOf op = 2; unfold ownOf; rw [if_neg (by omega), if_pos (by omega)], doOp_both k op _ _ hop v1 v2⟩
/-- the variables of a term in their order -/
def sorted4 (f : Int → Bool) : List Int := [0, 1, 2, 3].filter f
theorem putL_sorted (f : Int → Bool) (n : Int) (h : n = 0 ∨ n = 1 ∨ n = 2 ∨ n = 3) : putL (sorted4 f) n = sorted4 (fun i => f i || i == n) := by
  unfold sorted4
  simp only [List.filter]
  rcases h with rfl | rfl | rfl | rfl <;> cases f 0 <;> cases f 1 <;> cases f 2 <;> cases f 3 <;> rfl
theorem varsL_sorted : ∀ (n : Nat) (t : List Nd), t.length = n → (∀ x ∈ t, x.1 = 2 → 0 ≤ x.2 ∧ x.2 < 4) → varsL t = sorted4 (fun i => decide ((2, i) ∈ t))
  | 0, t, hn, _ => by
    obtain rfl := List.length_eq_zero_iff.1 hn
    rfl
  | n + 1, t, hn, h => by
    have hne : t ≠ [] := by intro e; subst e; simp at hn
    have e : t = t.dropLast ++ [t.getLast hne] := (List.dropLast_concat_getLast hne).symm
    generalize t.getLast hne = x at e
    generalize t.dropLast = u at e
    subst e
    have ih := varsL_sorted n u (by simpa using hn) (fun x hx => h x (by simp [hx]))
    rw [varsL_snoc, ih]
    have hx := h x (by simp)
    obtain ⟨op, m⟩ := x
    simp only at hx ⊢
    by_cases h2 : op = 2
    · subst h2
      have h4 := hx rfl
      rw [if_pos rfl, putL_sorted _ m (by omega)]
      congr 1
      funext i
      by_cases h1 : (2, i) ∈ u
      · simp [h1]
      · by_cases h3 : i = m
        · simp [h3]
        · simp [h1, h3]
    · rw [if_neg h2]
      congr 1
      funext i
      have : ((2, i) : Nd) ≠ (op, m) := by intro e; simp at e; exact h2 e.1.symm
      simp [this]
end Go.Proofs.YtpjllhlbdcanlaaDoor

namespace Go.Proofs.YtpjllhlbdcanlaaDoor
open Go
open M
set_option linter.unusedVariables false
set_option linter.unusedSimpArgs false

/-- what parts lay, one behind the other -/
def layQ (W : Nat) : List Tr → Int → List Gt × List (List Int)
  | [], _ => ([], [])
  | q :: qs, S => ((layT W q S).1 ++ (layQ W qs (S + (layT W q S).1.length)).1, (layT W q S).2 :: (layQ W qs (S + (layT W q S).1.length)).2)
theorem layQ_snoc (W : Nat) : ∀ (l : List Tr) (q : Tr) (S : Int), layQ W (l ++ [q]) S = ((layQ W l S).1 ++ (layT W q (S + (layQ W l S).1.length)).1, (layQ W l S).2 ++ [(layT W q (S + (layQ W l S).1.length)).2])
  | [], q, S => by simp [layQ]
  | p :: l, q, S => by
    simp only [List.cons_append, layQ]
    rw [layQ_snoc W l q]
    simp only [List.append_assoc, List.length_append]
    have e : ∀ (A : Int) (m n : Nat), A + (m : Int) + (n : Int) = A + ((m + n : Nat) : Int) := fun A m n => by omega
    rw [e]
theorem layT_eq (W : Nat) (r : Tr) (S : Int) : layT W r S = ((layQ W r.parts S).1 ++ (layN W r.nd.1 r.nd.2 ((layQ W r.parts S).2.getD 0 []) ((layQ W r.parts S).2.getD 1 []) (S + (layQ W r.parts S).1.length)).1, (layN W r.nd.1 r.nd.2 ((layQ W r.parts S).2.getD 0 []) ((layQ W r.parts S).2.getD 1 []) (S + (layQ W r.parts S).1.length)).2) := by
  have e : ∀ (A : Int) (m n : Nat), A + (m : Int) + (n : Int) = A + ((m + n : Nat) : Int) := fun A m n => by omega
  cases r with
  | leaf x => simp [layT, layQ, Tr.parts, Tr.nd]
  | one x a => simp [layT, layQ, Tr.parts, Tr.nd]
  | two x a b =>
    simp only [layT, layQ, Tr.parts, Tr.nd, List.append_nil, List.length_append, List.append_assoc, e]
    simp
/-- no node of a tree divides or shifts -/
def plainT (r : Tr) : Prop := ∀ x ∈ r.flat, plainN x
theorem plainT_nd {r : Tr} (h : plainT r) : plainN r.nd := h _ (by rw [Tr.flat_eq r]; simp)
theorem plainT_parts {r : Tr} (h : plainT r) : ∀ q ∈ r.parts, plainT q := fun q hq x hx => h x (by rw [Tr.flat_eq r]; exact List.mem_append_left _ (List.mem_flatMap.2 ⟨q, hq, hx⟩))
/-- how many gates and wires a tree has -/
theorem layT_len (W : Nat) (hW : W ≤ 4) {k vars : Int} : ∀ (r : Tr), r.Ok k vars → plainT r → ∀ S : Int, (layT W r S).1.length ≤ 110 * r.size ∧ (layT W r S).2.length = lenK W r.kind := by
  apply Tr.ind
  intro r ih hok hp S
  obtain ⟨h1, h2, h3⟩ := Tr.ok_nd hok
  have hpar := Tr.ok_parts hok
  cases r with
  | leaf x =>
    have hl := layN_len W hW x.1 x.2 [] [] S h1 (plainT_nd hp) (fun h => by simp [Tr.nd, Tr.parts] at h3; omega) (fun h => by simp [Tr.nd, Tr.parts] at h3; omega)
    simp only [layT, Tr.size]
    exact ⟨by omega, hl.2⟩
  | one x a =>
    have ha := ih a (by simp [Tr.parts]) (hpar a (by simp [Tr.parts])).2 (plainT_parts hp a (by simp [Tr.parts])) S
    have hk := (hpar a (by simp [Tr.parts])).1
    have hl := layN_len W hW x.1 x.2 (layT W a S).2 [] (S + (layT W a S).1.length) h1 (plainT_nd hp) (fun _ => by rw [ha.2, hk]; rfl) (fun h => by simp [Tr.nd, Tr.parts] at h3; omega)
    simp only [layT, Tr.size, List.length_append]
    exact ⟨by omega, hl.2⟩
  | two x a b =>
    have ha := ih a (by simp [Tr.parts]) (hpar a (by simp [Tr.parts])).2 (plainT_parts hp a (by simp [Tr.parts])) S
    have hb := ih b (by simp [Tr.parts]) (hpar b (by simp [Tr.parts])).2 (plainT_parts hp b (by simp [Tr.parts])) (S + (layT W a S).1.length)
    have hk := (hpar a (by simp [Tr.parts])).1
    have hk2 := (hpar b (by simp [Tr.parts])).1
    have hl := layN_len W hW x.1 x.2 (layT W a S).2 (layT W b (S + (layT W a S).1.length)).2 (S + (layT W a S).1.length + (layT W b (S + (layT W a S).1.length)).1.length) h1 (plainT_nd hp) (fun _ => by rw [ha.2, hk]; rfl) (fun _ => by rw [hb.2, hk2]; rfl)
    simp only [layT, Tr.size, List.length_append]
    exact ⟨by omega, hl.2⟩
theorem layQ_len (W : Nat) (hW : W ≤ 4) {k vars : Int} : ∀ (l : List Tr), (∀ q ∈ l, q.Ok k vars ∧ plainT q) → ∀ S : Int, (layQ W l S).1.length ≤ 110 * sizes l ∧ (layQ W l S).2.length = l.length ∧ ∀ (i : Nat) (q : Tr) (x : List Int), l[i]? = some q → (layQ W l S).2[i]? = some x → x.length = lenK W q.kind
  | [], _, S => by simp [layQ, sizes]
  | q :: l, h, S => by
    have hq := layT_len W hW q (h q (by simp)).1 (h q (by simp)).2 S
    have ih := layQ_len W hW l (fun p hp => h p (by simp [hp])) (S + (layT W q S).1.length)
    refine ⟨?_, ?_, ?_⟩
    · simp only [layQ, List.length_append, sizes]
      omega
    · simp only [layQ, List.length_cons, ih.2.1]
    · intro i p x hi hx
      cases i with
      | zero =>
        simp only [layQ, List.getElem?_cons_zero, Option.some.injEq] at hi hx
        subst hi hx
        exact hq.2
      | succ i =>
        simp only [layQ, List.getElem?_cons_succ] at hi hx
        exact ih.2.2 i p x hi hx
end Go.Proofs.YtpjllhlbdcanlaaDoor

namespace Go.Proofs.YtpjllhlbdcanlaaDoor
open Go Go.RowKit
open M
set_option linter.unusedVariables false

/-- the kind of an op's parts; 0 where it has none -/
def wantOf (op : Int) : Int := if manyOf op = 0 then 0 else partOf op
theorem wantOf_part {op : Int} (h : manyOf op ≠ 0) : wantOf op = partOf op := by unfold wantOf; rw [if_neg h]
set_option maxHeartbeats 2000000 in
theorem shapeOf_any (op : Int) (w : World) :
    Calls Tryd.prog 80 #[.int .i64 op] w fun e w' => e = .returned (.tuple #[.int .i64 (manyOf op), .int .i64 (wantOf op), .int .i64 (ownOf op)]) ∧ w' = w := by
  by_cases h : 1 ≤ op ∧ op ≤ 20
  · rcases (show op = 1 ∨ op = 2 ∨ op = 3 ∨ op = 4 ∨ op = 5 ∨ op = 6 ∨ op = 7 ∨ op = 8 ∨ op = 9 ∨ op = 10 ∨ op = 11 ∨ op = 12 ∨ op = 13 ∨ op = 14 ∨ op = 15 ∨ op = 16 ∨ op = 17 ∨ op = 18 ∨ op = 19 ∨ op = 20 by omega) with rfl | rfl | rfl | rfl | rfl | rfl | rfl | rfl | rfl | rfl | rfl | rfl | rfl | rfl | rfl | rfl | rfl | rfl | rfl | rfl
    all_goals
      go_enter Tryd.func80, Tryd.ntmps80
      go_wp2
      go_ret3
      exact ⟨rfl, rfl⟩
  · have hm : manyOf op = 0 := by unfold manyOf; (repeat' split) <;> omega
    have hw : wantOf op = 0 := by unfold wantOf; rw [if_pos hm]
    have ho : ownOf op = 0 := by unfold ownOf; (repeat' split) <;> omega
    rw [hm, hw, ho]
    clear hm hw ho
    have e1 : (op == 1) = false := beq_eq_false_iff_ne.2 (by omega)
    have e2 : (op == 2) = false := beq_eq_false_iff_ne.2 (by omega)
    have e3 : (op == 3) = false := beq_eq_false_iff_ne.2 (by omega)
    have e4 : (op == 4) = false := beq_eq_false_iff_ne.2 (by omega)
    have e5 : (op == 5) = false := beq_eq_false_iff_ne.2 (by omega)
    have e6 : (op == 6) = false := beq_eq_false_iff_ne.2 (by omega)
    have e7 : (op == 7) = false := beq_eq_false_iff_ne.2 (by omega)
    have e8 : (op == 8) = false := beq_eq_false_iff_ne.2 (by omega)
    have e9 : (op == 9) = false := beq_eq_false_iff_ne.2 (by omega)
    have e10 : (op == 10) = false := beq_eq_false_iff_ne.2 (by omega)
    have e11 : (op == 11) = false := beq_eq_false_iff_ne.2 (by omega)
    have e12 : (op == 12) = false := beq_eq_false_iff_ne.2 (by omega)
    have e13 : (op == 13) = false := beq_eq_false_iff_ne.2 (by omega)
    have e14 : (op == 14) = false := beq_eq_false_iff_ne.2 (by omega)
    have e15 : (op == 15) = false := beq_eq_false_iff_ne.2 (by omega)
    have e16 : (op == 16) = false := beq_eq_false_iff_ne.2 (by omega)
    have e17 : (op == 17) = false := beq_eq_false_iff_ne.2 (by omega)
    have e18 : (op == 18) = false := beq_eq_false_iff_ne.2 (by omega)
    have e19 : (op == 19) = false := beq_eq_false_iff_ne.2 (by omega)
    have e20 : (op == 20) = false := beq_eq_false_iff_ne.2 (by omega)
    clear h
    go_enter Tryd.func80, Tryd.ntmps80
    go_wp2
    go_ret3
    exact ⟨rfl, rfl⟩
theorem goodVars_yes (vars : Int) (h : 1 ≤ vars ∧ vars ≤ 4) (w : World) :
    Calls Tryd.prog 40 #[.int .i64 vars] w fun e w' => e = .returned (.bool true) ∧ w' = w := by
  obtain ⟨h1, h2⟩ := h
  have hd : decide (vars ≤ 4) = true := decide_eq_true h2
  go_enter Tryd.func40, Tryd.ntmps40
  go_wp2
  go_ret
  exact ⟨ret_bool (by first | rfl | exact hd), rfl⟩
theorem goodVars_no (vars : Int) (h : ¬ (1 ≤ vars ∧ vars ≤ 4)) (w : World) :
    Calls Tryd.prog 40 #[.int .i64 vars] w fun e w' => e = .returned (.bool false) ∧ w' = w := by
  by_cases h1 : 1 ≤ vars
  · have hd : decide (vars ≤ 4) = false := decide_eq_false (by omega)
    go_enter Tryd.func40, Tryd.ntmps40
    go_wp2
    go_ret
    exact ⟨ret_bool (by first | rfl | exact hd), rfl⟩
  · go_enter Tryd.func40, Tryd.ntmps40
    go_wp2
    go_ret
    exact ⟨rfl, rfl⟩
set_option maxHeartbeats 1000000 in
theorem goodN_any (wide vars op n : Int) (hv0 : 0 ≤ vars) (hv1 : vars ≤ 9223372036854775807) (h0 : 0 ≤ n) (h1 : n ≤ 18446744073709551615) (w : World) (hT : Tab w) :
    Calls Tryd.prog 81 #[.int .i64 wide, .int .i64 vars, .agg #[.int .i64 op, .int .u64 n]] w fun e w' => e = .returned (.bool (okN wide vars op n)) ∧ Below w.heap.size w w' := by
  unfold okN
  have h0w : 0 < w.heap.size := by
    have h0 := hT 0 (by omega)
    by_cases hb : 0 < w.heap.size
    · exact hb
    · have e : w.heap[0]? = none := Array.getElem?_eq_none (by omega)
      simp [World.cell?, e] at h0
  have hb : Below w.heap.size w (w.alloc (.cells #[.int .i64 op, .int .u64 n] 80)) := (Below.refl _ _).alloc (Nat.le_refl _) _
  by_cases c1 : op = 1
  · rw [if_pos c1]
    subst c1
    have hT2 : Tab (w.alloc (.cells #[.int .i64 1, .int .u64 n] 80)) := by
      intro k hk
      rw [hb.cell (p := ⟨0, k, none⟩) h0w]
      exact hT k hk
    have g := iGoodWord_any wide n (w.alloc (.cells #[.int .i64 1, .int .u64 n] 80)) hT2
    generalize goodB wide n = z at *
    have HB : Hid (Below w.heap.size w (w.alloc (.cells #[.int .i64 1, .int .u64 n] 80))) := hb
    clear hb hT2 hT
    go_enter Tryd.func81, Tryd.ntmps81
    go_wp2_with fail
    refine g.mono ?_
    rintro e w' ⟨rfl, rfl⟩
    clear g
    go_wp2_with fail
    go_ret
    exact ⟨rfl, HB.out⟩
  · rw [if_neg c1]
    have e1 : (op == 1) = false := beq_eq_false_iff_ne.2 c1
    have HB : Hid (Below w.heap.size w (w.alloc (.cells #[.int .i64 op, .int .u64 n] 80))) := hb
    clear hb hT
    by_cases c2 : op = 2
    · rw [if_pos c2]
      subst c2
      go_enter Tryd.func81, Tryd.ntmps81
      go_wp2_with fail
      go_ret
      exact ⟨rfl, HB.out⟩
    · rw [if_neg c2]
      have e2 : (op == 2) = false := beq_eq_false_iff_ne.2 c2
      by_cases c3 : op = 20
      · rw [if_pos c3]
        subst c3
        have hd : decide (n < 2) = decide (n ≤ 1) := by
          by_cases h : n < 2
          · rw [decide_eq_true h, decide_eq_true (by omega)]
          · rw [decide_eq_false h, decide_eq_false (by omega)]
        rw [hd]
        clear hd
        go_enter Tryd.func81, Tryd.ntmps81
        go_wp2_with fail
        go_ret
        exact ⟨rfl, HB.out⟩
      · rw [if_neg c3]
        have e3 : (op == 20) = false := beq_eq_false_iff_ne.2 c3
        clear c1 c2 c3
        go_enter Tryd.func81, Tryd.ntmps81
        go_wp2_with fail
        go_ret
        exact ⟨rfl, HB.out⟩
end Go.Proofs.YtpjllhlbdcanlaaDoor

namespace Go.Proofs.YtpjllhlbdcanlaaDoor
open Go Go.RowKit
open M
set_option linter.unusedVariables false

theorem infoPtr : (Tryd.prog.info? 83).map (fun i => (i.zero, i.size, i.bytes)) = some (some (.pointer none), 1, 8) := by kernel_rfl
set_option maxRecDepth 100000 in
theorem nodeOver_shape (op n : Int) (a : Option Addr) (len cap : Nat) (hl : len ≤ 9223372036854775807) (h : ownOf op = 0 ∨ len ≠ manyOf op) (w : World) :
    Calls Tryd.prog 82 #[.agg #[.int .i64 op, .int .u64 n], .slice a len cap] w fun e w' => e = .returned (.pointer none) ∧ Below w.heap.size w w' := by
  have g := fun w1 => shapeOf_any op w1
  have HB : Hid (Below w.heap.size w (w.alloc (.cells #[.int .i64 op, .int .u64 n] 80))) := (Below.refl _ _).alloc (Nat.le_refl _) _
  by_cases h0 : ownOf op = 0
  · rw [h0] at g
    clear h h0
    generalize manyOf op = mm at *
    generalize wantOf op = ww at *
    go_enter Tryd.func82, Tryd.ntmps82
    go_wp2_with fail
    refine (g _).mono ?_
    rintro e w' ⟨rfl, rfl⟩
    clear g
    go_wp2_with fail
    go_ret
    exact ⟨rfl, HB.out⟩
  · have e0 : (ownOf op == 0) = false := beq_eq_false_iff_ne.2 h0
    have hne : ((len : Int) != ((manyOf op : Nat) : Int)) = true := bne_iff_ne.2 (by rcases h with h | h; exact absurd h h0; omega)
    have hm := manyOf_le op
    clear h h0
    generalize manyOf op = mm at *
    generalize wantOf op = ww at *
    generalize ownOf op = oo at *
    go_enter Tryd.func82, Tryd.ntmps82
    go_wp2_with fail
    refine (g _).mono ?_
    rintro e w' ⟨rfl, rfl⟩
    clear g
    go_wp2_with fail
    go_ret
    exact ⟨rfl, HB.out⟩
theorem onePtr_cells (w : World) (p : Nat) : ∀ (j : Nat) (u : Value), ([ptr p] : List Value)[j]? = some u → (w.alloc (.cells #[ptr p] 83)).cell? ((⟨w.heap.size, 0, none⟩ : Addr).add j) = some u := by
  intro j u hu
  match j, hu with
  | 0, hu => simp at hu; subst hu; simp [Addr.add]
theorem cell_otherBlock {w : World} {b o b' o' : Nat} {v : Value} (h : b ≠ b') : (w.setCell ⟨b, o, none⟩ v).cell? ⟨b', o', none⟩ = w.cell? ⟨b', o', none⟩ :=
  World.cell?_of_block (w := w) (a := ⟨b', o', none⟩) (Below.heap_setCell _ _ _ _ (fun e => h e.symm))
theorem frozen_heap {w : World} {b o : Nat} {c : Array Value} {e : TypeId} (h : w.heap[b]? = some (.cells c e (0, 0))) : w.frozen? ⟨b, o, none⟩ = false := by
  simp [World.frozen?, h]
theorem sizes_take {l : List Tr} {j : Nat} {a : Tr} (h : l[j]? = some a) : sizes (l.take (j + 1)) = sizes (l.take j) + a.size := by
  rw [List.take_add_one, h, sizes_append]
  simp [sizes]
theorem sizes_le (l : List Tr) (j : Nat) : sizes (l.take j) ≤ sizes l := by
  have h := sizes_append (l.take j) (l.drop j)
  rw [List.take_append_drop] at h
  omega
set_option maxRecDepth 100000 in
set_option maxHeartbeats 2000000 in
theorem nodeOver_yes (op n : Int) (l : List Tr) (ps : List Nat) (ad : Option Addr) (cap : Nat) (w : World) (S : Nat → Prop) (hS : ∀ k, S k → k < w.heap.size)
    (hc : ∀ (i b : Nat), ps[i]? = some b → ∃ g off : Nat, ad = some ⟨g, off, none⟩ ∧ g < w.heap.size ∧ w.cell? ⟨g, off + i, none⟩ = some (ptr b)) (ht : TrsAt w S l ps) (hown : ¬ ownOf op = 0) (hm : manyOf op = l.length) (hk : ∀ q ∈ l, q.kind = partOf op) (hsz : sizes l ≤ 1000000) :
    Calls Tryd.prog 82 #[.agg #[.int .i64 op, .int .u64 n], .slice ad ps.length cap] w fun e w' => ∃ b, e = .returned (ptr b) ∧ TrAt w' (fun k => S k ∨ (w.heap.size ≤ k ∧ k < w'.heap.size)) (Tr.over (op, n) l) b ∧ Below w.heap.size w w' := by
  have g0 := fun w1 => shapeOf_any op w1
  have hm2 := manyOf_le op
  have hl := ht.1
  have e0 : (ownOf op == 0) = false := beq_eq_false_iff_ne.2 hown
  have hlm : ps.length = manyOf op := by omega
  have HW : Hid (manyOf op ≠ 0 → wantOf op = partOf op) := fun h => wantOf_part h
  have HC : Hid _ := hc
  have HT : Hid _ := ht
  have HS : Hid _ := hS
  have HK : Hid _ := hk
  obtain ⟨i0, hi, hz0, hz1, hz2⟩ := info_parts infoPtr
  clear hc ht hS hk hown
  generalize hmm : manyOf op = mm at *
  generalize hww : wantOf op = ww at *
  generalize hpp : partOf op = pp at *
  generalize hoo : ownOf op = oo at *
  have HOO : Hid (ownOf op = oo) := hoo
  have HLL : Hid (l.length ≤ 2) := (by omega : l.length ≤ 2)
  clear hmm hww hpp hoo hl hm
  subst hlm
  go_enter Tryd.func82, Tryd.ntmps82
  go_wp2_with fail
  refine (g0 _).mono ?_
  rintro e w' ⟨rfl, rfl⟩
  clear g0
  go_wp2_with fail
  go_loopw [32] (fun i wr => ∃ (j : Nat) (sv : Value), j ≤ ps.length ∧ i = .int .i64 j ∧ Hid (wr.heap[w.heap.size + 1]? = some (.cells #[.int .i64 op, .int .u64 n, .int .i64 oo, .int .i64 ((1 + sizes (l.take j) : Nat) : Int), sv] 115 (0, 0))) ∧ Hid (wr.ownsRow (w.heap.size + 2) 83 1 sv j (ptrs (ps.take j))) ∧ Hid (Below w.heap.size w wr)) (fun i _ => ps.length - (intOf i).toNat)
  case atStart =>
    refine ⟨0, .slice none 0 0, by omega, rfl, ?_, World.ownsRow_nil _ _ _ _, ?_⟩
    · have e : (w.alloc (.cells #[.int .i64 op, .int .u64 n] 80)).heap.size = w.heap.size + 1 := by simp
      show ((w.alloc (.cells #[.int .i64 op, .int .u64 n] 80)).heap.push _)[w.heap.size + 1]? = _
      rw [← e, Array.getElem?_push_size]
      simp [sizes]
    · exact ((Below.refl _ _).alloc (Nat.le_refl _) _).alloc (by simp) _
  case round =>
    obtain ⟨j, sv, hj, rfl, HH, HO, HB⟩ := hrel
    by_cases hlt' : j < ps.length
    · obtain ⟨p, hp⟩ : ∃ p, ps[j]? = some p := ⟨ps[j], List.getElem?_eq_getElem hlt'⟩
      obtain ⟨a, ha⟩ : ∃ a, l[j]? = some a := ⟨l[j]'(by have := HT.out.1; omega), List.getElem?_eq_getElem _⟩
      obtain ⟨g, off, rfl, hlt, c0⟩ := HC.out j p hp
      rw [← HB.out.cell (p := ⟨g, off + j, none⟩) hlt] at c0
      have htr := HT.out.2 j a p ha hp
      obtain ⟨qs, hn, _⟩ := trAt_open (TrAt.frame (S' := S) (fun k hk => hk) (fun k hk => HB.out.block k (HS.out k hk)) htr)
      obtain ⟨hSp, _, _, n2, n3, _⟩ := hn
      have hkq := HK.out a (List.mem_of_getElem? ha)
      have hww := HW.out (by omega)
      rw [hkq, ← hww] at n2
      have hsa : 1 + sizes (l.take j) + a.size ≤ 1000001 := by
        have h1 := sizes_take ha
        have h2 := sizes_le l (j + 1)
        omega
      have HE : Hid (1 + sizes (l.take (j + 1)) = 1 + sizes (l.take j) + a.size) := by
        show 1 + sizes (l.take (j + 1)) = 1 + sizes (l.take j) + a.size
        rw [sizes_take ha]
        omega
      have HP : Hid (ptrs (ps.take (j + 1)) = ptrs (ps.take j) ++ [ptr p]) := by
        show ptrs (ps.take (j + 1)) = ptrs (ps.take j) ++ [ptr p]
        rw [List.take_add_one, hp]
        simp [ptrs]
      have d3 := cell_heap (o := 3) HH.out
      have d4 := cell_heap (o := 4) HH.out
      simp only [List.getElem?_toArray, List.getElem?_cons_succ, List.getElem?_cons_zero] at d3 d4
      have hmlt : w.heap.size + 1 < wr.heap.size := (Array.getElem?_eq_some_iff.1 HH.out).1
      clear hp ha htr hkq hww
      generalize 1 + sizes (l.take j) = y at *
      generalize hxs : ptrs (ps.take j) = xs at *
      clear hxs
      have own0 := HO.out
      have own1 := own0.alloc (.cells #[ptr p] 83)
      have HB1 : Hid (Below w.heap.size w (wr.alloc (.cells #[ptr p] 83))) := HB.out.alloc HB.out.size _
      have cellsN := onePtr_cells wr p
      have HH1 : Hid ((wr.alloc (.cells #[ptr p] 83)).heap[w.heap.size + 1]? = some (.cells #[.int .i64 op, .int .u64 n, .int .i64 oo, .int .i64 (y : Int), sv] 115 (0, 0))) := by
        show (wr.alloc (.cells #[ptr p] 83)).heap[w.heap.size + 1]? = _
        rw [Below.heap_alloc _ _ _ hmlt]
        exact HH.out
      have n3a : (wr.alloc (.cells #[ptr p] 83)).cell? ⟨p, 3, none⟩ = some (.int .i64 (a.size : Int)) := by
        rw [← n3]
        exact World.cell?_of_block (w := wr) (a := ⟨p, 3, none⟩) (Below.heap_alloc _ _ _ (World.block_lt_of_cell? wr ⟨p, 3, none⟩ n3))
      have HP0 : Hid (p < w.heap.size) := HS.out p hSp
      have HML : Hid (w.heap.size + 1 < wr.heap.size) := hmlt
      clear hmlt
      go_wp2_with (at_builtin; refine wpList_append_own _ rfl _ _ 111 rfl (w.heap.size + 2) 83 i0 (.pointer none) 1 8 Tryd.underlying111 hi hz0 hz1 hz2 rfl (by decide) _ _ _ rfl own1 ⟨wr.heap.size, 0, none⟩ 1 1 [ptr p] rfl rfl cellsN (by intro u hu; simp at hu; subst hu; rfl) (by unfold maxLen; omega) (by omega) (by have h := HML.out; simp; omega) ?_)
      intro v7 w7 own7 grow7 _
      obtain ⟨ad7, cap7, rfl⟩ := own_shape own7
      have hne : some (w.heap.size + 1) ≠ sv.ownBlock := fun e => by
        have := (own0.lt _ e.symm).1
        omega
      have hne2 : some p ≠ sv.ownBlock := fun e => by
        have := (own0.lt _ e.symm).1
        have := HP0.out
        omega
      have HH7 : Hid (w7.heap[w.heap.size + 1]? = some (.cells #[.int .i64 op, .int .u64 n, .int .i64 oo, .int .i64 (y : Int), sv] 115 (0, 0))) := by
        show w7.heap[w.heap.size + 1]? = _
        rw [grow7.block _ (by have h := HML.out; simp; omega) hne]
        exact HH1.out
      have HB7 : Hid (Below w.heap.size w w7) := HB1.out.grown grow7 (by have h := HML.out; simp; omega) (fun k hk => by have := (own0.lt _ hk).1; omega)
      have HH8 : Hid ((w7.setCell ⟨w.heap.size + 1, 4, none⟩ (.slice ad7 (j + 1) cap7)).heap[w.heap.size + 1]? = some (.cells #[.int .i64 op, .int .u64 n, .int .i64 oo, .int .i64 (y : Int), (.slice ad7 (j + 1) cap7)] 115 (0, 0))) := heap_set HH7.out
      have d7 := cell_heap (o := 4) HH7.out
      have f7 := frozen_heap (o := 4) HH7.out
      have d8 := cell_heap (o := 3) HH8.out
      have f8 := frozen_heap (o := 3) HH8.out
      simp only [List.getElem?_toArray, List.getElem?_cons_succ, List.getElem?_cons_zero] at d7 d8
      have n8 : (w7.setCell ⟨w.heap.size + 1, 4, none⟩ (.slice ad7 (j + 1) cap7)).cell? ⟨p, 3, none⟩ = some (.int .i64 (a.size : Int)) := by
        rw [cell_otherBlock (by have := HP0.out; omega)]
        exact grow7.cell n3a hne2
      have own8 : Hid (((w7.setCell ⟨w.heap.size + 1, 4, none⟩ (.slice ad7 (j + 1) cap7)).setCell ⟨w.heap.size + 1, 3, none⟩ (.int .i64 ((y + a.size : Nat) : Int))).drew.ownsRow (w.heap.size + 2) 83 1 (.slice ad7 (j + 1) cap7) (j + 1) (ptrs (ps.take (j + 1)))) := by
        show World.ownsRow _ _ _ _ _ _ _
        rw [HP.out]
        have h1 := ownsRow_setCell_below own7 (a := ⟨w.heap.size + 1, 4, none⟩) (by simp) (.slice ad7 (j + 1) cap7)
        exact ownsRow_setCell_below h1 (a := ⟨w.heap.size + 1, 3, none⟩) (by simp) _
      have HH9 : Hid (((w7.setCell ⟨w.heap.size + 1, 4, none⟩ (.slice ad7 (j + 1) cap7)).setCell ⟨w.heap.size + 1, 3, none⟩ (.int .i64 ((y + a.size : Nat) : Int))).drew.heap[w.heap.size + 1]? = some (.cells #[.int .i64 op, .int .u64 n, .int .i64 oo, .int .i64 ((y + a.size : Nat) : Int), (.slice ad7 (j + 1) cap7)] 115 (0, 0))) := heap_set HH8.out
      have HB9 : Hid (Below w.heap.size w ((w7.setCell ⟨w.heap.size + 1, 4, none⟩ (.slice ad7 (j + 1) cap7)).setCell ⟨w.heap.size + 1, 3, none⟩ (.int .i64 ((y + a.size : Nat) : Int))).drew) := ((HB7.out.setCell (p := ⟨w.heap.size + 1, 4, none⟩) (by simp) _).setCell (p := ⟨w.heap.size + 1, 3, none⟩) (by simp) _).drew
      clear own0 own1 own7 grow7 hne hne2 cellsN c0 n2 n3 n3a d3 d4
      go_wp2_with fail
      go_region
      all_goals
        go_wp2_with fail
        go_roundw
        case rel =>
          refine ⟨j + 1, .slice ad7 (j + 1) cap7, by omega, by go_num, ?_, own8, HB9⟩
          show Hid _
          rw [HE.out]
          exact HH9
        case measure => simp [intOf]; omega
    · obtain rfl : j = ps.length := by omega
      have HE : Hid (∃ b, (w.heap.size + 1) = b ∧ TrAt wr (fun k => S k ∨ (w.heap.size ≤ k ∧ k < wr.heap.size)) (Tr.over (op, n) l) b ∧ Below w.heap.size w wr) := by
        refine ⟨_, rfl, trAt_shut (ps := ps) HLL.out ?_ ?_, HB.out⟩
        · have hh := HH.out
          have hle : l.length = ps.length := HT.out.1
          rw [← hle, List.take_length] at hh
          have own := HO.out
          rw [List.take_length] at own
          have hlt2 := (Array.getElem?_eq_some_iff.1 hh).1
          refine ⟨Or.inr ⟨by omega, hlt2⟩, cell_heap (o := 0) hh, cell_heap (o := 1) hh, ?_, cell_heap (o := 3) hh, sv, cell_heap (o := 4) hh, ?_⟩
          · rw [HOO.out]
            exact cell_heap (o := 2) hh
          · have hp := ptrs_of_own own (by omega)
            refine ⟨hp.1, ?_⟩
            rcases hp.2 with h | ⟨g1, off1, cap1, hv, hg1, hc1⟩
            · exact Or.inl h
            · refine Or.inr ⟨g1, off1, cap1, hv, Or.inr ⟨?_, hg1⟩, hc1⟩
              have := (own.lt g1 (by rw [hv]; rfl)).1
              omega
        · exact TrsAt.frame (fun k hk => Or.inl hk) (fun k hk => HB.out.block k (HS.out k hk)) HT.out
      clear HH HO HB HT HC
      go_wp2_with fail
      go_ret
      obtain ⟨b, rfl, h1, h2⟩ := HE.out
      exact ⟨_, rfl, h1, h2⟩
theorem nodeOver_made (op n : Int) (l : List Tr) (ps : List Nat) (v : Value) (w : World) (S : Nat → Prop) (hS : ∀ k, S k → k < w.heap.size) (hv : PtrsAt w (Old w) v ps)
    (ht : TrsAt w S l ps) (hown : ¬ ownOf op = 0) (hm : manyOf op = l.length) (hk : ∀ q ∈ l, q.kind = partOf op) (hsz : sizes l ≤ 1000000) :
    Calls Tryd.prog 82 #[.agg #[.int .i64 op, .int .u64 n], v] w fun e w' => ∃ b, e = .returned (ptr b) ∧ TrAt w' (fun k => S k ∨ (w.heap.size ≤ k ∧ k < w'.heap.size)) (Tr.over (op, n) l) b ∧ Below w.heap.size w w' := by
  rcases hv.2 with ⟨rfl, a, cap, rfl⟩ | ⟨g, off, cap, rfl, hg, hc⟩
  · exact nodeOver_yes op n l [] a cap w S hS (fun i b hb => by simp at hb) ht hown hm hk hsz
  · exact nodeOver_yes op n l ps _ cap w S hS (fun i b hb => ⟨g, off, rfl, hg, hc i b hb⟩) ht hown hm hk hsz
end Go.Proofs.YtpjllhlbdcanlaaDoor

namespace Go.Proofs.YtpjllhlbdcanlaaDoor
open Go Go.RowKit
open M
set_option linter.unusedVariables false

/-- a part that may be none -/
abbrev pv (q : Option (Nat × Tr)) : Value := .pointer (q.map fun b => ⟨b.1, 0, none⟩)
set_option maxRecDepth 100000 in
set_option maxHeartbeats 2000000 in
theorem nodeOver_bad (op n : Int) (qs : List (Option (Nat × Tr))) (ad : Option Addr) (cap : Nat) (w : World) (hown : ¬ ownOf op = 0) (hm : manyOf op = qs.length)
    (hc : ∀ (i : Nat) (q : Option (Nat × Tr)), qs[i]? = some q → ∃ g off : Nat, ad = some ⟨g, off, none⟩ ∧ g < w.heap.size ∧ w.cell? ⟨g, off + i, none⟩ = some (pv q))
    (ht : ∀ (b : Nat) (a : Tr), some (b, a) ∈ qs → TrAt w (Old w) a b ∧ a.size ≤ 1000000)
    (hbad : ¬ ∀ q ∈ qs, ∃ b a, q = some (b, a) ∧ a.kind = partOf op) :
    Calls Tryd.prog 82 #[.agg #[.int .i64 op, .int .u64 n], .slice ad qs.length cap] w fun e w' => e = .returned (.pointer none) ∧ Below w.heap.size w w' := by
  have g0 := fun w1 => shapeOf_any op w1
  have hm2 := manyOf_le op
  have e0 : (ownOf op == 0) = false := beq_eq_false_iff_ne.2 hown
  have hlm : qs.length = manyOf op := by omega
  have HW : Hid (manyOf op ≠ 0 → wantOf op = partOf op) := fun h => wantOf_part h
  have HC : Hid _ := hc
  have HT : Hid _ := ht
  have HBAD : Hid _ := hbad
  obtain ⟨i0, hi, hz0, hz1, hz2⟩ := info_parts infoPtr
  clear hc ht hbad hown
  generalize hmm : manyOf op = mm at *
  generalize hww : wantOf op = ww at *
  generalize hpp : partOf op = pp at *
  generalize hoo : ownOf op = oo at *
  clear hmm hww hpp hoo hm
  subst hlm
  go_enter Tryd.func82, Tryd.ntmps82
  go_wp2_with fail
  refine (g0 _).mono ?_
  rintro e w' ⟨rfl, rfl⟩
  clear g0
  go_wp2_with fail
  go_loopw [32] (fun i wr => ∃ (j : Nat) (sv : Value) (y : Nat) (xs : List Value), j ≤ qs.length ∧ i = .int .i64 j ∧ Hid (wr.heap[w.heap.size + 1]? = some (.cells #[.int .i64 op, .int .u64 n, .int .i64 oo, .int .i64 (y : Int), sv] 115 (0, 0))) ∧ y ≤ 1 + j * 1000000 ∧ Hid (wr.ownsRow (w.heap.size + 2) 83 1 sv j xs) ∧ Hid (Below w.heap.size w wr) ∧ Hid (∀ (i : Nat) (q : Option (Nat × Tr)), i < j → qs[i]? = some q → ∃ b a, q = some (b, a) ∧ a.kind = pp)) (fun i _ => qs.length - (intOf i).toNat)
  case atStart =>
    refine ⟨0, .slice none 0 0, 1, [], by omega, rfl, ?_, by omega, World.ownsRow_nil _ _ _ _, ?_, (fun i q hi _ => absurd hi (by omega) : ∀ (i : Nat) (q : Option (Nat × Tr)), i < 0 → qs[i]? = some q → ∃ b a, q = some (b, a) ∧ a.kind = pp)⟩
    · have e : (w.alloc (.cells #[.int .i64 op, .int .u64 n] 80)).heap.size = w.heap.size + 1 := by simp
      show ((w.alloc (.cells #[.int .i64 op, .int .u64 n] 80)).heap.push _)[w.heap.size + 1]? = _
      rw [← e, Array.getElem?_push_size]
      simp
    · exact ((Below.refl _ _).alloc (Nat.le_refl _) _).alloc (by simp) _
  case round =>
    obtain ⟨j, sv, y, xs, hj, rfl, HH, hy, HO, HB, HG⟩ := hrel
    by_cases hlt' : j < qs.length
    · obtain ⟨q, hq⟩ : ∃ q, qs[j]? = some q := ⟨qs[j], List.getElem?_eq_getElem hlt'⟩
      obtain ⟨g, off, rfl, hg, c0⟩ := HC.out j q hq
      rw [← HB.out.cell (p := ⟨g, off + j, none⟩) hg] at c0
      rcases q with _ | ⟨p, a⟩
      · have c0' : wr.cell? ⟨g, off + j, none⟩ = some (.pointer none) := c0
        clear c0 hq HG HH HO HC HT HBAD
        go_wp2_with fail
        go_ret
        exact ⟨rfl, HB.out⟩
      · have c0' : wr.cell? ⟨g, off + j, none⟩ = some (ptr p) := c0
        obtain ⟨htr, hsa⟩ := HT.out p a (List.mem_of_getElem? hq)
        obtain ⟨rs, hn, _⟩ := trAt_open (htr.below HB.out)
        obtain ⟨_, _, _, n2, n3, _⟩ := hn
        have HP0 : Hid (p < w.heap.size) := (trAt_open htr).choose_spec.1.1
        have hww := HW.out (by omega)
        clear c0
        by_cases hk : a.kind = pp
        · rw [hk, ← hww] at n2
          have HG2 : Hid (∀ (i : Nat) (q : Option (Nat × Tr)), i < j + 1 → qs[i]? = some q → ∃ b a, q = some (b, a) ∧ a.kind = pp) := by
            intro i q hi hq'
            by_cases e : i = j
            · subst e
              rw [hq] at hq'
              obtain rfl := Option.some.inj hq'
              exact ⟨p, a, rfl, hk⟩
            · exact HG.out i q (by omega) hq'
          have d3 := cell_heap (o := 3) HH.out
          have d4 := cell_heap (o := 4) HH.out
          simp only [List.getElem?_toArray, List.getElem?_cons_succ, List.getElem?_cons_zero] at d3 d4
          have hmlt : w.heap.size + 1 < wr.heap.size := (Array.getElem?_eq_some_iff.1 HH.out).1
          have own0 := HO.out
          have own1 := own0.alloc (.cells #[ptr p] 83)
          have HB1 : Hid (Below w.heap.size w (wr.alloc (.cells #[ptr p] 83))) := HB.out.alloc HB.out.size _
          have cellsN := onePtr_cells wr p
          have HH1 : Hid ((wr.alloc (.cells #[ptr p] 83)).heap[w.heap.size + 1]? = some (.cells #[.int .i64 op, .int .u64 n, .int .i64 oo, .int .i64 (y : Int), sv] 115 (0, 0))) := by
            show (wr.alloc (.cells #[ptr p] 83)).heap[w.heap.size + 1]? = _
            rw [Below.heap_alloc _ _ _ hmlt]
            exact HH.out
          have n3a : (wr.alloc (.cells #[ptr p] 83)).cell? ⟨p, 3, none⟩ = some (.int .i64 (a.size : Int)) := by
            rw [← n3]
            exact World.cell?_of_block (w := wr) (a := ⟨p, 3, none⟩) (Below.heap_alloc _ _ _ (World.block_lt_of_cell? wr ⟨p, 3, none⟩ n3))
          have HML : Hid (w.heap.size + 1 < wr.heap.size) := hmlt
          clear hmlt hq htr hk hww
          go_wp2_with (at_builtin; refine wpList_append_own _ rfl _ _ 111 rfl (w.heap.size + 2) 83 i0 (.pointer none) 1 8 Tryd.underlying111 hi hz0 hz1 hz2 rfl (by decide) _ _ _ rfl own1 ⟨wr.heap.size, 0, none⟩ 1 1 [ptr p] rfl rfl cellsN (by intro u hu; simp at hu; subst hu; rfl) (by unfold maxLen; omega) (by omega) (by have h := HML.out; simp; omega) ?_)
          intro v7 w7 own7 grow7 _
          obtain ⟨ad7, cap7, rfl⟩ := own_shape own7
          have hne : some (w.heap.size + 1) ≠ sv.ownBlock := fun e => by
            have := (own0.lt _ e.symm).1
            omega
          have hne2 : some p ≠ sv.ownBlock := fun e => by
            have := (own0.lt _ e.symm).1
            have := HP0.out
            omega
          have HH7 : Hid (w7.heap[w.heap.size + 1]? = some (.cells #[.int .i64 op, .int .u64 n, .int .i64 oo, .int .i64 (y : Int), sv] 115 (0, 0))) := by
            show w7.heap[w.heap.size + 1]? = _
            rw [grow7.block _ (by have h := HML.out; simp; omega) hne]
            exact HH1.out
          have HB7 : Hid (Below w.heap.size w w7) := HB1.out.grown grow7 (by have h := HML.out; simp; omega) (fun k hk => by have := (own0.lt _ hk).1; omega)
          have HH8 : Hid ((w7.setCell ⟨w.heap.size + 1, 4, none⟩ (.slice ad7 (j + 1) cap7)).heap[w.heap.size + 1]? = some (.cells #[.int .i64 op, .int .u64 n, .int .i64 oo, .int .i64 (y : Int), (.slice ad7 (j + 1) cap7)] 115 (0, 0))) := heap_set HH7.out
          have d7 := cell_heap (o := 4) HH7.out
          have f7 := frozen_heap (o := 4) HH7.out
          have d8 := cell_heap (o := 3) HH8.out
          have f8 := frozen_heap (o := 3) HH8.out
          simp only [List.getElem?_toArray, List.getElem?_cons_succ, List.getElem?_cons_zero] at d7 d8
          have n8 : (w7.setCell ⟨w.heap.size + 1, 4, none⟩ (.slice ad7 (j + 1) cap7)).cell? ⟨p, 3, none⟩ = some (.int .i64 (a.size : Int)) := by
            rw [cell_otherBlock (by have := HP0.out; omega)]
            exact grow7.cell n3a hne2
          have own8 : Hid (((w7.setCell ⟨w.heap.size + 1, 4, none⟩ (.slice ad7 (j + 1) cap7)).setCell ⟨w.heap.size + 1, 3, none⟩ (.int .i64 ((y + a.size : Nat) : Int))).drew.ownsRow (w.heap.size + 2) 83 1 (.slice ad7 (j + 1) cap7) (j + 1) (xs ++ [ptr p])) := by
            show World.ownsRow _ _ _ _ _ _ _
            have h1 := ownsRow_setCell_below own7 (a := ⟨w.heap.size + 1, 4, none⟩) (by simp) (.slice ad7 (j + 1) cap7)
            exact ownsRow_setCell_below h1 (a := ⟨w.heap.size + 1, 3, none⟩) (by simp) _
          have HH9 : Hid (((w7.setCell ⟨w.heap.size + 1, 4, none⟩ (.slice ad7 (j + 1) cap7)).setCell ⟨w.heap.size + 1, 3, none⟩ (.int .i64 ((y + a.size : Nat) : Int))).drew.heap[w.heap.size + 1]? = some (.cells #[.int .i64 op, .int .u64 n, .int .i64 oo, .int .i64 ((y + a.size : Nat) : Int), (.slice ad7 (j + 1) cap7)] 115 (0, 0))) := heap_set HH8.out
          have HB9 : Hid (Below w.heap.size w ((w7.setCell ⟨w.heap.size + 1, 4, none⟩ (.slice ad7 (j + 1) cap7)).setCell ⟨w.heap.size + 1, 3, none⟩ (.int .i64 ((y + a.size : Nat) : Int))).drew) := ((HB7.out.setCell (p := ⟨w.heap.size + 1, 4, none⟩) (by simp) _).setCell (p := ⟨w.heap.size + 1, 3, none⟩) (by simp) _).drew
          clear own0 own1 own7 grow7 hne hne2 cellsN c0' n2 n3 n3a d3 d4
          go_wp2_with fail
          go_region
          all_goals
            go_wp2_with fail
            go_roundw
            case rel =>
              exact ⟨j + 1, .slice ad7 (j + 1) cap7, y + a.size, xs ++ [ptr p], by omega, by go_num, HH9, by omega, own8, HB9, HG2⟩
            case measure => simp [intOf]; omega
        · have hne : (a.kind != ww) = true := bne_iff_ne.2 (by rw [hww]; exact hk)
          generalize a.kind = kk at *
          clear hk hww hq HG HH HO HC HT HBAD htr
          go_wp2_with fail
          go_ret
          exact ⟨rfl, HB.out⟩
    · exfalso
      obtain rfl : j = qs.length := by omega
      refine HBAD.out (fun q hq => ?_)
      obtain ⟨i, hi, rfl⟩ := List.mem_iff_getElem.1 hq
      exact HG.out i _ hi (List.getElem?_eq_getElem hi)
end Go.Proofs.YtpjllhlbdcanlaaDoor
