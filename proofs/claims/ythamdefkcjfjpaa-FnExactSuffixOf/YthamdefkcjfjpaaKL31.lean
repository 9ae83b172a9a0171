/-
  The program's cutAt: a lasso cut out of a word.
  The program's LetterAt, UnrollOf, ifGood, TurnLoop, SuffixOf.
  The model's LetterAt, UnrollOf.
  The model's SuffixOf.
  SuffixOf, the model's and the program's.
-/
import Derived.Test.YthamdefkcjfjpaaIBetw
import Derived.Test.YthamdefkcjfjpaaRw9
import Derived.Test.YthamdefkcjfjpaaIGoodL
import Derived.Test.YthamdefkcjfjpaaSFirst
import Derived.Test.YthamdefkcjfjpaaSSuf
namespace Go.Proofs.Ythamdefkcjfjpaa
open Go Go.RowKit
open M
set_option linter.unusedVariables false
set_option linter.unusedSimpArgs false

structure RegCut (W w' : World) (B Y : Nat) (ga : Option Addr) (gn gc : Nat) (oa : Option Addr) (on oc a t r T : Nat) (xs ys : List Int) (l0 l1 l2 l3 l4 l5 l6 l7 l8 l9 l10 l11 : Bool) (s0 s1 s2 s3 s4 s5 s6 s7 s8 s9 s10 : Value) : Prop where
  (bel : l11 = false → Below W.heap.size W w')
  (all : l11 = true → l0 = true ∧ l1 = true ∧ l2 = true ∧ l3 = true ∧ l4 = true ∧ l5 = true ∧ l6 = true ∧ l7 = true ∧ l8 = true ∧ l9 = true ∧ l10 = true)
  (fin : l11 = true → ∃ w4 : World, Below W.heap.size W w4 ∧ w' = ((w4.setCell ⟨Y, 0, none⟩ s3).setCell ⟨Y, 1, none⟩ s9) ∧ Rw B w4 s3 xs ∧ Rw2 B w4 s3 s9 ys)
  (d0 : l0 = true → s0 = .agg #[.slice ga gn gc, .slice oa on oc] ∧ True)
  (d1 : l1 = true → s1 = .int .i64 a ∧ True)
  (d2 : l2 = true → s2 = .int .i64 t ∧ True)
  (d3 : l3 = true → (l11 = false → Rw B w' s3 xs) ∧ l0 = true ∧ l1 = true ∧ l2 = true)
  (d4 : l4 = true → s4 = .agg #[.slice ga gn gc, .slice oa on oc] ∧ True)
  (d5 : l5 = true → s5 = .int .i64 t ∧ True)
  (d6 : l6 = true → s6 = .int .i64 t ∧ True)
  (d7 : l7 = true → s7 = .int .i64 r ∧ True)
  (d8 : l8 = true → s8 = .int .i64 T ∧ l6 = true ∧ l7 = true)
  (d9 : l9 = true → (l11 = false → Rw2 B w' s3 s9 ys) ∧ l3 = true ∧ l4 = true ∧ l5 = true ∧ l8 = true)
  (d10 : l10 = true → s10 = .agg #[s3, s9] ∧ l3 = true ∧ l9 = true)
set_option maxRecDepth 100000 in
set_option maxHeartbeats 8000000 in
theorem cutAt_any (v : Value) (l : La) (hg : goodLa l = true) (a t r : Nat) (hab : a ≤ t) (hb : t + r ≤ 1100) (w : World) (h : AtLa w v l) :
    Calls Try.prog 50 #[v, .int .i64 a, .int .i64 t, .int .i64 r] w fun e w' => ∃ u, e = .returned u ∧ OwnLa w' w.heap.size w'.heap.size u (cutL l a t r) ∧ Below w.heap.size w w' := by
  have GB : Hid (∀ (x y : Nat), x ≤ y → y ≤ 1100 → ∀ w1 : World, Below w.heap.size w w1 → Calls Try.prog 47 #[v, .int .i64 x, .int .i64 y] w1 fun e w' => ∃ r, e = .returned r ∧ OwnOI w' w1.heap.size w'.heap.size r (unrL l x (y - x)) ∧ Below w1.heap.size w1 w') := fun x y hx hy w1 hb => between_any v l hg x y hx hy w1 (h.below hb)
  obtain ⟨ga, gn, gc, oa, on, oc, rfl⟩ := h.shape
  obtain ⟨w0, hw0⟩ : ∃ w0, (w.alloc (.cells #[.slice ga gn gc, .slice oa on oc] 26)).alloc (.cells #[.slice none 0 0, .slice none 0 0] 26) = w0 := ⟨_, rfl⟩
  have HB0 : Hid (Below w.heap.size w w0) := by
    show Below _ _ _
    rw [← hw0]
    exact ((Below.refl _ _).alloc (Nat.le_refl _) _).alloc (by rw [World.size_alloc]; omega) _
  have x0 := (box2_alloc w 26 (.slice ga gn gc) (.slice oa on oc)).alloc (.cells #[.slice none 0 0, .slice none 0 0] 26)
  have y0 := box2_alloc (w.alloc (.cells #[.slice ga gn gc, .slice oa on oc] 26)) 26 (.slice none 0 0) (.slice none 0 0)
  simp only [World.size_alloc] at y0
  have hz0 : w0.heap.size = w.heap.size + 2 := by rw [← hw0, World.size_alloc, World.size_alloc]
  rw [hw0] at x0 y0
  have HXP : Hid (∀ w3, Below w0.drew.heap.size w0.drew w3 → Box2 w3 w.heap.size 26 (.slice ga gn gc) (.slice oa on oc)) := fun w3 hb3 => Box2.below (w := w0.drew) ⟨x0.heap⟩ hb3 (by show _ < w0.heap.size; omega)
  have HYP : Hid (∀ w3, Below w0.drew.heap.size w0.drew w3 → Box2 w3 (w.heap.size + 1) 26 (.slice none 0 0) (.slice none 0 0)) := fun w3 hb3 => Box2.below (w := w0.drew) ⟨y0.heap⟩ hb3 (by show _ < w0.heap.size; omega)
  have HBW : Hid (∀ w3, Below w0.drew.heap.size w0.drew w3 → Below w.heap.size w w3) := fun w3 hb3 => HB0.out.drew.trans (hb3.mono (by show w.heap.size ≤ w0.heap.size; omega))
  obtain ⟨T, hT0⟩ : ∃ T : Nat, t + r = T := ⟨_, rfl⟩
  have hTi : (t : Int) + (r : Int) = (T : Int) := by omega
  have hTw : IntKind.i64.wrap ((t : Int) + (r : Int)) = (T : Int) := by rw [hTi]; exact IntWalk.i64_in _ ⟨by omega, by omega⟩
  have hTw2 : IntKind.i64.wrap (T : Int) = (T : Int) := IntWalk.i64_in _ ⟨by omega, by omega⟩
  have hT1 : t ≤ T := by omega
  have hT2 : T ≤ 1100 := by omega
  have hta : t ≤ 1100 := by omega
  have HTR : Hid (T - t = r) := by show T - t = r; omega
  have HW0 : Hid _ := hw0
  have HCL : Hid (cutL l a t r = (unrL l a (t - a), unrL l t (T - t))) := by
    show cutL l a t r = _
    rw [HTR.out]
    rfl
  clear h x0 y0 hT0 hw0 hg
  go_enter Try.func50, Try.ntmps50
  go_wp2_with fail
  rw [HW0.out]
  refine wp_region_any (by kernel_rfl) ?_
  change wpAny _ _ _ _ _ _ _ (World.drew _)
  refine wpAny_invN (fun lb9 ac9 w' => ∃ (l0 l1 l2 l3 l4 l5 l6 l7 l8 l9 l10 l11 : Bool) (s0 s1 s2 s3 s4 s5 s6 s7 s8 s9 s10 : Value), lb9 = #[l0, l1, l2, l3, l4, l5, l6, l7, l8, l9, l10, l11] ∧ ac9 = { tmps := #[.agg #[.slice ga gn gc, .slice oa on oc], .int .i64 a, .int .i64 t, .int .i64 r, .pointer (some ⟨w.heap.size, 0, none⟩), undef, undef, undef, .pointer (some ⟨w.heap.size + 1, 0, none⟩), s0, s1, s2, s3, s4, s5, s6, s7, s8, s9, s10], defers := [] } ∧ RegCut w0.drew w' w0.drew.heap.size (w.heap.size + 1) ga gn gc oa on oc a t r T (unrL l a (t - a)) (unrL l t (T - t)) l0 l1 l2 l3 l4 l5 l6 l7 l8 l9 l10 l11 s0 s1 s2 s3 s4 s5 s6 s7 s8 s9 s10) ?done ?step 12 _ _ _ ⟨false, false, false, false, false, false, false, false, false, false, false, false, _, _, _, _, _, _, _, _, _, _, _, rfl, rfl, ?init⟩ (by decide)
  case init => exact { bel := fun _ => Below.refl _ _, all := fun e => (by cases e), fin := fun e => (by cases e), d0 := fun e => (by cases e), d1 := fun e => (by cases e), d2 := fun e => (by cases e), d3 := fun e => (by cases e), d4 := fun e => (by cases e), d5 := fun e => (by cases e), d6 := fun e => (by cases e), d7 := fun e => (by cases e), d8 := fun e => (by cases e), d9 := fun e => (by cases e), d10 := fun e => (by cases e) }
  case step =>
    rintro lb9 ac9 w3 ⟨l0, l1, l2, l3, l4, l5, l6, l7, l8, l9, l10, l11, s0, s1, s2, s3, s4, s5, s6, s7, s8, s9, s10, rfl, rfl, h⟩
    intro q hq
    have hlt9 := ready_ltN hq
    match q, hq, hlt9 with
    | 0, hq, _ =>
      have hr := ready_depN hq rfl
      have hme : l0 = false := hr.1
      have hT : l11 = false := by
        cases hc9 : l11 with
        | false => rfl
        | true => exact absurd (h.all hc9).1 (by rw [hme]; decide)
      have hbel := h.bel hT
      have x3 := HXP.out w3 hbel
      obtain ⟨c0, c1⟩ := x3.cells
      have ch := x3.heap
      have cl := x3.lt
      clear hr hq
      refine wpOp_runN rfl rfl (fun K hK => ?_)
      go_simp
      refine hK _ _ ⟨true, l1, l2, l3, l4, l5, l6, l7, l8, l9, l10, l11, _, _, _, _, _, _, _, _, _, _, _, rfl, rfl, ?_⟩
      exact { bel := h.bel, all := fun e => (by rw [hT] at e; cases e), fin := fun e => (by rw [hT] at e; cases e), d0 := fun _ => ⟨rfl, trivial⟩, d1 := h.d1, d2 := h.d2, d3 := fun e => absurd (h.d3 e).2.1 (by rw [hme]; decide), d4 := h.d4, d5 := h.d5, d6 := h.d6, d7 := h.d7, d8 := h.d8, d9 := h.d9, d10 := h.d10 }
    | 1, hq, _ =>
      have hr := ready_depN hq rfl
      have hme : l1 = false := hr.1
      have hT : l11 = false := by
        cases hc9 : l11 with
        | false => rfl
        | true => exact absurd (h.all hc9).2.1 (by rw [hme]; decide)
      have hbel := h.bel hT
      clear hr hq
      refine wpOp_runN rfl rfl (fun K hK => ?_)
      go_simp
      refine hK _ _ ⟨l0, true, l2, l3, l4, l5, l6, l7, l8, l9, l10, l11, _, _, _, _, _, _, _, _, _, _, _, rfl, rfl, ?_⟩
      exact { bel := h.bel, all := fun e => (by rw [hT] at e; cases e), fin := fun e => (by rw [hT] at e; cases e), d0 := h.d0, d1 := fun _ => ⟨rfl, trivial⟩, d2 := h.d2, d3 := fun e => absurd (h.d3 e).2.2.1 (by rw [hme]; decide), d4 := h.d4, d5 := h.d5, d6 := h.d6, d7 := h.d7, d8 := h.d8, d9 := h.d9, d10 := h.d10 }
    | 2, hq, _ =>
      have hr := ready_depN hq rfl
      have hme : l2 = false := hr.1
      have hT : l11 = false := by
        cases hc9 : l11 with
        | false => rfl
        | true => exact absurd (h.all hc9).2.2.1 (by rw [hme]; decide)
      have hbel := h.bel hT
      clear hr hq
      refine wpOp_runN rfl rfl (fun K hK => ?_)
      go_simp
      refine hK _ _ ⟨l0, l1, true, l3, l4, l5, l6, l7, l8, l9, l10, l11, _, _, _, _, _, _, _, _, _, _, _, rfl, rfl, ?_⟩
      exact { bel := h.bel, all := fun e => (by rw [hT] at e; cases e), fin := fun e => (by rw [hT] at e; cases e), d0 := h.d0, d1 := h.d1, d2 := fun _ => ⟨rfl, trivial⟩, d3 := fun e => absurd (h.d3 e).2.2.2 (by rw [hme]; decide), d4 := h.d4, d5 := h.d5, d6 := h.d6, d7 := h.d7, d8 := h.d8, d9 := h.d9, d10 := h.d10 }
    | 3, hq, _ =>
      have hr := ready_depN hq rfl
      have hme : l3 = false := hr.1
      have e0 : l0 = true := hr.2 ⟨0, .data⟩ (by simp) (by kernel_rfl)
      have e1 : l1 = true := hr.2 ⟨1, .data⟩ (by simp) (by kernel_rfl)
      have e2 : l2 = true := hr.2 ⟨2, .data⟩ (by simp) (by kernel_rfl)
      have hT : l11 = false := by
        cases hc9 : l11 with
        | false => rfl
        | true => exact absurd (h.all hc9).2.2.2.1 (by rw [hme]; decide)
      have hbel := h.bel hT
      obtain rfl := (h.d0 e0).1
      obtain rfl := (h.d1 e1).1
      obtain rfl := (h.d2 e2).1
      clear hr hq
      refine wpOp_runN rfl rfl (fun K hK => ?_)
      go_simp
      go_at_call 47
      refine Calls.mono (GB.out _ _ (hab) (by omega) w3 (HBW.out w3 hbel)) ?_
      rintro e w4 ⟨r, rfl, ho, hs4⟩
      have hbel4 := hbel.trans (hs4.mono hbel.size)
      have hnew := rw_of hbel.size ho
      refine hK _ _ ⟨l0, l1, l2, true, l4, l5, l6, l7, l8, l9, l10, l11, _, _, _, _, _, _, _, _, _, _, _, rfl, rfl, ?_⟩
      exact { bel := fun _ => hbel4, all := fun e => (by rw [hT] at e; cases e), fin := fun e => (by rw [hT] at e; cases e), d0 := h.d0, d1 := h.d1, d2 := h.d2, d3 := fun _ => ⟨fun _ => hnew, e0, e1, e2⟩, d4 := h.d4, d5 := h.d5, d6 := h.d6, d7 := h.d7, d8 := h.d8, d9 := fun e => absurd (h.d9 e).2.1 (by rw [hme]; decide), d10 := fun e => absurd (h.d10 e).2.1 (by rw [hme]; decide) }
    | 4, hq, _ =>
      have hr := ready_depN hq rfl
      have hme : l4 = false := hr.1
      have hT : l11 = false := by
        cases hc9 : l11 with
        | false => rfl
        | true => exact absurd (h.all hc9).2.2.2.2.1 (by rw [hme]; decide)
      have hbel := h.bel hT
      have x3 := HXP.out w3 hbel
      obtain ⟨c0, c1⟩ := x3.cells
      have ch := x3.heap
      have cl := x3.lt
      clear hr hq
      refine wpOp_runN rfl rfl (fun K hK => ?_)
      go_simp
      refine hK _ _ ⟨l0, l1, l2, l3, true, l5, l6, l7, l8, l9, l10, l11, _, _, _, _, _, _, _, _, _, _, _, rfl, rfl, ?_⟩
      exact { bel := h.bel, all := fun e => (by rw [hT] at e; cases e), fin := fun e => (by rw [hT] at e; cases e), d0 := h.d0, d1 := h.d1, d2 := h.d2, d3 := h.d3, d4 := fun _ => ⟨rfl, trivial⟩, d5 := h.d5, d6 := h.d6, d7 := h.d7, d8 := h.d8, d9 := fun e => absurd (h.d9 e).2.2.1 (by rw [hme]; decide), d10 := h.d10 }
    | 5, hq, _ =>
      have hr := ready_depN hq rfl
      have hme : l5 = false := hr.1
      have hT : l11 = false := by
        cases hc9 : l11 with
        | false => rfl
        | true => exact absurd (h.all hc9).2.2.2.2.2.1 (by rw [hme]; decide)
      have hbel := h.bel hT
      clear hr hq
      refine wpOp_runN rfl rfl (fun K hK => ?_)
      go_simp
      refine hK _ _ ⟨l0, l1, l2, l3, l4, true, l6, l7, l8, l9, l10, l11, _, _, _, _, _, _, _, _, _, _, _, rfl, rfl, ?_⟩
      exact { bel := h.bel, all := fun e => (by rw [hT] at e; cases e), fin := fun e => (by rw [hT] at e; cases e), d0 := h.d0, d1 := h.d1, d2 := h.d2, d3 := h.d3, d4 := h.d4, d5 := fun _ => ⟨rfl, trivial⟩, d6 := h.d6, d7 := h.d7, d8 := h.d8, d9 := fun e => absurd (h.d9 e).2.2.2.1 (by rw [hme]; decide), d10 := h.d10 }
    | 6, hq, _ =>
      have hr := ready_depN hq rfl
      have hme : l6 = false := hr.1
      have hT : l11 = false := by
        cases hc9 : l11 with
        | false => rfl
        | true => exact absurd (h.all hc9).2.2.2.2.2.2.1 (by rw [hme]; decide)
      have hbel := h.bel hT
      clear hr hq
      refine wpOp_runN rfl rfl (fun K hK => ?_)
      go_simp
      refine hK _ _ ⟨l0, l1, l2, l3, l4, l5, true, l7, l8, l9, l10, l11, _, _, _, _, _, _, _, _, _, _, _, rfl, rfl, ?_⟩
      exact { bel := h.bel, all := fun e => (by rw [hT] at e; cases e), fin := fun e => (by rw [hT] at e; cases e), d0 := h.d0, d1 := h.d1, d2 := h.d2, d3 := h.d3, d4 := h.d4, d5 := h.d5, d6 := fun _ => ⟨rfl, trivial⟩, d7 := h.d7, d8 := fun e => absurd (h.d8 e).2.1 (by rw [hme]; decide), d9 := h.d9, d10 := h.d10 }
    | 7, hq, _ =>
      have hr := ready_depN hq rfl
      have hme : l7 = false := hr.1
      have hT : l11 = false := by
        cases hc9 : l11 with
        | false => rfl
        | true => exact absurd (h.all hc9).2.2.2.2.2.2.2.1 (by rw [hme]; decide)
      have hbel := h.bel hT
      clear hr hq
      refine wpOp_runN rfl rfl (fun K hK => ?_)
      go_simp
      refine hK _ _ ⟨l0, l1, l2, l3, l4, l5, l6, true, l8, l9, l10, l11, _, _, _, _, _, _, _, _, _, _, _, rfl, rfl, ?_⟩
      exact { bel := h.bel, all := fun e => (by rw [hT] at e; cases e), fin := fun e => (by rw [hT] at e; cases e), d0 := h.d0, d1 := h.d1, d2 := h.d2, d3 := h.d3, d4 := h.d4, d5 := h.d5, d6 := h.d6, d7 := fun _ => ⟨rfl, trivial⟩, d8 := fun e => absurd (h.d8 e).2.2 (by rw [hme]; decide), d9 := h.d9, d10 := h.d10 }
    | 8, hq, _ =>
      have hr := ready_depN hq rfl
      have hme : l8 = false := hr.1
      have e6 : l6 = true := hr.2 ⟨6, .data⟩ (by simp) (by kernel_rfl)
      have e7 : l7 = true := hr.2 ⟨7, .data⟩ (by simp) (by kernel_rfl)
      have hT : l11 = false := by
        cases hc9 : l11 with
        | false => rfl
        | true => exact absurd (h.all hc9).2.2.2.2.2.2.2.2.1 (by rw [hme]; decide)
      have hbel := h.bel hT
      obtain rfl := (h.d6 e6).1
      obtain rfl := (h.d7 e7).1
      clear hr hq
      refine wpOp_runN rfl rfl (fun K hK => ?_)
      go_simp
      refine hK _ _ ⟨l0, l1, l2, l3, l4, l5, l6, l7, true, l9, l10, l11, _, _, _, _, _, _, _, _, _, _, _, rfl, rfl, ?_⟩
      exact { bel := h.bel, all := fun e => (by rw [hT] at e; cases e), fin := fun e => (by rw [hT] at e; cases e), d0 := h.d0, d1 := h.d1, d2 := h.d2, d3 := h.d3, d4 := h.d4, d5 := h.d5, d6 := h.d6, d7 := h.d7, d8 := fun _ => ⟨rfl, e6, e7⟩, d9 := fun e => absurd (h.d9 e).2.2.2.2 (by rw [hme]; decide), d10 := h.d10 }
    | 9, hq, _ =>
      have hr := ready_depN hq rfl
      have hme : l9 = false := hr.1
      have e3 : l3 = true := hr.2 ⟨3, .chain⟩ (by simp) (by kernel_rfl)
      have e4 : l4 = true := hr.2 ⟨4, .data⟩ (by simp) (by kernel_rfl)
      have e5 : l5 = true := hr.2 ⟨5, .data⟩ (by simp) (by kernel_rfl)
      have e8 : l8 = true := hr.2 ⟨8, .data⟩ (by simp) (by kernel_rfl)
      have hT : l11 = false := by
        cases hc9 : l11 with
        | false => rfl
        | true => exact absurd (h.all hc9).2.2.2.2.2.2.2.2.2.1 (by rw [hme]; decide)
      have hbel := h.bel hT
      obtain rfl := (h.d4 e4).1
      obtain rfl := (h.d5 e5).1
      obtain rfl := (h.d8 e8).1
      clear hr hq
      refine wpOp_runN rfl rfl (fun K hK => ?_)
      go_simp
      go_at_call 47
      refine Calls.mono (GB.out _ _ (hT1) (by omega) w3 (HBW.out w3 hbel)) ?_
      rintro e w4 ⟨r, rfl, ho, hs4⟩
      have hbel4 := hbel.trans (hs4.mono hbel.size)
      have hnew := rw2_of hbel.size ((h.d3 e3).1 hT) ho
      refine hK _ _ ⟨l0, l1, l2, l3, l4, l5, l6, l7, l8, true, l10, l11, _, _, _, _, _, _, _, _, _, _, _, rfl, rfl, ?_⟩
      exact { bel := fun _ => hbel4, all := fun e => (by rw [hT] at e; cases e), fin := fun e => (by rw [hT] at e; cases e), d0 := h.d0, d1 := h.d1, d2 := h.d2, d3 := fun e => ⟨fun hx => ((h.d3 e).1 hx).below hs4, (h.d3 e).2⟩, d4 := h.d4, d5 := h.d5, d6 := h.d6, d7 := h.d7, d8 := h.d8, d9 := fun _ => ⟨fun _ => hnew, e3, e4, e5, e8⟩, d10 := fun e => absurd (h.d10 e).2.2 (by rw [hme]; decide) }
    | 10, hq, _ =>
      have hr := ready_depN hq rfl
      have hme : l10 = false := hr.1
      have e3 : l3 = true := hr.2 ⟨3, .data⟩ (by simp) (by kernel_rfl)
      have e9 : l9 = true := hr.2 ⟨9, .data⟩ (by simp) (by kernel_rfl)
      have hT : l11 = false := by
        cases hc9 : l11 with
        | false => rfl
        | true => exact absurd (h.all hc9).2.2.2.2.2.2.2.2.2.2 (by rw [hme]; decide)
      have hbel := h.bel hT
      obtain ⟨u3a, u3n, u3c, rfl⟩ := ((h.d3 e3).1 hT).shape
      obtain ⟨u9a, u9n, u9c, rfl⟩ := ((h.d9 e9).1 hT).shape
      clear hr hq
      refine wpOp_runN rfl rfl (fun K hK => ?_)
      go_simp
      refine hK _ _ ⟨l0, l1, l2, l3, l4, l5, l6, l7, l8, l9, true, l11, _, _, _, _, _, _, _, _, _, _, _, rfl, rfl, ?_⟩
      exact { bel := h.bel, all := fun e => (by rw [hT] at e; cases e), fin := fun e => (by rw [hT] at e; cases e), d0 := h.d0, d1 := h.d1, d2 := h.d2, d3 := h.d3, d4 := h.d4, d5 := h.d5, d6 := h.d6, d7 := h.d7, d8 := h.d8, d9 := h.d9, d10 := fun _ => ⟨rfl, e3, e9⟩ }
    | 11, hq, _ =>
      have hr := ready_depN hq rfl
      have hme : l11 = false := hr.1
      have e0 : l0 = true := hr.2 ⟨0, .phase⟩ (by simp) (by kernel_rfl)
      have e1 : l1 = true := hr.2 ⟨1, .phase⟩ (by simp) (by kernel_rfl)
      have e2 : l2 = true := hr.2 ⟨2, .phase⟩ (by simp) (by kernel_rfl)
      have e3 : l3 = true := hr.2 ⟨3, .phase⟩ (by simp) (by kernel_rfl)
      have e4 : l4 = true := hr.2 ⟨4, .phase⟩ (by simp) (by kernel_rfl)
      have e5 : l5 = true := hr.2 ⟨5, .phase⟩ (by simp) (by kernel_rfl)
      have e6 : l6 = true := hr.2 ⟨6, .phase⟩ (by simp) (by kernel_rfl)
      have e7 : l7 = true := hr.2 ⟨7, .phase⟩ (by simp) (by kernel_rfl)
      have e8 : l8 = true := hr.2 ⟨8, .phase⟩ (by simp) (by kernel_rfl)
      have e9 : l9 = true := hr.2 ⟨9, .chain⟩ (by simp) (by kernel_rfl)
      have e10 : l10 = true := hr.2 ⟨10, .data⟩ (by simp) (by kernel_rfl)
      have hbel := h.bel hme
      obtain rfl := (h.d0 e0).1
      obtain rfl := (h.d1 e1).1
      obtain rfl := (h.d2 e2).1
      obtain rfl := (h.d4 e4).1
      obtain rfl := (h.d5 e5).1
      obtain rfl := (h.d6 e6).1
      obtain rfl := (h.d7 e7).1
      obtain rfl := (h.d8 e8).1
      obtain rfl := (h.d10 e10).1
      have y3 := HYP.out w3 hbel
      obtain ⟨k0, k1⟩ := y3.cells
      have kh := y3.heap
      have kl := y3.lt
      have kf0 := y3.frozen 0
      have kf1 := y3.frozen 1
      clear hr hq
      have hF3 := (h.d3 e3).1 hme
      have hF9 := (h.d9 e9).1 hme
      refine wpOp_runN rfl rfl (fun K hK => ?_)
      obtain ⟨u3a, u3n, u3c, rfl⟩ := hF3.shape
      obtain ⟨u9a, u9n, u9c, rfl⟩ := hF9.shape
      go_simp
      refine hK _ _ ⟨l0, l1, l2, l3, l4, l5, l6, l7, l8, l9, l10, true, _, _, _, _, _, _, _, _, _, _, _, rfl, rfl, ?_⟩
      exact { bel := fun e => (by cases e), all := fun _ => ⟨e0, e1, e2, e3, e4, e5, e6, e7, e8, e9, e10⟩, fin := fun _ => ⟨w3, hbel, rfl, hF3, hF9⟩, d0 := h.d0, d1 := h.d1, d2 := h.d2, d3 := fun e => ⟨fun e9 => (by cases e9), (h.d3 e).2⟩, d4 := h.d4, d5 := h.d5, d6 := h.d6, d7 := h.d7, d8 := h.d8, d9 := fun e => ⟨fun e9 => (by cases e9), (h.d9 e).2⟩, d10 := h.d10 }
    | k + 12, hq, h18 => exact (Nat.not_lt_of_le (Nat.le_add_left 12 k) h18).elim
  case done =>
    rintro lb9 ac9 w3 ⟨l0, l1, l2, l3, l4, l5, l6, l7, l8, l9, l10, l11, s0, s1, s2, s3, s4, s5, s6, s7, s8, s9, s10, rfl, rfl, h⟩ hr
    cases l0
    · exact (ready_none2N hr 0 rfl rfl rfl).elim
    cases l1
    · exact (ready_none2N hr 1 rfl rfl rfl).elim
    cases l2
    · exact (ready_none2N hr 2 rfl rfl rfl).elim
    cases l3
    · exact (ready_none2N hr 3 rfl rfl rfl).elim
    cases l4
    · exact (ready_none2N hr 4 rfl rfl rfl).elim
    cases l5
    · exact (ready_none2N hr 5 rfl rfl rfl).elim
    cases l6
    · exact (ready_none2N hr 6 rfl rfl rfl).elim
    cases l7
    · exact (ready_none2N hr 7 rfl rfl rfl).elim
    cases l8
    · exact (ready_none2N hr 8 rfl rfl rfl).elim
    cases l9
    · exact (ready_none2N hr 9 rfl rfl rfl).elim
    cases l10
    · exact (ready_none2N hr 10 rfl rfl rfl).elim
    cases l11
    · exact (ready_none2N hr 11 rfl rfl rfl).elim
    obtain rfl := (h.d0 rfl).1
    obtain rfl := (h.d1 rfl).1
    obtain rfl := (h.d2 rfl).1
    obtain rfl := (h.d4 rfl).1
    obtain rfl := (h.d5 rfl).1
    obtain rfl := (h.d6 rfl).1
    obtain rfl := (h.d7 rfl).1
    obtain rfl := (h.d8 rfl).1
    obtain rfl := (h.d10 rfl).1
    obtain ⟨w4, hbel, rfl, hF3, hF9⟩ := h.fin rfl
    clear h hr
    obtain ⟨u3a, u3n, u3c, rfl⟩ := hF3.shape
    obtain ⟨u9a, u9n, u9c, rfl⟩ := hF9.shape
    have y4 := ((HYP.out w4 hbel).set0 (.slice u3a u3n u3c)).set1 (.slice u9a u9n u9c)
    have hsz4 := hbel.size
    change w0.heap.size ≤ w4.heap.size at hsz4
    have hO := ((ownLa_rw hF3 hF9).setO (b := w.heap.size + 1) (o := 0) (x := .slice u3a u3n u3c) (Or.inl (by show _ < w0.heap.size; omega))).setO (b := w.heap.size + 1) (o := 1) (x := .slice u9a u9n u9c) (Or.inl (by show _ < w0.heap.size; omega))
    have HOL : Hid (OwnLa ((w4.setCell ⟨w.heap.size + 1, 0, none⟩ (.slice u3a u3n u3c)).setCell ⟨w.heap.size + 1, 1, none⟩ (.slice u9a u9n u9c)) w.heap.size ((w4.setCell ⟨w.heap.size + 1, 0, none⟩ (.slice u3a u3n u3c)).setCell ⟨w.heap.size + 1, 1, none⟩ (.slice u9a u9n u9c)).heap.size (.agg #[.slice u3a u3n u3c, .slice u9a u9n u9c]) (cutL l a t r)) := by
      show OwnLa _ _ _ _ _
      rw [HCL.out]
      exact hO.weak (by show w.heap.size ≤ w0.heap.size; omega) (by rw [size_set, size_set]; exact Nat.le_refl _) (Nat.le_refl _)
    have HBE : Hid (Below w.heap.size w ((w4.setCell ⟨w.heap.size + 1, 0, none⟩ (.slice u3a u3n u3c)).setCell ⟨w.heap.size + 1, 1, none⟩ (.slice u9a u9n u9c))) := ((HBW.out w4 hbel).setCell (by show w.heap.size ≤ w.heap.size + 1; omega) _).setCell (by show w.heap.size ≤ w.heap.size + 1; omega) _
    have hyh := y4.heap
    clear hO hF3 hF9
    go_wp2_with fail
    refine bodyPost_ret (results_cell_row rfl _ _ (w.heap.size + 1) 26 _ (0, 0) _ rfl hyh Try.underlying26 rfl (by kernel_rfl)) rfl ?_
    exact ⟨_, rfl, HOL.out, HBE.out⟩
end Go.Proofs.Ythamdefkcjfjpaa

namespace Go.Proofs.Ythamdefkcjfjpaa
open Go Go.RowKit
open M
set_option linter.unusedVariables false
set_option linter.unusedSimpArgs false

def letR (l : La) (k : Int) : Int := if atB l k = true then letL l k.toNat else 0
def unrR (l : La) (k : Int) : List Int := if atB l k = true then unrL l 0 k.toNat else []
def sufR (l : La) (k : Int) : La := if atB l k = true then sufL l k.toNat else ([], [])
theorem at_parts {l : La} {k : Int} (h : atB l k = true) : goodLa l = true ∧ ∃ n : Nat, k = n ∧ n ≤ 1000 := by
  unfold atB at h
  rw [Bool.and_eq_true, decide_eq_true_eq] at h
  exact ⟨h.1, k.toNat, by omega, by omega⟩
set_option maxRecDepth 100000 in
theorem iLetterAt_any (v : Value) (l : La) (k : Int) (w : World) (h : AtLa w v l) :
    Calls Try.prog 30 #[v, .int .i64 k] w fun e w' => e = .returned (.tuple #[.int .i64 (letR l k), .bool (atB l k)]) ∧ Below w.heap.size w w' := by
  have HG : Hid (∀ w1 : World, Below w.heap.size w w1 → Calls Try.prog 58 #[v, .int .i64 k] w1 fun e w' => e = .returned (.bool (atB l k)) ∧ Below w1.heap.size w1 w') := fun w1 hb => goodAt_any v l k w1 (h.below hb)
  have HLT : Hid (atB l k = true → ∀ w1 : World, Below w.heap.size w w1 → Calls Try.prog 63 #[v, .int .i64 k] w1 fun e w' => e = .returned (.int .i64 (letR l k)) ∧ Below w1.heap.size w1 w') := fun hat w1 hb => by
    obtain ⟨hg, n, rfl, hn⟩ := at_parts hat
    unfold letR
    rw [if_pos hat, Int.toNat_natCast]
    exact letter_any v l hg n (by omega) w1 (h.below hb)
  have HN : Hid (atB l k = false → letR l k = 0) := fun e => by
    unfold letR
    rw [if_neg (by rw [e]; decide)]
  obtain ⟨ga, gn, gc, oa, on, oc, rfl⟩ := h.shape
  have HB0 : Hid (Below w.heap.size w (w.alloc (.cells #[.slice ga gn gc, .slice oa on oc] 26))) := (Below.refl _ _).alloc (Nat.le_refl _) _
  have x0 := box2_alloc w 26 (.slice ga gn gc) (.slice oa on oc)
  have HX0 : Hid _ := x0
  have g := HG.out _ HB0.out
  clear h HG x0
  generalize letR l k = LR at *
  generalize atB l k = AB at *
  cases AB with
  | false =>
    have HZ := HN.out rfl
    subst HZ
    clear HLT HN HX0
    go_enter Try.func30, Try.ntmps30
    go_wp2_with fail
    refine g.mono ?_
    rintro e w1 ⟨rfl, hs⟩
    have HB1 : Hid (Below w.heap.size w w1) := HB0.out.trans (hs.mono HB0.out.size)
    clear g hs
    go_wp2_with fail
    go_ret2
    exact ⟨rfl, HB1.out⟩
  | true =>
    have HL2 : Hid _ := HLT.out rfl
    clear HLT HN
    go_enter Try.func30, Try.ntmps30
    go_wp2_with fail
    refine g.mono ?_
    generalize w.alloc (.cells #[.slice ga gn gc, .slice oa on oc] 26) = w0 at *
    rintro e w1 ⟨rfl, hs⟩
    have HB1 : Hid (Below w.heap.size w w1) := HB0.out.trans (hs.mono HB0.out.size)
    have x1 := HX0.out.below hs HX0.out.lt
    obtain ⟨a0, a1⟩ := x1.cells
    have ah := x1.heap
    have al := x1.lt
    clear g hs x1 HX0
    have g2 := HL2.out _ HB1.out
    go_wp2_with fail
    refine g2.mono ?_
    rintro e w2 ⟨rfl, hs⟩
    have HB2 : Hid (Below w.heap.size w w2) := HB1.out.trans (hs.mono HB1.out.size)
    clear g2 hs a0 a1 ah al
    go_wp2_with fail
    go_ret2
    exact ⟨rfl, HB2.out⟩
set_option maxRecDepth 100000 in
theorem iUnrollOf_any (v : Value) (l : La) (k : Int) (w : World) (h : AtLa w v l) :
    Calls Try.prog 31 #[v, .int .i64 k] w fun e w' => ∃ r, e = .returned (.tuple #[r, .bool (atB l k)]) ∧ OwnOI w' w.heap.size w'.heap.size r (unrR l k) ∧ Below w.heap.size w w' := by
  have HG : Hid (∀ w1 : World, Below w.heap.size w w1 → Calls Try.prog 58 #[v, .int .i64 k] w1 fun e w' => e = .returned (.bool (atB l k)) ∧ Below w1.heap.size w1 w') := fun w1 hb => goodAt_any v l k w1 (h.below hb)
  have HLT : Hid (atB l k = true → ∀ w1 : World, Below w.heap.size w w1 → Calls Try.prog 47 #[v, .int .i64 0, .int .i64 k] w1 fun e w' => ∃ r, e = .returned r ∧ OwnOI w' w1.heap.size w'.heap.size r (unrR l k) ∧ Below w1.heap.size w1 w') := fun hat w1 hb => by
    obtain ⟨hg, n, rfl, hn⟩ := at_parts hat
    unfold unrR
    rw [if_pos hat, Int.toNat_natCast]
    exact between_any v l hg 0 n (Nat.zero_le _) (by omega) w1 (h.below hb)
  have HN : Hid (atB l k = false → unrR l k = []) := fun e => by
    unfold unrR
    rw [if_neg (by rw [e]; decide)]
  obtain ⟨ga, gn, gc, oa, on, oc, rfl⟩ := h.shape
  have HB0 : Hid (Below w.heap.size w (w.alloc (.cells #[.slice ga gn gc, .slice oa on oc] 26))) := (Below.refl _ _).alloc (Nat.le_refl _) _
  have x0 := box2_alloc w 26 (.slice ga gn gc) (.slice oa on oc)
  have HX0 : Hid _ := x0
  have g := HG.out _ HB0.out
  clear h HG x0
  generalize unrR l k = LR at *
  generalize atB l k = AB at *
  cases AB with
  | false =>
    have HZ := HN.out rfl
    subst HZ
    clear HLT HN HX0
    go_enter Try.func31, Try.ntmps31
    go_wp2_with fail
    refine g.mono ?_
    rintro e w1 ⟨rfl, hs⟩
    have HB1 : Hid (Below w.heap.size w w1) := HB0.out.trans (hs.mono HB0.out.size)
    have HE : Hid (OwnOI w1 w.heap.size w1.heap.size (.slice none 0 0) []) := ⟨Nat.le_refl _, Or.inl ⟨rfl, none, 0, rfl, fun _ => rfl, fun ad e => by cases e⟩⟩
    clear g hs
    go_wp2_with fail
    go_ret2
    exact ⟨_, rfl, HE.out, HB1.out⟩
  | true =>
    have HL2 : Hid _ := HLT.out rfl
    clear HLT HN
    go_enter Try.func31, Try.ntmps31
    go_wp2_with fail
    refine g.mono ?_
    generalize w.alloc (.cells #[.slice ga gn gc, .slice oa on oc] 26) = w0 at *
    rintro e w1 ⟨rfl, hs⟩
    have HB1 : Hid (Below w.heap.size w w1) := HB0.out.trans (hs.mono HB0.out.size)
    have x1 := HX0.out.below hs HX0.out.lt
    obtain ⟨a0, a1⟩ := x1.cells
    have ah := x1.heap
    have al := x1.lt
    clear g hs x1 HX0
    have g2 := HL2.out _ HB1.out
    go_wp2_with fail
    refine g2.mono ?_
    rintro e w2 ⟨r, rfl, ho, hs⟩
    have HB2 : Hid (Below w.heap.size w w2) := HB1.out.trans (hs.mono HB1.out.size)
    have HO2 : Hid (OwnOI w2 w.heap.size w2.heap.size r LR) := OffIn.weak ho HB1.out.size (Nat.le_refl _) (Nat.le_refl _)
    clear g2 hs a0 a1 ah al ho
    go_wp2_with fail
    go_ret2
    exact ⟨_, rfl, HO2.out, HB2.out⟩
end Go.Proofs.Ythamdefkcjfjpaa

namespace Go.Proofs.Ythamdefkcjfjpaa
open Go Go.RowKit
open M
set_option linter.unusedVariables false
set_option linter.unusedSimpArgs false

theorem unrR_ok (l : La) (n : Int) : (unrR l n).length ≤ 1048576 := by
  unfold unrR
  by_cases h : atB l n = true
  · rw [if_pos h, unrL_len]
    obtain ⟨_, m, rfl, hm⟩ := at_parts h
    rw [Int.toNat_natCast]
    omega
  · rw [if_neg h]
    simp
theorem own_oi2 {w : World} {B : Nat} {v : Value} {t : List Int} (h : OwnInts2 w B v t) : OwnOI w B w.heap.size v t := offIn_of h
set_option maxRecDepth 100000 in
set_option maxHeartbeats 2000000 in
theorem sLetterAt_any (v : Value) (l : La) (k : Int) (w : World) (h : AtLa w v l) :
    Calls Try.prog 35 #[v, .int .i64 k] w fun e w' => e = .returned (.tuple #[.int .i64 (letR l k), .bool (atB l k)]) ∧ Below w.heap.size w w' := by
  have HG : Hid (∀ w1 : World, Below w.heap.size w w1 → Calls Try.prog 21 #[v] w1 fun e w' => e = .returned (.bool (goodLa l)) ∧ Below w1.heap.size w1 w') := fun w1 hb => sGoodLasso_any v l w1 (h.below hb)
  have HLT : Hid (atB l k = true → ∀ w1 : World, Below w.heap.size w w1 → Calls Try.prog 61 #[v, .int .i64 k] w1 fun e w' => e = .returned (.int .i64 (letR l k)) ∧ Below w1.heap.size w1 w') := fun hat w1 hb => by
    obtain ⟨hg, n, rfl, hn⟩ := at_parts hat
    unfold letR
    rw [if_pos hat, Int.toNat_natCast]
    exact l9At_any v l hg n (by omega) w1 (h.below hb)
  have HN : Hid (atB l k = false → letR l k = 0) := fun e => by
    unfold letR
    rw [if_neg (by rw [e]; decide)]
  have hE : atB l k = (goodLa l && decide (0 ≤ k ∧ k ≤ 1000)) := rfl
  have GI : Hid (∀ w1 : World, Calls Try.prog 55 #[.int .i64 k, .int .i64 0, .int .i64 1000] w1 fun e w' => e = .returned (.bool (decide (0 ≤ k ∧ k ≤ 1000))) ∧ w' = w1) := fun w1 => l1In_any k 0 1000 w1
  obtain ⟨ga, gn, gc, oa, on, oc, rfl⟩ := h.shape
  have HB0 : Hid (Below w.heap.size w (w.alloc (.cells #[.slice ga gn gc, .slice oa on oc] 26))) := (Below.refl _ _).alloc (Nat.le_refl _) _
  have x0 := box2_alloc w 26 (.slice ga gn gc) (.slice oa on oc)
  have HX0 : Hid _ := x0
  have g := HG.out _ HB0.out
  rw [hE] at HLT HN ⊢
  clear h HG x0 hE
  generalize letR l k = LR at *
  generalize goodLa l = AB at *
  generalize decide (0 ≤ k ∧ k ≤ 1000) = IB at *
  cases AB with
  | false =>
    rw [Bool.false_and] at HN ⊢
    have HZ := HN.out rfl
    subst HZ
    clear HLT HN HX0 GI
    go_enter Try.func35, Try.ntmps35
    go_wp2_with fail
    refine g.mono ?_
    rintro e w1 ⟨rfl, hs⟩
    have HB1 : Hid (Below w.heap.size w w1) := HB0.out.trans (hs.mono HB0.out.size)
    clear g hs
    go_wp2_with fail
    go_ret2
    exact ⟨rfl, HB1.out⟩
  | true =>
    rw [Bool.true_and] at HLT HN ⊢
    cases IB with
    | false =>
      have HZ := HN.out rfl
      subst HZ
      clear HLT HN HX0
      go_enter Try.func35, Try.ntmps35
      go_wp2_with fail
      refine g.mono ?_
      rintro e w1 ⟨rfl, hs⟩
      have HB1 : Hid (Below w.heap.size w w1) := HB0.out.trans (hs.mono HB0.out.size)
      clear g hs
      go_wp2_with fail
      refine (GI.out _).mono ?_
      rintro e w2 ⟨rfl, rfl⟩
      go_wp2_with fail
      go_ret2
      exact ⟨rfl, HB1.out⟩
    | true =>
      have HL2 : Hid _ := HLT.out rfl
      clear HLT HN
      go_enter Try.func35, Try.ntmps35
      go_wp2_with fail
      refine g.mono ?_
      generalize w.alloc (.cells #[.slice ga gn gc, .slice oa on oc] 26) = w0 at *
      rintro e w1 ⟨rfl, hs⟩
      have HB1 : Hid (Below w.heap.size w w1) := HB0.out.trans (hs.mono HB0.out.size)
      have x1 := HX0.out.below hs HX0.out.lt
      obtain ⟨a0, a1⟩ := x1.cells
      have ah := x1.heap
      have al := x1.lt
      clear g hs x1 HX0
      go_wp2_with fail
      refine (GI.out _).mono ?_
      rintro e w2 ⟨rfl, rfl⟩
      have g2 := HL2.out _ HB1.out
      go_wp2_with fail
      refine g2.mono ?_
      rintro e w2 ⟨rfl, hs⟩
      have HB2 : Hid (Below w.heap.size w w2) := HB1.out.trans (hs.mono HB1.out.size)
      clear g2 hs a0 a1 ah al
      go_wp2_with fail
      go_ret2
      exact ⟨rfl, HB2.out⟩
set_option maxRecDepth 100000 in
set_option maxHeartbeats 2000000 in
theorem sUnrollOf_any (v : Value) (l : La) (k : Int) (w : World) (h : AtLa w v l) :
    Calls Try.prog 34 #[v, .int .i64 k] w fun e w' => ∃ r, e = .returned (.tuple #[r, .bool (atB l k)]) ∧ OwnOI w' w.heap.size w'.heap.size r (unrR l k) ∧ Below w.heap.size w w' := by
  have HG : Hid (∀ w1 : World, Below w.heap.size w w1 → Calls Try.prog 21 #[v] w1 fun e w' => e = .returned (.bool (goodLa l)) ∧ Below w1.heap.size w1 w') := fun w1 hb => sGoodLasso_any v l w1 (h.below hb)
  have HLT : Hid (atB l k = true → ∀ w1 : World, Below w.heap.size w w1 → Calls Try.prog 52 #[v, .int .i64 0, .int .i64 k] w1 fun e w' => ∃ r, e = .returned r ∧ OwnInts2 w' w1.heap.size r (unrR l k) ∧ Below w1.heap.size w1 w') := fun hat w1 hb => by
    obtain ⟨hg, n, rfl, hn⟩ := at_parts hat
    unfold unrR
    rw [if_pos hat, Int.toNat_natCast]
    exact l9First_any v l hg 0 n (by omega) w1 (h.below hb)
  have HN : Hid (atB l k = false → unrR l k = []) := fun e => by
    unfold unrR
    rw [if_neg (by rw [e]; decide)]
  have hE : atB l k = (goodLa l && decide (0 ≤ k ∧ k ≤ 1000)) := rfl
  have GI : Hid (∀ w1 : World, Calls Try.prog 55 #[.int .i64 k, .int .i64 0, .int .i64 1000] w1 fun e w' => e = .returned (.bool (decide (0 ≤ k ∧ k ≤ 1000))) ∧ w' = w1) := fun w1 => l1In_any k 0 1000 w1
  obtain ⟨ga, gn, gc, oa, on, oc, rfl⟩ := h.shape
  have HB0 : Hid (Below w.heap.size w (w.alloc (.cells #[.slice ga gn gc, .slice oa on oc] 26))) := (Below.refl _ _).alloc (Nat.le_refl _) _
  have x0 := box2_alloc w 26 (.slice ga gn gc) (.slice oa on oc)
  have HX0 : Hid _ := x0
  have g := HG.out _ HB0.out
  rw [hE] at HLT HN ⊢
  clear h HG x0 hE
  generalize unrR l k = LR at *
  generalize goodLa l = AB at *
  generalize decide (0 ≤ k ∧ k ≤ 1000) = IB at *
  cases AB with
  | false =>
    rw [Bool.false_and] at HN ⊢
    have HZ := HN.out rfl
    subst HZ
    clear HLT HN HX0 GI
    go_enter Try.func34, Try.ntmps34
    go_wp2_with fail
    refine g.mono ?_
    rintro e w1 ⟨rfl, hs⟩
    have HB1 : Hid (Below w.heap.size w w1) := HB0.out.trans (hs.mono HB0.out.size)
    have HE : Hid (OwnOI w1 w.heap.size w1.heap.size (.slice none 0 0) []) := ⟨Nat.le_refl _, Or.inl ⟨rfl, none, 0, rfl, fun _ => rfl, fun ad e => by cases e⟩⟩
    clear g hs
    go_wp2_with fail
    go_ret2
    exact ⟨_, rfl, HE.out, HB1.out⟩
  | true =>
    rw [Bool.true_and] at HLT HN ⊢
    cases IB with
    | false =>
      have HZ := HN.out rfl
      subst HZ
      clear HLT HN HX0
      go_enter Try.func34, Try.ntmps34
      go_wp2_with fail
      refine g.mono ?_
      rintro e w1 ⟨rfl, hs⟩
      have HB1 : Hid (Below w.heap.size w w1) := HB0.out.trans (hs.mono HB0.out.size)
      have HE : Hid (OwnOI w1 w.heap.size w1.heap.size (.slice none 0 0) []) := ⟨Nat.le_refl _, Or.inl ⟨rfl, none, 0, rfl, fun _ => rfl, fun ad e => by cases e⟩⟩
      clear g hs
      go_wp2_with fail
      refine (GI.out _).mono ?_
      rintro e w2 ⟨rfl, rfl⟩
      go_wp2_with fail
      go_ret2
      exact ⟨_, rfl, HE.out, HB1.out⟩
    | true =>
      have HL2 : Hid _ := HLT.out rfl
      clear HLT HN
      go_enter Try.func34, Try.ntmps34
      go_wp2_with fail
      refine g.mono ?_
      generalize w.alloc (.cells #[.slice ga gn gc, .slice oa on oc] 26) = w0 at *
      rintro e w1 ⟨rfl, hs⟩
      have HB1 : Hid (Below w.heap.size w w1) := HB0.out.trans (hs.mono HB0.out.size)
      have x1 := HX0.out.below hs HX0.out.lt
      obtain ⟨a0, a1⟩ := x1.cells
      have ah := x1.heap
      have al := x1.lt
      clear g hs x1 HX0
      go_wp2_with fail
      refine (GI.out _).mono ?_
      rintro e w2 ⟨rfl, rfl⟩
      have g2 := HL2.out _ HB1.out
      go_wp2_with fail
      refine g2.mono ?_
      rintro e w2 ⟨r, rfl, ho, hs⟩
      have HB2 : Hid (Below w.heap.size w w2) := HB1.out.trans (hs.mono HB1.out.size)
      have HO2 : Hid (OwnOI w2 w.heap.size w2.heap.size r LR) := OffIn.weak (own_oi2 ho) HB1.out.size (Nat.le_refl _) (Nat.le_refl _)
      clear g2 hs a0 a1 ah al ho
      go_wp2_with fail
      go_ret2
      exact ⟨_, rfl, HO2.out, HB2.out⟩
end Go.Proofs.Ythamdefkcjfjpaa

namespace Go.Proofs.Ythamdefkcjfjpaa
open Go Go.RowKit
open M
set_option linter.unusedVariables false
set_option linter.unusedSimpArgs false

theorem laOk_nil : LaOk ([], []) := ⟨by simp, by simp⟩
theorem sufR_ok (l : La) (k : Int) : LaOk (sufR l k) := by
  unfold sufR
  by_cases h : atB l k = true
  · rw [if_pos h]
    obtain ⟨hg, m, rfl, hm⟩ := at_parts h
    obtain ⟨q1, q2, q3⟩ := good_lens hg
    unfold sufL
    refine ⟨?_, ?_⟩
    · rw [unrL_len]
      have : Nat.max (m : Int).toNat l.1.length ≤ 1024 := Nat.max_le.2 ⟨by rw [Int.toNat_natCast]; omega, by omega⟩
      omega
    · rw [unrL_len]
      omega
  · rw [if_neg h]
    exact laOk_nil
theorem ownLa_one {w : World} {B : Nat} {r : Value} {ys : List Int} (h : OwnOI w B w.heap.size r ys) : OwnLa w B w.heap.size (.agg #[.slice none 0 0, r]) ([], ys) :=
  ⟨_, r, rfl, ⟨Nat.le_refl _, Or.inl ⟨rfl, none, 0, rfl, fun _ => rfl, fun ad e => by cases e⟩⟩, h, fun k h1 _ => by cases h1⟩
theorem ownLa_nil (w : World) (B : Nat) : OwnLa w B w.heap.size (.agg #[.slice none 0 0, .slice none 0 0]) ([], []) := ownLa_one ⟨Nat.le_refl _, Or.inl ⟨rfl, none, 0, rfl, fun _ => rfl, fun ad e => by cases e⟩⟩
set_option maxRecDepth 100000 in
set_option maxHeartbeats 2000000 in
theorem suf_far (ga : Option Addr) (gn gc : Nat) (oa : Option Addr) (on oc k : Nat) (ys : List Int) (hk : gn < k) (hgn : gn ≤ 24) (hon : on ≤ 24) (hk1 : k ≤ 1000) (w : World)
    (GF : Hid (∀ w1 : World, Below w.heap.size w w1 → Calls Try.prog 52 #[.agg #[.slice ga gn gc, .slice oa on oc], .int .i64 k, .int .i64 on] w1 fun e w' => ∃ r, e = .returned r ∧ OwnInts2 w' w1.heap.size r ys ∧ Below w1.heap.size w1 w')) :
    Calls Try.prog 59 #[.agg #[.slice ga gn gc, .slice oa on oc], .int .i64 k] w fun e w' => ∃ u, e = .returned u ∧ OwnLa w' w.heap.size w'.heap.size u ([], ys) ∧ Below w.heap.size w w' := by
  have hb2 : Below w.heap.size w ((w.alloc (.cells #[.slice ga gn gc, .slice oa on oc] 26)).alloc (.cells #[.slice none 0 0, .slice none 0 0] 26)) := ((Below.refl _ _).alloc (Nat.le_refl _) _).alloc (by rw [World.size_alloc]; omega) _
  have HB0 : Hid _ := hb2
  have x0 := (box2_alloc w 26 (.slice ga gn gc) (.slice oa on oc)).alloc (.cells #[.slice none 0 0, .slice none 0 0] 26)
  have y0 := box2_alloc (w.alloc (.cells #[.slice ga gn gc, .slice oa on oc] 26)) 26 (.slice none 0 0) (.slice none 0 0)
  simp only [World.size_alloc] at y0
  have g := GF.out _ HB0.out
  have HY0 : Hid _ := y0
  have hz0 : ((w.alloc (.cells #[.slice ga gn gc, .slice oa on oc] 26)).alloc (.cells #[.slice none 0 0, .slice none 0 0] 26)).heap.size = w.heap.size + 2 := by rw [World.size_alloc, World.size_alloc]
  obtain ⟨a0, a1⟩ := x0.cells
  have ah := x0.heap
  have al := x0.lt
  clear hb2 x0 y0 GF
  go_enter Try.func59, Try.ntmps59
  go_wp2_with fail
  refine g.mono ?_
  clear a0 a1 ah al
  generalize (w.alloc (.cells #[.slice ga gn gc, .slice oa on oc] 26)).alloc (.cells #[.slice none 0 0, .slice none 0 0] 26) = w0 at *
  rintro e w1 ⟨r, rfl, ho, hs⟩
  have HB1 : Hid (Below w.heap.size w w1) := HB0.out.trans (hs.mono (by omega))
  obtain ⟨ra, rn, rc, rfl⟩ := (own_of2 ho).shape
  have y1 := HY0.out.below hs (by omega)
  have hs1 := hs.size
  have HO : Hid _ := own_of2 ho
  obtain ⟨k0, k1⟩ := y1.cells
  have kh := y1.heap
  have kl := y1.lt
  have f0 := y1.frozen 0
  have f1 := y1.frozen 1
  have y2 := (y1.set0 (.slice none 0 0)).set1 (.slice ra rn rc)
  have hyh := y2.heap
  have HOL : Hid (OwnLa ((w1.setCell ⟨w.heap.size + 1, 0, none⟩ (.slice none 0 0)).setCell ⟨w.heap.size + 1, 1, none⟩ (.slice ra rn rc)) w.heap.size ((w1.setCell ⟨w.heap.size + 1, 0, none⟩ (.slice none 0 0)).setCell ⟨w.heap.size + 1, 1, none⟩ (.slice ra rn rc)).heap.size (.agg #[.slice none 0 0, .slice ra rn rc]) ([], ys)) := by
    have h9 := ((ownLa_one (OffIn.weak (lo' := w0.heap.size) (hi' := w1.heap.size) HO.out (Nat.le_refl _) (Nat.le_refl _) (Nat.le_refl _))).setO (b := w.heap.size + 1) (o := 0) (x := .slice none 0 0) (Or.inl (by omega))).setO (b := w.heap.size + 1) (o := 1) (x := .slice ra rn rc) (Or.inl (by omega))
    exact h9.weak (by omega) (by rw [size_set, size_set]; exact Nat.le_refl _) (Nat.le_refl _)
  have HBE : Hid (Below w.heap.size w ((w1.setCell ⟨w.heap.size + 1, 0, none⟩ (.slice none 0 0)).setCell ⟨w.heap.size + 1, 1, none⟩ (.slice ra rn rc))) := (HB1.out.setCell (by show w.heap.size ≤ w.heap.size + 1; omega) _).setCell (by show w.heap.size ≤ w.heap.size + 1; omega) _
  clear g ho hs y1 HY0 HO
  go_wp2_with fail
  refine bodyPost_ret (results_cell_row rfl _ _ (w.heap.size + 1) 26 _ (0, 0) _ rfl hyh Try.underlying26 rfl (by kernel_rfl)) rfl ?_
  exact ⟨_, rfl, HOL.out, HBE.out⟩
theorem srcO_drop {w : World} {b off cap k : Nat} {t : List Int} (hk : k ≤ t.length) (hc : t.length ≤ cap) (h : IntsAt w (.slice (some ⟨b, off, none⟩) t.length cap) t) :
    SrcO w (.slice (if cap = k then some (⟨b, off, none⟩ : Addr) else some ⟨b, off + k, none⟩) (t.length - k) (cap - k)) (t.length - k) (cellsI (t.drop k)) := by
  by_cases e : cap = k
  · rw [if_pos e]
    refine Or.inr ⟨b, off, cap - k, rfl, fun h0 => by omega, fun j u hu => ?_⟩
    have hj := (List.getElem?_eq_some_iff.1 hu).1
    rw [cellsI_len, List.length_drop] at hj
    omega
  · rw [if_neg e]
    refine Or.inr ⟨b, off + k, cap - k, rfl, fun h0 => ?_, fun j u hu => ?_⟩
    · rcases h.2 with ⟨h1, _⟩ | ⟨b', off', cap', hv, hlt, _⟩
      · rw [h1] at h0
        simp at h0
      · injection hv with e1
        injection e1 with e1
        injection e1 with e1
        omega
    · unfold cellsI at hu
      rw [List.getElem?_map, Option.map_eq_some_iff] at hu
      obtain ⟨x, hx, rfl⟩ := hu
      rw [List.getElem?_drop] at hx
      rcases h.2 with ⟨h1, _⟩ | ⟨b', off', cap', hv, hlt, hc'⟩
      · rw [h1] at hx
        simp at hx
      · injection hv with e1
        injection e1 with e1
        injection e1 with e1 e2
        subst e1 e2
        rw [add_eq, Nat.add_assoc]
        exact hc' _ x hx
theorem l9Suffix_any (v : Value) (l : La) (hg : goodLa l = true) (k : Nat) (hk : k ≤ 1000) (w : World) (h : AtLS w v l) :
    Calls Try.prog 59 #[v, .int .i64 k] w fun e w' => ∃ u, e = .returned u ∧ OwnLa w' w.heap.size w'.heap.size u (sufL l k) ∧ Below w.heap.size w w' := by
  obtain ⟨q1, q2, q3⟩ := good_lens hg
  have hat := h.at
  obtain ⟨g, o, rfl, h1, h2, h3, h4⟩ := h
  have so := srcO_ints h2 h4
  obtain ⟨oa, oc, rfl⟩ := h2.shape
  have GO2 : Hid (∀ w1 : World, Below w.heap.size w w1 → Calls Try.prog 53 #[.slice oa l.2.length oc] w1 fun e w' => ∃ r, e = .returned r ∧ OwnInts2 w' w1.heap.size r l.2 ∧ Below w1.heap.size w1 w') := fun w1 hb => l1OwnO_any oa _ oc l.2 rfl (by omega) w1 (so.below (cellsI_len _) hb)
  by_cases hle : k ≤ l.1.length
  · rw [sufL_stem l k hle]
    obtain ⟨a', n', c', e, hz, hsp, hgc⟩ := h3
    obtain ⟨ga, gc, e2⟩ := h1.shape
    rw [e2] at e
    injection e with e3 e4 e5
    subst e3 e4 e5 e2
    cases ga with
    | none =>
      obtain ⟨z1, z2⟩ := hz rfl
      have hk0 : k = 0 := by omega
      have hnil : l.1 = [] := List.length_eq_zero_iff.1 z1
      subst hk0
      rw [z1, z2]
      have hd : l.1.drop 0 = [] := by rw [hnil]; rfl
      rw [hd]
      exact suf_none oa _ oc 0 rfl [] l.2 w (fun w1 hb => l1OwnO_any none 0 0 [] rfl (by omega) w1 (Or.inl ⟨rfl, rfl, rfl⟩)) GO2
    | some ad =>
      obtain ⟨b, off, s⟩ := ad
      have hs := hsp _ rfl
      simp only at hs
      subst hs
      refine suf_some oa _ oc k b off _ gc _ hle q1 hgc rfl (l.1.drop k) l.2 w (fun w1 hb => ?_) GO2
      have h9 := srcO_drop hle hgc (h1.below hb)
      exact l1OwnO_any _ _ _ _ (by rw [List.length_drop]) (by omega) w1 h9
  · rw [sufL_loop l k (by omega)]
    obtain ⟨ga, gc, rfl⟩ := h1.shape
    exact suf_far ga _ gc oa _ oc k (unrL l k l.2.length) (by omega) q1 q3 hk w (fun w1 hb => l9First_any _ l hg k l.2.length (by omega) w1 (hat.below hb))
end Go.Proofs.Ythamdefkcjfjpaa

namespace Go.Proofs.Ythamdefkcjfjpaa
open Go Go.RowKit
open M
set_option linter.unusedVariables false
set_option linter.unusedSimpArgs false

set_option maxRecDepth 100000 in
set_option maxHeartbeats 4000000 in
theorem sSuffixOf_any (v : Value) (l : La) (k : Int) (w : World) (h : AtLS w v l) :
    Calls Try.prog 24 #[v, .int .i64 k] w fun e w' => ∃ r, e = .returned (.tuple #[r, .bool (atB l k)]) ∧ OwnLa w' w.heap.size w'.heap.size r (sufR l k) ∧ Below w.heap.size w w' := by
  have HG : Hid (∀ w1 : World, Below w.heap.size w w1 → Calls Try.prog 21 #[v] w1 fun e w' => e = .returned (.bool (goodLa l)) ∧ Below w1.heap.size w1 w') := fun w1 hb => sGoodLasso_any v l w1 (h.at.below hb)
  have GI : Hid (∀ w1 : World, Calls Try.prog 55 #[.int .i64 k, .int .i64 0, .int .i64 1000] w1 fun e w' => e = .returned (.bool (decide (0 ≤ k ∧ k ≤ 1000))) ∧ w' = w1) := fun w1 => l1In_any k 0 1000 w1
  have HLT : Hid (atB l k = true → ∀ w1 : World, Below w.heap.size w w1 → Calls Try.prog 59 #[v, .int .i64 k] w1 fun e w' => ∃ r, e = .returned r ∧ OwnLa w' w1.heap.size w'.heap.size r (sufR l k) ∧ Below w1.heap.size w1 w') := fun hat w1 hb => by
    obtain ⟨hg, n, rfl, hn⟩ := at_parts hat
    unfold sufR
    rw [if_pos hat, Int.toNat_natCast]
    exact l9Suffix_any v l hg n hn w1 (h.below hb)
  have HN : Hid (atB l k = false → sufR l k = ([], [])) := fun e => by
    unfold sufR
    rw [if_neg (by rw [e]; decide)]
  have hE : atB l k = (goodLa l && decide (0 ≤ k ∧ k ≤ 1000)) := rfl
  obtain ⟨ga, gn, gc, oa, on, oc, rfl⟩ := h.shape
  have hb2 : Below w.heap.size w ((w.alloc (.cells #[.slice ga gn gc, .slice oa on oc] 26)).alloc (.cells #[.slice none 0 0, .slice none 0 0] 26)) := ((Below.refl _ _).alloc (Nat.le_refl _) _).alloc (by rw [World.size_alloc]; omega) _
  have HB0 : Hid _ := hb2
  have x0 := (box2_alloc w 26 (.slice ga gn gc) (.slice oa on oc)).alloc (.cells #[.slice none 0 0, .slice none 0 0] 26)
  have y0 := box2_alloc (w.alloc (.cells #[.slice ga gn gc, .slice oa on oc] 26)) 26 (.slice none 0 0) (.slice none 0 0)
  simp only [World.size_alloc] at y0
  have HX0 : Hid _ := x0
  have HY0 : Hid _ := y0
  have hz0 : ((w.alloc (.cells #[.slice ga gn gc, .slice oa on oc] 26)).alloc (.cells #[.slice none 0 0, .slice none 0 0] 26)).heap.size = w.heap.size + 2 := by rw [World.size_alloc, World.size_alloc]
  obtain ⟨a0, a1⟩ := x0.cells
  have ah := x0.heap
  have al := x0.lt
  have g := HG.out _ HB0.out
  rw [hE] at HLT HN ⊢
  clear h HG hb2 x0 y0 hE
  generalize goodLa l = AB at *
  generalize decide (0 ≤ k ∧ k ≤ 1000) = IB at *
  generalize sufR l k = LR at *
  cases AB with
  | false =>
    rw [Bool.false_and] at HN ⊢
    have HZ := HN.out rfl
    subst HZ
    clear HLT HN GI
    go_enter Try.func24, Try.ntmps24
    go_wp2_with fail
    refine g.mono ?_
    clear a0 a1 ah al
    generalize (w.alloc (.cells #[.slice ga gn gc, .slice oa on oc] 26)).alloc (.cells #[.slice none 0 0, .slice none 0 0] 26) = w0 at *
    rintro e w1 ⟨rfl, hs⟩
    have HB1 : Hid (Below w.heap.size w w1) := HB0.out.trans (hs.mono (by omega))
    have y1 := HY0.out.below hs (by omega)
    have x1 := HX0.out.below hs (by omega)
    have hs1 := hs.size
    clear g hs
    clear x1
    have HZO : Hid (OwnLa ((w1.setCell ⟨w.heap.size + 1, 0, none⟩ (.slice none 0 0)).setCell ⟨w.heap.size + 1, 1, none⟩ (.slice none 0 0)) w.heap.size ((w1.setCell ⟨w.heap.size + 1, 0, none⟩ (.slice none 0 0)).setCell ⟨w.heap.size + 1, 1, none⟩ (.slice none 0 0)).heap.size (.agg #[.slice none 0 0, .slice none 0 0]) ([], [])) := ownLa_nil _ _
    obtain ⟨k0, k1⟩ := y1.cells
    have kh := y1.heap
    have kl := y1.lt
    have kf0 := y1.frozen 0
    have kf1 := y1.frozen 1
    have y9 := (y1.set0 (.slice none 0 0)).set1 (.slice none 0 0)
    have hyh := y9.heap
    have HBE : Hid (Below w.heap.size w ((w1.setCell ⟨w.heap.size + 1, 0, none⟩ (.slice none 0 0)).setCell ⟨w.heap.size + 1, 1, none⟩ (.slice none 0 0))) := (HB1.out.setCell (by show w.heap.size ≤ w.heap.size + 1; omega) _).setCell (by show w.heap.size ≤ w.heap.size + 1; omega) _
    clear HX0 HY0 y9 y1
    go_wp2_with fail
    refine bodyPost_ret (results_la rfl _ _ (w.heap.size + 1) 26 _ (0, 0) _ rfl hyh Try.underlying26 rfl (by kernel_rfl)) rfl ?_
    exact ⟨_, rfl, HZO.out, HBE.out⟩
  | true =>
    rw [Bool.true_and] at HLT HN ⊢
    cases IB with
    | false =>
      have HZ := HN.out rfl
      subst HZ
      clear HLT HN
      go_enter Try.func24, Try.ntmps24
      go_wp2_with fail
      refine g.mono ?_
      clear a0 a1 ah al
      generalize (w.alloc (.cells #[.slice ga gn gc, .slice oa on oc] 26)).alloc (.cells #[.slice none 0 0, .slice none 0 0] 26) = w0 at *
      rintro e w1 ⟨rfl, hs⟩
      have HB1 : Hid (Below w.heap.size w w1) := HB0.out.trans (hs.mono (by omega))
      have y1 := HY0.out.below hs (by omega)
      have x1 := HX0.out.below hs (by omega)
      have hs1 := hs.size
      clear g hs
      clear x1
      go_wp2_with fail
      refine (GI.out _).mono ?_
      rintro e w1 ⟨rfl, rfl⟩
      have HZO : Hid (OwnLa ((w1.setCell ⟨w.heap.size + 1, 0, none⟩ (.slice none 0 0)).setCell ⟨w.heap.size + 1, 1, none⟩ (.slice none 0 0)) w.heap.size ((w1.setCell ⟨w.heap.size + 1, 0, none⟩ (.slice none 0 0)).setCell ⟨w.heap.size + 1, 1, none⟩ (.slice none 0 0)).heap.size (.agg #[.slice none 0 0, .slice none 0 0]) ([], [])) := ownLa_nil _ _
      obtain ⟨k0, k1⟩ := y1.cells
      have kh := y1.heap
      have kl := y1.lt
      have kf0 := y1.frozen 0
      have kf1 := y1.frozen 1
      have y9 := (y1.set0 (.slice none 0 0)).set1 (.slice none 0 0)
      have hyh := y9.heap
      have HBE : Hid (Below w.heap.size w ((w1.setCell ⟨w.heap.size + 1, 0, none⟩ (.slice none 0 0)).setCell ⟨w.heap.size + 1, 1, none⟩ (.slice none 0 0))) := (HB1.out.setCell (by show w.heap.size ≤ w.heap.size + 1; omega) _).setCell (by show w.heap.size ≤ w.heap.size + 1; omega) _
      clear HX0 HY0 y9 y1
      go_wp2_with fail
      refine bodyPost_ret (results_la rfl _ _ (w.heap.size + 1) 26 _ (0, 0) _ rfl hyh Try.underlying26 rfl (by kernel_rfl)) rfl ?_
      exact ⟨_, rfl, HZO.out, HBE.out⟩
    | true =>
      have HL2 : Hid _ := HLT.out rfl
      clear HLT HN
      go_enter Try.func24, Try.ntmps24
      go_wp2_with fail
      refine g.mono ?_
      clear a0 a1 ah al
      generalize (w.alloc (.cells #[.slice ga gn gc, .slice oa on oc] 26)).alloc (.cells #[.slice none 0 0, .slice none 0 0] 26) = w0 at *
      rintro e w1 ⟨rfl, hs⟩
      have HB1 : Hid (Below w.heap.size w w1) := HB0.out.trans (hs.mono (by omega))
      have y1 := HY0.out.below hs (by omega)
      have x1 := HX0.out.below hs (by omega)
      have hs1 := hs.size
      clear g hs
      obtain ⟨a0, a1⟩ := x1.cells
      have ah := x1.heap
      have al := x1.lt
      clear x1 HX0
      go_wp2_with fail
      refine (GI.out _).mono ?_
      rintro e w1 ⟨rfl, rfl⟩
      have g2 := HL2.out _ HB1.out
      go_wp2_with fail
      refine g2.mono ?_
      rintro e w2 ⟨r, rfl, ho, hs⟩
      have HB2 : Hid (Below w.heap.size w w2) := HB1.out.trans (hs.mono (by omega))
      have y2 := y1.below hs (by omega)
      obtain ⟨ua, un, uc, va, vn, vc, rfl⟩ := ho.shape
      have HO : Hid (OwnLa w2 w1.heap.size w2.heap.size (.agg #[.slice ua un uc, .slice va vn vc]) LR) := ho
      have hs2 := hs.size
      clear g2 hs a0 a1 ah al ho y1
      obtain ⟨k0, k1⟩ := y2.cells
      have kh := y2.heap
      have kl := y2.lt
      have kf0 := y2.frozen 0
      have kf1 := y2.frozen 1
      have y9 := (y2.set0 (.slice ua un uc)).set1 (.slice va vn vc)
      have hyh := y9.heap
      have HOL : Hid (OwnLa ((w2.setCell ⟨w.heap.size + 1, 0, none⟩ (.slice ua un uc)).setCell ⟨w.heap.size + 1, 1, none⟩ (.slice va vn vc)) w.heap.size ((w2.setCell ⟨w.heap.size + 1, 0, none⟩ (.slice ua un uc)).setCell ⟨w.heap.size + 1, 1, none⟩ (.slice va vn vc)).heap.size (.agg #[.slice ua un uc, .slice va vn vc]) LR) := ((HO.out.setO (b := w.heap.size + 1) (o := 0) (x := .slice ua un uc) (Or.inl (by omega))).setO (b := w.heap.size + 1) (o := 1) (x := .slice va vn vc) (Or.inl (by omega))).weak (by omega) (by rw [size_set, size_set]; exact Nat.le_refl _) (Nat.le_refl _)
      have HBE : Hid (Below w.heap.size w ((w2.setCell ⟨w.heap.size + 1, 0, none⟩ (.slice ua un uc)).setCell ⟨w.heap.size + 1, 1, none⟩ (.slice va vn vc))) := (HB2.out.setCell (by show w.heap.size ≤ w.heap.size + 1; omega) _).setCell (by show w.heap.size ≤ w.heap.size + 1; omega) _
      clear HY0 y9 y2
      go_wp2_with fail
      refine bodyPost_ret (results_la rfl _ _ (w.heap.size + 1) 26 _ (0, 0) _ rfl hyh Try.underlying26 rfl (by kernel_rfl)) rfl ?_
      exact ⟨_, rfl, HOL.out, HBE.out⟩
set_option maxRecDepth 100000 in
set_option maxHeartbeats 4000000 in
theorem iSuffixOf_any (v : Value) (l : La) (k : Int) (w : World) (h : AtLa w v l) :
    Calls Try.prog 23 #[v, .int .i64 k] w fun e w' => ∃ r, e = .returned (.tuple #[r, .bool (atB l k)]) ∧ OwnLa w' w.heap.size w'.heap.size r (sufR l k) ∧ Below w.heap.size w w' := by
  have HG : Hid (∀ w1 : World, Below w.heap.size w w1 → Calls Try.prog 58 #[v, .int .i64 k] w1 fun e w' => e = .returned (.bool (atB l k)) ∧ Below w1.heap.size w1 w') := fun w1 hb => goodAt_any v l k w1 (h.below hb)
  have HPR : Hid (atB l k = true → ∃ n M p : Nat, k = n ∧ n ≤ 1000 ∧ n ≤ M ∧ l.1.length ≤ M ∧ ((l.1.length ≤ n ∧ n = M) ∨ (n < l.1.length ∧ l.1.length = M)) ∧ l.2.length = p ∧ M + p ≤ 1100 ∧ ∀ w1 : World, Below w.heap.size w w1 → Calls Try.prog 50 #[v, .int .i64 n, .int .i64 M, .int .i64 p] w1 fun e w' => ∃ r, e = .returned r ∧ OwnLa w' w1.heap.size w'.heap.size r (sufR l k) ∧ Below w1.heap.size w1 w') := fun hat => by
    obtain ⟨hg, n, rfl, hn⟩ := at_parts hat
    obtain ⟨q1, q2, q3⟩ := good_lens hg
    have m1 := Nat.le_max_left n l.1.length
    have m2 := Nat.le_max_right n l.1.length
    have m3 : Nat.max n l.1.length ≤ 1024 := Nat.max_le.2 ⟨by omega, by omega⟩
    have m4 : (l.1.length ≤ n ∧ n = Nat.max n l.1.length) ∨ (n < l.1.length ∧ l.1.length = Nat.max n l.1.length) := by
      rcases Nat.lt_or_ge n l.1.length with h9 | h9
      · exact Or.inr ⟨h9, (Nat.max_eq_right (Nat.le_of_lt h9)).symm⟩
      · exact Or.inl ⟨h9, (Nat.max_eq_left h9).symm⟩
    refine ⟨n, Nat.max n l.1.length, l.2.length, rfl, hn, m1, m2, m4, rfl, by omega, fun w1 hb => ?_⟩
    unfold sufR
    rw [if_pos hat, Int.toNat_natCast]
    exact cutAt_any v l hg n (Nat.max n l.1.length) l.2.length m1 (by omega) w1 (h.below hb)
  have HN : Hid (atB l k = false → sufR l k = ([], [])) := fun e => by
    unfold sufR
    rw [if_neg (by rw [e]; decide)]
  obtain ⟨g_, o_, hv, h1, h2⟩ := h
  obtain ⟨ga, gc, e1⟩ := h1.shape
  obtain ⟨oa, oc, e2⟩ := h2.shape
  subst e1 e2 hv
  generalize hgn : l.1.length = gn at *
  generalize hon : l.2.length = on at *
  have hb2 : Below w.heap.size w ((w.alloc (.cells #[.slice ga gn gc, .slice oa on oc] 26)).alloc (.cells #[.slice none 0 0, .slice none 0 0] 26)) := ((Below.refl _ _).alloc (Nat.le_refl _) _).alloc (by rw [World.size_alloc]; omega) _
  have HB0 : Hid _ := hb2
  have x0 := (box2_alloc w 26 (.slice ga gn gc) (.slice oa on oc)).alloc (.cells #[.slice none 0 0, .slice none 0 0] 26)
  have y0 := box2_alloc (w.alloc (.cells #[.slice ga gn gc, .slice oa on oc] 26)) 26 (.slice none 0 0) (.slice none 0 0)
  simp only [World.size_alloc] at y0
  have HX0 : Hid _ := x0
  have HY0 : Hid _ := y0
  have hz0 : ((w.alloc (.cells #[.slice ga gn gc, .slice oa on oc] 26)).alloc (.cells #[.slice none 0 0, .slice none 0 0] 26)).heap.size = w.heap.size + 2 := by rw [World.size_alloc, World.size_alloc]
  obtain ⟨a0, a1⟩ := x0.cells
  have ah := x0.heap
  have al := x0.lt
  have g := HG.out _ HB0.out
  clear h1 h2 HG hb2 x0 y0 hgn hon
  generalize atB l k = AB at *
  generalize sufR l k = LR at *
  cases AB with
  | false =>
    have HZ := HN.out rfl
    subst HZ
    clear HPR HN
    go_enter Try.func23, Try.ntmps23
    go_wp2_with fail
    refine g.mono ?_
    clear a0 a1 ah al
    generalize (w.alloc (.cells #[.slice ga gn gc, .slice oa on oc] 26)).alloc (.cells #[.slice none 0 0, .slice none 0 0] 26) = w0 at *
    rintro e w1 ⟨rfl, hs⟩
    have HB1 : Hid (Below w.heap.size w w1) := HB0.out.trans (hs.mono (by omega))
    have y1 := HY0.out.below hs (by omega)
    have x1 := HX0.out.below hs (by omega)
    have hs1 := hs.size
    clear g hs
    clear x1
    have HZO : Hid (OwnLa ((w1.setCell ⟨w.heap.size + 1, 0, none⟩ (.slice none 0 0)).setCell ⟨w.heap.size + 1, 1, none⟩ (.slice none 0 0)) w.heap.size ((w1.setCell ⟨w.heap.size + 1, 0, none⟩ (.slice none 0 0)).setCell ⟨w.heap.size + 1, 1, none⟩ (.slice none 0 0)).heap.size (.agg #[.slice none 0 0, .slice none 0 0]) ([], [])) := ownLa_nil _ _
    obtain ⟨k0, k1⟩ := y1.cells
    have kh := y1.heap
    have kl := y1.lt
    have kf0 := y1.frozen 0
    have kf1 := y1.frozen 1
    have y9 := (y1.set0 (.slice none 0 0)).set1 (.slice none 0 0)
    have hyh := y9.heap
    have HBE : Hid (Below w.heap.size w ((w1.setCell ⟨w.heap.size + 1, 0, none⟩ (.slice none 0 0)).setCell ⟨w.heap.size + 1, 1, none⟩ (.slice none 0 0))) := (HB1.out.setCell (by show w.heap.size ≤ w.heap.size + 1; omega) _).setCell (by show w.heap.size ≤ w.heap.size + 1; omega) _
    clear HX0 HY0 y9 y1
    go_wp2_with fail
    refine bodyPost_ret (results_la rfl _ _ (w.heap.size + 1) 26 _ (0, 0) _ rfl hyh Try.underlying26 rfl (by kernel_rfl)) rfl ?_
    exact ⟨_, rfl, HZO.out, HBE.out⟩
  | true =>
    obtain ⟨n, M, p, rfl, hn, hm1, hm2, hm3, rfl, hMp, HL9⟩ := HPR.out rfl
    have HL2 : Hid _ := HL9
    clear HPR HN HL9
    rcases hm3 with ⟨hm4, rfl⟩ | ⟨hm4, rfl⟩
    · clear hm1
      go_enter Try.func23, Try.ntmps23
      go_wp2_with fail
      refine g.mono ?_
      clear a0 a1 ah al
      generalize (w.alloc (.cells #[.slice ga gn gc, .slice oa on oc] 26)).alloc (.cells #[.slice none 0 0, .slice none 0 0] 26) = w0 at *
      rintro e w1 ⟨rfl, hs⟩
      have HB1 : Hid (Below w.heap.size w w1) := HB0.out.trans (hs.mono (by omega))
      have y1 := HY0.out.below hs (by omega)
      have x1 := HX0.out.below hs (by omega)
      have hs1 := hs.size
      clear g hs
      obtain ⟨a0, a1⟩ := x1.cells
      have ah := x1.heap
      have al := x1.lt
      clear x1 HX0
      have g2 := HL2.out _ HB1.out
      go_wp2_with fail
      refine g2.mono ?_
      rintro e w2 ⟨r, rfl, ho, hs⟩
      have HB2 : Hid (Below w.heap.size w w2) := HB1.out.trans (hs.mono (by omega))
      have y2 := y1.below hs (by omega)
      obtain ⟨ua, un, uc, va, vn, vc, rfl⟩ := ho.shape
      have HO : Hid (OwnLa w2 w1.heap.size w2.heap.size (.agg #[.slice ua un uc, .slice va vn vc]) LR) := ho
      have hs2 := hs.size
      clear g2 hs a0 a1 ah al ho y1
      obtain ⟨k0, k1⟩ := y2.cells
      have kh := y2.heap
      have kl := y2.lt
      have kf0 := y2.frozen 0
      have kf1 := y2.frozen 1
      have y9 := (y2.set0 (.slice ua un uc)).set1 (.slice va vn vc)
      have hyh := y9.heap
      have HOL : Hid (OwnLa ((w2.setCell ⟨w.heap.size + 1, 0, none⟩ (.slice ua un uc)).setCell ⟨w.heap.size + 1, 1, none⟩ (.slice va vn vc)) w.heap.size ((w2.setCell ⟨w.heap.size + 1, 0, none⟩ (.slice ua un uc)).setCell ⟨w.heap.size + 1, 1, none⟩ (.slice va vn vc)).heap.size (.agg #[.slice ua un uc, .slice va vn vc]) LR) := ((HO.out.setO (b := w.heap.size + 1) (o := 0) (x := .slice ua un uc) (Or.inl (by omega))).setO (b := w.heap.size + 1) (o := 1) (x := .slice va vn vc) (Or.inl (by omega))).weak (by omega) (by rw [size_set, size_set]; exact Nat.le_refl _) (Nat.le_refl _)
      have HBE : Hid (Below w.heap.size w ((w2.setCell ⟨w.heap.size + 1, 0, none⟩ (.slice ua un uc)).setCell ⟨w.heap.size + 1, 1, none⟩ (.slice va vn vc))) := (HB2.out.setCell (by show w.heap.size ≤ w.heap.size + 1; omega) _).setCell (by show w.heap.size ≤ w.heap.size + 1; omega) _
      clear HY0 y9 y2
      go_wp2_with fail
      refine bodyPost_ret (results_la rfl _ _ (w.heap.size + 1) 26 _ (0, 0) _ rfl hyh Try.underlying26 rfl (by kernel_rfl)) rfl ?_
      exact ⟨_, rfl, HOL.out, HBE.out⟩
    · clear hm2
      go_enter Try.func23, Try.ntmps23
      go_wp2_with fail
      refine g.mono ?_
      clear a0 a1 ah al
      generalize (w.alloc (.cells #[.slice ga gn gc, .slice oa on oc] 26)).alloc (.cells #[.slice none 0 0, .slice none 0 0] 26) = w0 at *
      rintro e w1 ⟨rfl, hs⟩
      have HB1 : Hid (Below w.heap.size w w1) := HB0.out.trans (hs.mono (by omega))
      have y1 := HY0.out.below hs (by omega)
      have x1 := HX0.out.below hs (by omega)
      have hs1 := hs.size
      clear g hs
      obtain ⟨a0, a1⟩ := x1.cells
      have ah := x1.heap
      have al := x1.lt
      clear x1 HX0
      have g2 := HL2.out _ HB1.out
      go_wp2_with fail
      refine g2.mono ?_
      rintro e w2 ⟨r, rfl, ho, hs⟩
      have HB2 : Hid (Below w.heap.size w w2) := HB1.out.trans (hs.mono (by omega))
      have y2 := y1.below hs (by omega)
      obtain ⟨ua, un, uc, va, vn, vc, rfl⟩ := ho.shape
      have HO : Hid (OwnLa w2 w1.heap.size w2.heap.size (.agg #[.slice ua un uc, .slice va vn vc]) LR) := ho
      have hs2 := hs.size
      clear g2 hs a0 a1 ah al ho y1
      obtain ⟨k0, k1⟩ := y2.cells
      have kh := y2.heap
      have kl := y2.lt
      have kf0 := y2.frozen 0
      have kf1 := y2.frozen 1
      have y9 := (y2.set0 (.slice ua un uc)).set1 (.slice va vn vc)
      have hyh := y9.heap
      have HOL : Hid (OwnLa ((w2.setCell ⟨w.heap.size + 1, 0, none⟩ (.slice ua un uc)).setCell ⟨w.heap.size + 1, 1, none⟩ (.slice va vn vc)) w.heap.size ((w2.setCell ⟨w.heap.size + 1, 0, none⟩ (.slice ua un uc)).setCell ⟨w.heap.size + 1, 1, none⟩ (.slice va vn vc)).heap.size (.agg #[.slice ua un uc, .slice va vn vc]) LR) := ((HO.out.setO (b := w.heap.size + 1) (o := 0) (x := .slice ua un uc) (Or.inl (by omega))).setO (b := w.heap.size + 1) (o := 1) (x := .slice va vn vc) (Or.inl (by omega))).weak (by omega) (by rw [size_set, size_set]; exact Nat.le_refl _) (Nat.le_refl _)
      have HBE : Hid (Below w.heap.size w ((w2.setCell ⟨w.heap.size + 1, 0, none⟩ (.slice ua un uc)).setCell ⟨w.heap.size + 1, 1, none⟩ (.slice va vn vc))) := (HB2.out.setCell (by show w.heap.size ≤ w.heap.size + 1; omega) _).setCell (by show w.heap.size ≤ w.heap.size + 1; omega) _
      clear HY0 y9 y2
      go_wp2_with fail
      refine bodyPost_ret (results_la rfl _ _ (w.heap.size + 1) 26 _ (0, 0) _ rfl hyh Try.underlying26 rfl (by kernel_rfl)) rfl ?_
      exact ⟨_, rfl, HOL.out, HBE.out⟩
end Go.Proofs.Ythamdefkcjfjpaa
