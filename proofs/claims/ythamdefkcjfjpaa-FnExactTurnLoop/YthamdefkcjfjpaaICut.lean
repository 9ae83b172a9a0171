/-
  The program's cutAt: a lasso cut out of a word.
-/
import Derived.Test.YthamdefkcjfjpaaIBetw
import Derived.Test.YthamdefkcjfjpaaRw9
namespace Go.Proofs.Ythamdefkcjfjpaa
open Go Go.RowKit
open M
set_option linter.unusedVariables false
set_option linter.unusedSimpArgs false

structure RegCut (W w' : World) (B Y : Nat) (ga : Option Addr) (gn gc : Nat) (oa : Option Addr) (on oc a t r T : Nat) (xs ys : List Int) (l0 l1 l2 l3 l4 l5 l6 l7 l8 l9 l10 l11 : Bool) (s0 s1 s2 s3 s4 s5 s6 s7 s8 s9 s10 : Value) : Prop where
  (bel : l11 = false → Below W.heap.size W w')
  (all : l11 = true → l0 = true ∧ l1 = true ∧ l2 = true ∧ l3 = true ∧ l4 = true ∧ l5 = true ∧ l6 = true ∧ l7 = true ∧ l8 = true ∧ l9 = true ∧ l10 = true)
  (fin : l11 = true → ∃ w4 : World, Below W.heap.size W w4 ∧ w' = ((w4.setCell ⟨Y, 0, none⟩ s3).setCell ⟨Y, 1, none⟩ s9) ∧ Rw B w4 s3 xs ∧ Rw2 B w4 s3 s9 ys)
  (d0 : l0 = true → s0 = .agg #[.slice ga gn gc, .slice oa on oc] ∧ True)
  (d1 : l1 = true → s1 = .int .i64 a ∧ True)
  (d2 : l2 = true → s2 = .int .i64 t ∧ True)
  (d3 : l3 = true → (l11 = false → Rw B w' s3 xs) ∧ l0 = true ∧ l1 = true ∧ l2 = true)
  (d4 : l4 = true → s4 = .agg #[.slice ga gn gc, .slice oa on oc] ∧ True)
  (d5 : l5 = true → s5 = .int .i64 t ∧ True)
  (d6 : l6 = true → s6 = .int .i64 t ∧ True)
  (d7 : l7 = true → s7 = .int .i64 r ∧ True)
  (d8 : l8 = true → s8 = .int .i64 T ∧ l6 = true ∧ l7 = true)
  (d9 : l9 = true → (l11 = false → Rw2 B w' s3 s9 ys) ∧ l3 = true ∧ l4 = true ∧ l5 = true ∧ l8 = true)
  (d10 : l10 = true → s10 = .agg #[s3, s9] ∧ l3 = true ∧ l9 = true)
set_option maxRecDepth 100000 in
set_option maxHeartbeats 8000000 in
theorem cutAt_any (v : Value) (l : La) (hg : goodLa l = true) (a t r : Nat) (hab : a ≤ t) (hb : t + r ≤ 1100) (w : World) (h : AtLa w v l) :
    Calls Try.prog 50 #[v, .int .i64 a, .int .i64 t, .int .i64 r] w fun e w' => ∃ u, e = .returned u ∧ OwnLa w' w.heap.size w'.heap.size u (cutL l a t r) ∧ Below w.heap.size w w' := by
  have GB : Hid (∀ (x y : Nat), x ≤ y → y ≤ 1100 → ∀ w1 : World, Below w.heap.size w w1 → Calls Try.prog 47 #[v, .int .i64 x, .int .i64 y] w1 fun e w' => ∃ r, e = .returned r ∧ OwnOI w' w1.heap.size w'.heap.size r (unrL l x (y - x)) ∧ Below w1.heap.size w1 w') := fun x y hx hy w1 hb => between_any v l hg x y hx hy w1 (h.below hb)
  obtain ⟨ga, gn, gc, oa, on, oc, rfl⟩ := h.shape
  obtain ⟨w0, hw0⟩ : ∃ w0, (w.alloc (.cells #[.slice ga gn gc, .slice oa on oc] 26)).alloc (.cells #[.slice none 0 0, .slice none 0 0] 26) = w0 := ⟨_, rfl⟩
  have HB0 : Hid (Below w.heap.size w w0) := by
    show Below _ _ _
    rw [← hw0]
    exact ((Below.refl _ _).alloc (Nat.le_refl _) _).alloc (by rw [World.size_alloc]; omega) _
  have x0 := (box2_alloc w 26 (.slice ga gn gc) (.slice oa on oc)).alloc (.cells #[.slice none 0 0, .slice none 0 0] 26)
  have y0 := box2_alloc (w.alloc (.cells #[.slice ga gn gc, .slice oa on oc] 26)) 26 (.slice none 0 0) (.slice none 0 0)
  simp only [World.size_alloc] at y0
  have hz0 : w0.heap.size = w.heap.size + 2 := by rw [← hw0, World.size_alloc, World.size_alloc]
  rw [hw0] at x0 y0
  have HXP : Hid (∀ w3, Below w0.drew.heap.size w0.drew w3 → Box2 w3 w.heap.size 26 (.slice ga gn gc) (.slice oa on oc)) := fun w3 hb3 => Box2.below (w := w0.drew) ⟨x0.heap⟩ hb3 (by show _ < w0.heap.size; omega)
  have HYP : Hid (∀ w3, Below w0.drew.heap.size w0.drew w3 → Box2 w3 (w.heap.size + 1) 26 (.slice none 0 0) (.slice none 0 0)) := fun w3 hb3 => Box2.below (w := w0.drew) ⟨y0.heap⟩ hb3 (by show _ < w0.heap.size; omega)
  have HBW : Hid (∀ w3, Below w0.drew.heap.size w0.drew w3 → Below w.heap.size w w3) := fun w3 hb3 => HB0.out.drew.trans (hb3.mono (by show w.heap.size ≤ w0.heap.size; omega))
  obtain ⟨T, hT0⟩ : ∃ T : Nat, t + r = T := ⟨_, rfl⟩
  have hTi : (t : Int) + (r : Int) = (T : Int) := by omega
  have hTw : IntKind.i64.wrap ((t : Int) + (r : Int)) = (T : Int) := by rw [hTi]; exact IntWalk.i64_in _ ⟨by omega, by omega⟩
  have hTw2 : IntKind.i64.wrap (T : Int) = (T : Int) := IntWalk.i64_in _ ⟨by omega, by omega⟩
  have hT1 : t ≤ T := by omega
  have hT2 : T ≤ 1100 := by omega
  have hta : t ≤ 1100 := by omega
  have HTR : Hid (T - t = r) := by show T - t = r; omega
  have HW0 : Hid _ := hw0
  have HCL : Hid (cutL l a t r = (unrL l a (t - a), unrL l t (T - t))) := by
    show cutL l a t r = _
    rw [HTR.out]
    rfl
  clear h x0 y0 hT0 hw0 hg
  go_enter Try.func50, Try.ntmps50
  go_wp2_with fail
  rw [HW0.out]
  refine wp_region_any (by kernel_rfl) ?_
  change wpAny _ _ _ _ _ _ _ (World.drew _)
  refine wpAny_invN (fun lb9 ac9 w' => ∃ (l0 l1 l2 l3 l4 l5 l6 l7 l8 l9 l10 l11 : Bool) (s0 s1 s2 s3 s4 s5 s6 s7 s8 s9 s10 : Value), lb9 = #[l0, l1, l2, l3, l4, l5, l6, l7, l8, l9, l10, l11] ∧ ac9 = { tmps := #[.agg #[.slice ga gn gc, .slice oa on oc], .int .i64 a, .int .i64 t, .int .i64 r, .pointer (some ⟨w.heap.size, 0, none⟩), undef, undef, undef, .pointer (some ⟨w.heap.size + 1, 0, none⟩), s0, s1, s2, s3, s4, s5, s6, s7, s8, s9, s10], defers := [] } ∧ RegCut w0.drew w' w0.drew.heap.size (w.heap.size + 1) ga gn gc oa on oc a t r T (unrL l a (t - a)) (unrL l t (T - t)) l0 l1 l2 l3 l4 l5 l6 l7 l8 l9 l10 l11 s0 s1 s2 s3 s4 s5 s6 s7 s8 s9 s10) ?done ?step 12 _ _ _ ⟨false, false, false, false, false, false, false, false, false, false, false, false, _, _, _, _, _, _, _, _, _, _, _, rfl, rfl, ?init⟩ (by decide)
  case init => exact { bel := fun _ => Below.refl _ _, all := fun e => (by cases e), fin := fun e => (by cases e), d0 := fun e => (by cases e), d1 := fun e => (by cases e), d2 := fun e => (by cases e), d3 := fun e => (by cases e), d4 := fun e => (by cases e), d5 := fun e => (by cases e), d6 := fun e => (by cases e), d7 := fun e => (by cases e), d8 := fun e => (by cases e), d9 := fun e => (by cases e), d10 := fun e => (by cases e) }
  case step =>
    rintro lb9 ac9 w3 ⟨l0, l1, l2, l3, l4, l5, l6, l7, l8, l9, l10, l11, s0, s1, s2, s3, s4, s5, s6, s7, s8, s9, s10, rfl, rfl, h⟩
    intro q hq
    have hlt9 := ready_ltN hq
    match q, hq, hlt9 with
    | 0, hq, _ =>
      have hr := ready_depN hq rfl
      have hme : l0 = false := hr.1
      have hT : l11 = false := by
        cases hc9 : l11 with
        | false => rfl
        | true => exact absurd (h.all hc9).1 (by rw [hme]; decide)
      have hbel := h.bel hT
      have x3 := HXP.out w3 hbel
      obtain ⟨c0, c1⟩ := x3.cells
      have ch := x3.heap
      have cl := x3.lt
      clear hr hq
      refine wpOp_runN rfl rfl (fun K hK => ?_)
      go_simp
      refine hK _ _ ⟨true, l1, l2, l3, l4, l5, l6, l7, l8, l9, l10, l11, _, _, _, _, _, _, _, _, _, _, _, rfl, rfl, ?_⟩
      exact { bel := h.bel, all := fun e => (by rw [hT] at e; cases e), fin := fun e => (by rw [hT] at e; cases e), d0 := fun _ => ⟨rfl, trivial⟩, d1 := h.d1, d2 := h.d2, d3 := fun e => absurd (h.d3 e).2.1 (by rw [hme]; decide), d4 := h.d4, d5 := h.d5, d6 := h.d6, d7 := h.d7, d8 := h.d8, d9 := h.d9, d10 := h.d10 }
    | 1, hq, _ =>
      have hr := ready_depN hq rfl
      have hme : l1 = false := hr.1
      have hT : l11 = false := by
        cases hc9 : l11 with
        | false => rfl
        | true => exact absurd (h.all hc9).2.1 (by rw [hme]; decide)
      have hbel := h.bel hT
      clear hr hq
      refine wpOp_runN rfl rfl (fun K hK => ?_)
      go_simp
      refine hK _ _ ⟨l0, true, l2, l3, l4, l5, l6, l7, l8, l9, l10, l11, _, _, _, _, _, _, _, _, _, _, _, rfl, rfl, ?_⟩
      exact { bel := h.bel, all := fun e => (by rw [hT] at e; cases e), fin := fun e => (by rw [hT] at e; cases e), d0 := h.d0, d1 := fun _ => ⟨rfl, trivial⟩, d2 := h.d2, d3 := fun e => absurd (h.d3 e).2.2.1 (by rw [hme]; decide), d4 := h.d4, d5 := h.d5, d6 := h.d6, d7 := h.d7, d8 := h.d8, d9 := h.d9, d10 := h.d10 }
    | 2, hq, _ =>
      have hr := ready_depN hq rfl
      have hme : l2 = false := hr.1
      have hT : l11 = false := by
        cases hc9 : l11 with
        | false => rfl
        | true => exact absurd (h.all hc9).2.2.1 (by rw [hme]; decide)
      have hbel := h.bel hT
      clear hr hq
      refine wpOp_runN rfl rfl (fun K hK => ?_)
      go_simp
      refine hK _ _ ⟨l0, l1, true, l3, l4, l5, l6, l7, l8, l9, l10, l11, _, _, _, _, _, _, _, _, _, _, _, rfl, rfl, ?_⟩
      exact { bel := h.bel, all := fun e => (by rw [hT] at e; cases e), fin := fun e => (by rw [hT] at e; cases e), d0 := h.d0, d1 := h.d1, d2 := fun _ => ⟨rfl, trivial⟩, d3 := fun e => absurd (h.d3 e).2.2.2 (by rw [hme]; decide), d4 := h.d4, d5 := h.d5, d6 := h.d6, d7 := h.d7, d8 := h.d8, d9 := h.d9, d10 := h.d10 }
    | 3, hq, _ =>
      have hr := ready_depN hq rfl
      have hme : l3 = false := hr.1
      have e0 : l0 = true := hr.2 ⟨0, .data⟩ (by simp) (by kernel_rfl)
      have e1 : l1 = true := hr.2 ⟨1, .data⟩ (by simp) (by kernel_rfl)
      have e2 : l2 = true := hr.2 ⟨2, .data⟩ (by simp) (by kernel_rfl)
      have hT : l11 = false := by
        cases hc9 : l11 with
        | false => rfl
        | true => exact absurd (h.all hc9).2.2.2.1 (by rw [hme]; decide)
      have hbel := h.bel hT
      obtain rfl := (h.d0 e0).1
      obtain rfl := (h.d1 e1).1
      obtain rfl := (h.d2 e2).1
      clear hr hq
      refine wpOp_runN rfl rfl (fun K hK => ?_)
      go_simp
      go_at_call 47
      refine Calls.mono (GB.out _ _ (hab) (by omega) w3 (HBW.out w3 hbel)) ?_
      rintro e w4 ⟨r, rfl, ho, hs4⟩
      have hbel4 := hbel.trans (hs4.mono hbel.size)
      have hnew := rw_of hbel.size ho
      refine hK _ _ ⟨l0, l1, l2, true, l4, l5, l6, l7, l8, l9, l10, l11, _, _, _, _, _, _, _, _, _, _, _, rfl, rfl, ?_⟩
      exact { bel := fun _ => hbel4, all := fun e => (by rw [hT] at e; cases e), fin := fun e => (by rw [hT] at e; cases e), d0 := h.d0, d1 := h.d1, d2 := h.d2, d3 := fun _ => ⟨fun _ => hnew, e0, e1, e2⟩, d4 := h.d4, d5 := h.d5, d6 := h.d6, d7 := h.d7, d8 := h.d8, d9 := fun e => absurd (h.d9 e).2.1 (by rw [hme]; decide), d10 := fun e => absurd (h.d10 e).2.1 (by rw [hme]; decide) }
    | 4, hq, _ =>
      have hr := ready_depN hq rfl
      have hme : l4 = false := hr.1
      have hT : l11 = false := by
        cases hc9 : l11 with
        | false => rfl
        | true => exact absurd (h.all hc9).2.2.2.2.1 (by rw [hme]; decide)
      have hbel := h.bel hT
      have x3 := HXP.out w3 hbel
      obtain ⟨c0, c1⟩ := x3.cells
      have ch := x3.heap
      have cl := x3.lt
      clear hr hq
      refine wpOp_runN rfl rfl (fun K hK => ?_)
      go_simp
      refine hK _ _ ⟨l0, l1, l2, l3, true, l5, l6, l7, l8, l9, l10, l11, _, _, _, _, _, _, _, _, _, _, _, rfl, rfl, ?_⟩
      exact { bel := h.bel, all := fun e => (by rw [hT] at e; cases e), fin := fun e => (by rw [hT] at e; cases e), d0 := h.d0, d1 := h.d1, d2 := h.d2, d3 := h.d3, d4 := fun _ => ⟨rfl, trivial⟩, d5 := h.d5, d6 := h.d6, d7 := h.d7, d8 := h.d8, d9 := fun e => absurd (h.d9 e).2.2.1 (by rw [hme]; decide), d10 := h.d10 }
    | 5, hq, _ =>
      have hr := ready_depN hq rfl
      have hme : l5 = false := hr.1
      have hT : l11 = false := by
        cases hc9 : l11 with
        | false => rfl
        | true => exact absurd (h.all hc9).2.2.2.2.2.1 (by rw [hme]; decide)
      have hbel := h.bel hT
      clear hr hq
      refine wpOp_runN rfl rfl (fun K hK => ?_)
      go_simp
      refine hK _ _ ⟨l0, l1, l2, l3, l4, true, l6, l7, l8, l9, l10, l11, _, _, _, _, _, _, _, _, _, _, _, rfl, rfl, ?_⟩
      exact { bel := h.bel, all := fun e => (by rw [hT] at e; cases e), fin := fun e => (by rw [hT] at e; cases e), d0 := h.d0, d1 := h.d1, d2 := h.d2, d3 := h.d3, d4 := h.d4, d5 := fun _ => ⟨rfl, trivial⟩, d6 := h.d6, d7 := h.d7, d8 := h.d8, d9 := fun e => absurd (h.d9 e).2.2.2.1 (by rw [hme]; decide), d10 := h.d10 }
    | 6, hq, _ =>
      have hr := ready_depN hq rfl
      have hme : l6 = false := hr.1
      have hT : l11 = false := by
        cases hc9 : l11 with
        | false => rfl
        | true => exact absurd (h.all hc9).2.2.2.2.2.2.1 (by rw [hme]; decide)
      have hbel := h.bel hT
      clear hr hq
      refine wpOp_runN rfl rfl (fun K hK => ?_)
      go_simp
      refine hK _ _ ⟨l0, l1, l2, l3, l4, l5, true, l7, l8, l9, l10, l11, _, _, _, _, _, _, _, _, _, _, _, rfl, rfl, ?_⟩
      exact { bel := h.bel, all := fun e => (by rw [hT] at e; cases e), fin := fun e => (by rw [hT] at e; cases e), d0 := h.d0, d1 := h.d1, d2 := h.d2, d3 := h.d3, d4 := h.d4, d5 := h.d5, d6 := fun _ => ⟨rfl, trivial⟩, d7 := h.d7, d8 := fun e => absurd (h.d8 e).2.1 (by rw [hme]; decide), d9 := h.d9, d10 := h.d10 }
    | 7, hq, _ =>
      have hr := ready_depN hq rfl
      have hme : l7 = false := hr.1
      have hT : l11 = false := by
        cases hc9 : l11 with
        | false => rfl
        | true => exact absurd (h.all hc9).2.2.2.2.2.2.2.1 (by rw [hme]; decide)
      have hbel := h.bel hT
      clear hr hq
      refine wpOp_runN rfl rfl (fun K hK => ?_)
      go_simp
      refine hK _ _ ⟨l0, l1, l2, l3, l4, l5, l6, true, l8, l9, l10, l11, _, _, _, _, _, _, _, _, _, _, _, rfl, rfl, ?_⟩
      exact { bel := h.bel, all := fun e => (by rw [hT] at e; cases e), fin := fun e => (by rw [hT] at e; cases e), d0 := h.d0, d1 := h.d1, d2 := h.d2, d3 := h.d3, d4 := h.d4, d5 := h.d5, d6 := h.d6, d7 := fun _ => ⟨rfl, trivial⟩, d8 := fun e => absurd (h.d8 e).2.2 (by rw [hme]; decide), d9 := h.d9, d10 := h.d10 }
    | 8, hq, _ =>
      have hr := ready_depN hq rfl
      have hme : l8 = false := hr.1
      have e6 : l6 = true := hr.2 ⟨6, .data⟩ (by simp) (by kernel_rfl)
      have e7 : l7 = true := hr.2 ⟨7, .data⟩ (by simp) (by kernel_rfl)
      have hT : l11 = false := by
        cases hc9 : l11 with
        | false => rfl
        | true => exact absurd (h.all hc9).2.2.2.2.2.2.2.2.1 (by rw [hme]; decide)
      have hbel := h.bel hT
      obtain rfl := (h.d6 e6).1
      obtain rfl := (h.d7 e7).1
      clear hr hq
      refine wpOp_runN rfl rfl (fun K hK => ?_)
      go_simp
      refine hK _ _ ⟨l0, l1, l2, l3, l4, l5, l6, l7, true, l9, l10, l11, _, _, _, _, _, _, _, _, _, _, _, rfl, rfl, ?_⟩
      exact { bel := h.bel, all := fun e => (by rw [hT] at e; cases e), fin := fun e => (by rw [hT] at e; cases e), d0 := h.d0, d1 := h.d1, d2 := h.d2, d3 := h.d3, d4 := h.d4, d5 := h.d5, d6 := h.d6, d7 := h.d7, d8 := fun _ => ⟨rfl, e6, e7⟩, d9 := fun e => absurd (h.d9 e).2.2.2.2 (by rw [hme]; decide), d10 := h.d10 }
    | 9, hq, _ =>
      have hr := ready_depN hq rfl
      have hme : l9 = false := hr.1
      have e3 : l3 = true := hr.2 ⟨3, .chain⟩ (by simp) (by kernel_rfl)
      have e4 : l4 = true := hr.2 ⟨4, .data⟩ (by simp) (by kernel_rfl)
      have e5 : l5 = true := hr.2 ⟨5, .data⟩ (by simp) (by kernel_rfl)
      have e8 : l8 = true := hr.2 ⟨8, .data⟩ (by simp) (by kernel_rfl)
      have hT : l11 = false := by
        cases hc9 : l11 with
        | false => rfl
        | true => exact absurd (h.all hc9).2.2.2.2.2.2.2.2.2.1 (by rw [hme]; decide)
      have hbel := h.bel hT
      obtain rfl := (h.d4 e4).1
      obtain rfl := (h.d5 e5).1
      obtain rfl := (h.d8 e8).1
      clear hr hq
      refine wpOp_runN rfl rfl (fun K hK => ?_)
      go_simp
      go_at_call 47
      refine Calls.mono (GB.out _ _ (hT1) (by omega) w3 (HBW.out w3 hbel)) ?_
      rintro e w4 ⟨r, rfl, ho, hs4⟩
      have hbel4 := hbel.trans (hs4.mono hbel.size)
      have hnew := rw2_of hbel.size ((h.d3 e3).1 hT) ho
      refine hK _ _ ⟨l0, l1, l2, l3, l4, l5, l6, l7, l8, true, l10, l11, _, _, _, _, _, _, _, _, _, _, _, rfl, rfl, ?_⟩
      exact { bel := fun _ => hbel4, all := fun e => (by rw [hT] at e; cases e), fin := fun e => (by rw [hT] at e; cases e), d0 := h.d0, d1 := h.d1, d2 := h.d2, d3 := fun e => ⟨fun hx => ((h.d3 e).1 hx).below hs4, (h.d3 e).2⟩, d4 := h.d4, d5 := h.d5, d6 := h.d6, d7 := h.d7, d8 := h.d8, d9 := fun _ => ⟨fun _ => hnew, e3, e4, e5, e8⟩, d10 := fun e => absurd (h.d10 e).2.2 (by rw [hme]; decide) }
    | 10, hq, _ =>
      have hr := ready_depN hq rfl
      have hme : l10 = false := hr.1
      have e3 : l3 = true := hr.2 ⟨3, .data⟩ (by simp) (by kernel_rfl)
      have e9 : l9 = true := hr.2 ⟨9, .data⟩ (by simp) (by kernel_rfl)
      have hT : l11 = false := by
        cases hc9 : l11 with
        | false => rfl
        | true => exact absurd (h.all hc9).2.2.2.2.2.2.2.2.2.2 (by rw [hme]; decide)
      have hbel := h.bel hT
      obtain ⟨u3a, u3n, u3c, rfl⟩ := ((h.d3 e3).1 hT).shape
      obtain ⟨u9a, u9n, u9c, rfl⟩ := ((h.d9 e9).1 hT).shape
      clear hr hq
      refine wpOp_runN rfl rfl (fun K hK => ?_)
      go_simp
      refine hK _ _ ⟨l0, l1, l2, l3, l4, l5, l6, l7, l8, l9, true, l11, _, _, _, _, _, _, _, _, _, _, _, rfl, rfl, ?_⟩
      exact { bel := h.bel, all := fun e => (by rw [hT] at e; cases e), fin := fun e => (by rw [hT] at e; cases e), d0 := h.d0, d1 := h.d1, d2 := h.d2, d3 := h.d3, d4 := h.d4, d5 := h.d5, d6 := h.d6, d7 := h.d7, d8 := h.d8, d9 := h.d9, d10 := fun _ => ⟨rfl, e3, e9⟩ }
    | 11, hq, _ =>
      have hr := ready_depN hq rfl
      have hme : l11 = false := hr.1
      have e0 : l0 = true := hr.2 ⟨0, .phase⟩ (by simp) (by kernel_rfl)
      have e1 : l1 = true := hr.2 ⟨1, .phase⟩ (by simp) (by kernel_rfl)
      have e2 : l2 = true := hr.2 ⟨2, .phase⟩ (by simp) (by kernel_rfl)
      have e3 : l3 = true := hr.2 ⟨3, .phase⟩ (by simp) (by kernel_rfl)
      have e4 : l4 = true := hr.2 ⟨4, .phase⟩ (by simp) (by kernel_rfl)
      have e5 : l5 = true := hr.2 ⟨5, .phase⟩ (by simp) (by kernel_rfl)
      have e6 : l6 = true := hr.2 ⟨6, .phase⟩ (by simp) (by kernel_rfl)
      have e7 : l7 = true := hr.2 ⟨7, .phase⟩ (by simp) (by kernel_rfl)
      have e8 : l8 = true := hr.2 ⟨8, .phase⟩ (by simp) (by kernel_rfl)
      have e9 : l9 = true := hr.2 ⟨9, .chain⟩ (by simp) (by kernel_rfl)
      have e10 : l10 = true := hr.2 ⟨10, .data⟩ (by simp) (by kernel_rfl)
      have hbel := h.bel hme
      obtain rfl := (h.d0 e0).1
      obtain rfl := (h.d1 e1).1
      obtain rfl := (h.d2 e2).1
      obtain rfl := (h.d4 e4).1
      obtain rfl := (h.d5 e5).1
      obtain rfl := (h.d6 e6).1
      obtain rfl := (h.d7 e7).1
      obtain rfl := (h.d8 e8).1
      obtain rfl := (h.d10 e10).1
      have y3 := HYP.out w3 hbel
      obtain ⟨k0, k1⟩ := y3.cells
      have kh := y3.heap
      have kl := y3.lt
      have kf0 := y3.frozen 0
      have kf1 := y3.frozen 1
      clear hr hq
      have hF3 := (h.d3 e3).1 hme
      have hF9 := (h.d9 e9).1 hme
      refine wpOp_runN rfl rfl (fun K hK => ?_)
      obtain ⟨u3a, u3n, u3c, rfl⟩ := hF3.shape
      obtain ⟨u9a, u9n, u9c, rfl⟩ := hF9.shape
      go_simp
      refine hK _ _ ⟨l0, l1, l2, l3, l4, l5, l6, l7, l8, l9, l10, true, _, _, _, _, _, _, _, _, _, _, _, rfl, rfl, ?_⟩
      exact { bel := fun e => (by cases e), all := fun _ => ⟨e0, e1, e2, e3, e4, e5, e6, e7, e8, e9, e10⟩, fin := fun _ => ⟨w3, hbel, rfl, hF3, hF9⟩, d0 := h.d0, d1 := h.d1, d2 := h.d2, d3 := fun e => ⟨fun e9 => (by cases e9), (h.d3 e).2⟩, d4 := h.d4, d5 := h.d5, d6 := h.d6, d7 := h.d7, d8 := h.d8, d9 := fun e => ⟨fun e9 => (by cases e9), (h.d9 e).2⟩, d10 := h.d10 }
    | k + 12, hq, h18 => exact (Nat.not_lt_of_le (Nat.le_add_left 12 k) h18).elim
  case done =>
    rintro lb9 ac9 w3 ⟨l0, l1, l2, l3, l4, l5, l6, l7, l8, l9, l10, l11, s0, s1, s2, s3, s4, s5, s6, s7, s8, s9, s10, rfl, rfl, h⟩ hr
    cases l0
    · exact (ready_none2N hr 0 rfl rfl rfl).elim
    cases l1
    · exact (ready_none2N hr 1 rfl rfl rfl).elim
    cases l2
    · exact (ready_none2N hr 2 rfl rfl rfl).elim
    cases l3
    · exact (ready_none2N hr 3 rfl rfl rfl).elim
    cases l4
    · exact (ready_none2N hr 4 rfl rfl rfl).elim
    cases l5
    · exact (ready_none2N hr 5 rfl rfl rfl).elim
    cases l6
    · exact (ready_none2N hr 6 rfl rfl rfl).elim
    cases l7
    · exact (ready_none2N hr 7 rfl rfl rfl).elim
    cases l8
    · exact (ready_none2N hr 8 rfl rfl rfl).elim
    cases l9
    · exact (ready_none2N hr 9 rfl rfl rfl).elim
    cases l10
    · exact (ready_none2N hr 10 rfl rfl rfl).elim
    cases l11
    · exact (ready_none2N hr 11 rfl rfl rfl).elim
    obtain rfl := (h.d0 rfl).1
    obtain rfl := (h.d1 rfl).1
    obtain rfl := (h.d2 rfl).1
    obtain rfl := (h.d4 rfl).1
    obtain rfl := (h.d5 rfl).1
    obtain rfl := (h.d6 rfl).1
    obtain rfl := (h.d7 rfl).1
    obtain rfl := (h.d8 rfl).1
    obtain rfl := (h.d10 rfl).1
    obtain ⟨w4, hbel, rfl, hF3, hF9⟩ := h.fin rfl
    clear h hr
    obtain ⟨u3a, u3n, u3c, rfl⟩ := hF3.shape
    obtain ⟨u9a, u9n, u9c, rfl⟩ := hF9.shape
    have y4 := ((HYP.out w4 hbel).set0 (.slice u3a u3n u3c)).set1 (.slice u9a u9n u9c)
    have hsz4 := hbel.size
    change w0.heap.size ≤ w4.heap.size at hsz4
    have hO := ((ownLa_rw hF3 hF9).setO (b := w.heap.size + 1) (o := 0) (x := .slice u3a u3n u3c) (Or.inl (by show _ < w0.heap.size; omega))).setO (b := w.heap.size + 1) (o := 1) (x := .slice u9a u9n u9c) (Or.inl (by show _ < w0.heap.size; omega))
    have HOL : Hid (OwnLa ((w4.setCell ⟨w.heap.size + 1, 0, none⟩ (.slice u3a u3n u3c)).setCell ⟨w.heap.size + 1, 1, none⟩ (.slice u9a u9n u9c)) w.heap.size ((w4.setCell ⟨w.heap.size + 1, 0, none⟩ (.slice u3a u3n u3c)).setCell ⟨w.heap.size + 1, 1, none⟩ (.slice u9a u9n u9c)).heap.size (.agg #[.slice u3a u3n u3c, .slice u9a u9n u9c]) (cutL l a t r)) := by
      show OwnLa _ _ _ _ _
      rw [HCL.out]
      exact hO.weak (by show w.heap.size ≤ w0.heap.size; omega) (by rw [size_set, size_set]; exact Nat.le_refl _) (Nat.le_refl _)
    have HBE : Hid (Below w.heap.size w ((w4.setCell ⟨w.heap.size + 1, 0, none⟩ (.slice u3a u3n u3c)).setCell ⟨w.heap.size + 1, 1, none⟩ (.slice u9a u9n u9c))) := ((HBW.out w4 hbel).setCell (by show w.heap.size ≤ w.heap.size + 1; omega) _).setCell (by show w.heap.size ≤ w.heap.size + 1; omega) _
    have hyh := y4.heap
    clear hO hF3 hF9
    go_wp2_with fail
    refine bodyPost_ret (results_cell_row rfl _ _ (w.heap.size + 1) 26 _ (0, 0) _ rfl hyh Try.underlying26 rfl (by kernel_rfl)) rfl ?_
    exact ⟨_, rfl, HOL.out, HBE.out⟩
end Go.Proofs.Ythamdefkcjfjpaa
