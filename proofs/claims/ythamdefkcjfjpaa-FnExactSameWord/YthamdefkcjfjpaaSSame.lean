/-
  The model's l9Same and SameWord.
-/
import Derived.Test.YthamdefkcjfjpaaSFirst
import Derived.Test.YthamdefkcjfjpaaRw9
import Derived.Test.YthamdefkcjfjpaaEqu9
namespace Go.Proofs.Ythamdefkcjfjpaa
open Go Go.RowKit
open M
set_option linter.unusedVariables false
set_option linter.unusedSimpArgs false

def sameB (a b : La) : Bool := goodLa a && goodLa b
def sameR (a b : La) : Bool := goodLa a && goodLa b && sameN 600 a b
structure RegSame (W w' : World) (B : Nat) (ga : Option Addr) (gn gc : Nat) (oa : Option Addr) (on oc : Nat) (ha : Option Addr) (hn hc : Nat) (pa : Option Addr) (pn pc : Nat) (E : Nat) (SB : Bool) (xs ys : List Int) (l0 l1 l2 l3 l4 l5 l6 l7 : Bool) (s0 s1 s2 s3 s4 s5 s6 s7 : Value) : Prop where
  (bel : Below W.heap.size W w')
  (d0 : l0 = true → s0 = .agg #[.slice ga gn gc, .slice oa on oc] ∧ True)
  (d1 : l1 = true → s1 = .int .i64 600 ∧ True)
  (d2 : l2 = true → (Rw B w' s2 xs) ∧ l0 = true ∧ l1 = true)
  (d3 : l3 = true → s3 = .agg #[.slice ha hn hc, .slice pa pn pc] ∧ True)
  (d4 : l4 = true → s4 = .int .i64 600 ∧ True)
  (d5 : l5 = true → (Rw B w' s5 ys) ∧ l2 = true ∧ l3 = true ∧ l4 = true)
  (d6 : l6 = true → s6 = .bool SB ∧ l2 = true ∧ l5 = true)
  (d7 : l7 = true → s7 = .bool SB ∧ l0 = true ∧ l1 = true ∧ l2 = true ∧ l3 = true ∧ l4 = true ∧ l5 = true ∧ l6 = true)
set_option maxRecDepth 100000 in
set_option maxHeartbeats 8000000 in
theorem l9Same_any (u v : Value) (a b : La) (ha0 : goodLa a = true) (hb0 : goodLa b = true) (w : World) (h : AtLa w u a) (h' : AtLa w v b) :
    Calls Try.prog 48 #[u, v] w fun e w' => e = .returned (.bool (sameN 600 a b)) ∧ Below w.heap.size w w' := by
  have GA : Hid (∀ w1 : World, Below w.heap.size w w1 → Calls Try.prog 52 #[u, .int .i64 0, .int .i64 600] w1 fun e w' => ∃ r, e = .returned r ∧ OwnInts2 w' w1.heap.size r (unrL a 0 600) ∧ Below w1.heap.size w1 w') := fun w1 hb => l9First_any u a ha0 0 600 (by omega) w1 (h.below hb)
  have GB : Hid (∀ w1 : World, Below w.heap.size w w1 → Calls Try.prog 52 #[v, .int .i64 0, .int .i64 600] w1 fun e w' => ∃ r, e = .returned r ∧ OwnInts2 w' w1.heap.size r (unrL b 0 600) ∧ Below w1.heap.size w1 w') := fun w1 hb => l9First_any v b hb0 0 600 (by omega) w1 (h'.below hb)
  have GE : Hid (∀ (w1 : World) (x y : Value), Below w.heap.size w w1 → IntsAt w1 x (unrL a 0 600) → IntsAt w1 y (unrL b 0 600) → Calls Try.prog 70 #[x, y] w1 fun e w' => e = .returned (.bool (sameN 600 a b)) ∧ Below w1.heap.size w1 w') := fun w1 x y _ hx hy => l1SameI_any x y _ _ w1 hx hy
  have HXL : Hid ((unrL a 0 600).length ≤ 1048576) := by show _ ≤ _; rw [unrL_len]; omega
  have HYL : Hid ((unrL b 0 600).length ≤ 1048576) := by show _ ≤ _; rw [unrL_len]; omega
  obtain ⟨ga, gn, gc, oa, on, oc, rfl⟩ := h.shape
  obtain ⟨ha, hn, hc, pa, pn, pc, rfl⟩ := h'.shape
  obtain ⟨w0, hw0⟩ : ∃ w0, (w.alloc (.cells #[.slice ga gn gc, .slice oa on oc] 26)).alloc (.cells #[.slice ha hn hc, .slice pa pn pc] 26) = w0 := ⟨_, rfl⟩
  have HB0 : Hid (Below w.heap.size w w0) := by
    show Below _ _ _
    rw [← hw0]
    exact ((Below.refl _ _).alloc (Nat.le_refl _) _).alloc (by rw [World.size_alloc]; omega) _
  have x0 := (box2_alloc w 26 (.slice ga gn gc) (.slice oa on oc)).alloc (.cells #[.slice ha hn hc, .slice pa pn pc] 26)
  have y0 := box2_alloc (w.alloc (.cells #[.slice ga gn gc, .slice oa on oc] 26)) 26 (.slice ha hn hc) (.slice pa pn pc)
  simp only [World.size_alloc] at y0
  have hz0 : w0.heap.size = w.heap.size + 2 := by rw [← hw0, World.size_alloc, World.size_alloc]
  rw [hw0] at x0 y0
  have HXP : Hid (∀ w3, Below w0.drew.heap.size w0.drew w3 → Box2 w3 w.heap.size 26 (.slice ga gn gc) (.slice oa on oc)) := fun w3 hb3 => Box2.below (w := w0.drew) ⟨x0.heap⟩ hb3 (by show _ < w0.heap.size; omega)
  have HYP : Hid (∀ w3, Below w0.drew.heap.size w0.drew w3 → Box2 w3 (w.heap.size + 1) 26 (.slice ha hn hc) (.slice pa pn pc)) := fun w3 hb3 => Box2.below (w := w0.drew) ⟨y0.heap⟩ hb3 (by show _ < w0.heap.size; omega)
  have HBW : Hid (∀ w3, Below w0.drew.heap.size w0.drew w3 → Below w.heap.size w w3) := fun w3 hb3 => HB0.out.drew.trans (hb3.mono (by show w.heap.size ≤ w0.heap.size; omega))
  have HW0 : Hid _ := hw0
  clear h h' ha0 hb0 x0 y0 hw0
  generalize unrL a 0 600 = xs at *
  generalize unrL b 0 600 = ys at *
  generalize sameN 600 a b = SB at *
  go_enter Try.func48, Try.ntmps48
  go_wp2_with fail
  rw [HW0.out]
  refine wp_region_any (by kernel_rfl) ?_
  change wpAny _ _ _ _ _ _ _ (World.drew _)
  refine wpAny_invN (fun lb9 ac9 w' => ∃ (l0 l1 l2 l3 l4 l5 l6 l7 : Bool) (s0 s1 s2 s3 s4 s5 s6 s7 : Value), lb9 = #[l0, l1, l2, l3, l4, l5, l6, l7] ∧ ac9 = { tmps := #[.agg #[.slice ga gn gc, .slice oa on oc], .agg #[.slice ha hn hc, .slice pa pn pc], .pointer (some ⟨w.heap.size, 0, none⟩), .pointer (some ⟨w.heap.size + 1, 0, none⟩), s7, .int .i64 600, s0, s1, s2, s3, s4, s5, s6], defers := [] } ∧ RegSame w0.drew w' w0.drew.heap.size ga gn gc oa on oc ha hn hc pa pn pc 600 SB xs ys l0 l1 l2 l3 l4 l5 l6 l7 s0 s1 s2 s3 s4 s5 s6 s7) ?done ?step 8 _ _ _ ⟨false, false, false, false, false, false, false, false, _, _, _, _, _, _, _, _, rfl, rfl, ?init⟩ (by decide)
  case init => exact { bel := Below.refl _ _, d0 := fun e => (by cases e), d1 := fun e => (by cases e), d2 := fun e => (by cases e), d3 := fun e => (by cases e), d4 := fun e => (by cases e), d5 := fun e => (by cases e), d6 := fun e => (by cases e), d7 := fun e => (by cases e) }
  case step =>
    rintro lb9 ac9 w3 ⟨l0, l1, l2, l3, l4, l5, l6, l7, s0, s1, s2, s3, s4, s5, s6, s7, rfl, rfl, h⟩
    intro q hq
    have hlt9 := ready_ltN hq
    match q, hq, hlt9 with
    | 0, hq, _ =>
      have hr := ready_depN hq rfl
      have hme : l0 = false := hr.1
      have hbel := h.bel
      have x3 := HXP.out w3 hbel
      obtain ⟨c0, c1⟩ := x3.cells
      have ch := x3.heap
      have cl := x3.lt
      clear hr hq
      refine wpOp_runN rfl rfl (fun K hK => ?_)
      go_simp
      refine hK _ _ ⟨true, l1, l2, l3, l4, l5, l6, l7, _, _, _, _, _, _, _, _, rfl, rfl, ?_⟩
      exact { bel := h.bel, d0 := fun _ => ⟨rfl, trivial⟩, d1 := h.d1, d2 := fun e => absurd (h.d2 e).2.1 (by rw [hme]; decide), d3 := h.d3, d4 := h.d4, d5 := h.d5, d6 := h.d6, d7 := fun e => absurd (h.d7 e).2.1 (by rw [hme]; decide) }
    | 1, hq, _ =>
      have hr := ready_depN hq rfl
      have hme : l1 = false := hr.1
      have hbel := h.bel
      clear hr hq
      refine wpOp_runN rfl rfl (fun K hK => ?_)
      go_simp
      refine hK _ _ ⟨l0, true, l2, l3, l4, l5, l6, l7, _, _, _, _, _, _, _, _, rfl, rfl, ?_⟩
      exact { bel := h.bel, d0 := h.d0, d1 := fun _ => ⟨rfl, trivial⟩, d2 := fun e => absurd (h.d2 e).2.2 (by rw [hme]; decide), d3 := h.d3, d4 := h.d4, d5 := h.d5, d6 := h.d6, d7 := fun e => absurd (h.d7 e).2.2.1 (by rw [hme]; decide) }
    | 2, hq, _ =>
      have hr := ready_depN hq rfl
      have hme : l2 = false := hr.1
      have e0 : l0 = true := hr.2 ⟨0, .data⟩ (by simp) (by kernel_rfl)
      have e1 : l1 = true := hr.2 ⟨1, .data⟩ (by simp) (by kernel_rfl)
      have hbel := h.bel
      obtain rfl := (h.d0 e0).1
      obtain rfl := (h.d1 e1).1
      clear hr hq
      refine wpOp_runN rfl rfl (fun K hK => ?_)
      go_simp
      go_at_call 52
      refine Calls.mono (GA.out w3 (HBW.out w3 hbel)) ?_
      rintro e w4 ⟨r, rfl, ho, hs4⟩
      have hbel4 := hbel.trans (hs4.mono hbel.size)
      have hnew := rw_of hbel.size (own_of2 ho)
      refine hK _ _ ⟨l0, l1, true, l3, l4, l5, l6, l7, _, _, _, _, _, _, _, _, rfl, rfl, ?_⟩
      exact { bel := hbel4, d0 := h.d0, d1 := h.d1, d2 := fun _ => ⟨hnew, e0, e1⟩, d3 := h.d3, d4 := h.d4, d5 := fun e => absurd (h.d5 e).2.1 (by rw [hme]; decide), d6 := fun e => absurd (h.d6 e).2.1 (by rw [hme]; decide), d7 := fun e => absurd (h.d7 e).2.2.2.1 (by rw [hme]; decide) }
    | 3, hq, _ =>
      have hr := ready_depN hq rfl
      have hme : l3 = false := hr.1
      have hbel := h.bel
      have x3 := HYP.out w3 hbel
      obtain ⟨c0, c1⟩ := x3.cells
      have ch := x3.heap
      have cl := x3.lt
      clear hr hq
      refine wpOp_runN rfl rfl (fun K hK => ?_)
      go_simp
      refine hK _ _ ⟨l0, l1, l2, true, l4, l5, l6, l7, _, _, _, _, _, _, _, _, rfl, rfl, ?_⟩
      exact { bel := h.bel, d0 := h.d0, d1 := h.d1, d2 := h.d2, d3 := fun _ => ⟨rfl, trivial⟩, d4 := h.d4, d5 := fun e => absurd (h.d5 e).2.2.1 (by rw [hme]; decide), d6 := h.d6, d7 := fun e => absurd (h.d7 e).2.2.2.2.1 (by rw [hme]; decide) }
    | 4, hq, _ =>
      have hr := ready_depN hq rfl
      have hme : l4 = false := hr.1
      have hbel := h.bel
      clear hr hq
      refine wpOp_runN rfl rfl (fun K hK => ?_)
      go_simp
      refine hK _ _ ⟨l0, l1, l2, l3, true, l5, l6, l7, _, _, _, _, _, _, _, _, rfl, rfl, ?_⟩
      exact { bel := h.bel, d0 := h.d0, d1 := h.d1, d2 := h.d2, d3 := h.d3, d4 := fun _ => ⟨rfl, trivial⟩, d5 := fun e => absurd (h.d5 e).2.2.2 (by rw [hme]; decide), d6 := h.d6, d7 := fun e => absurd (h.d7 e).2.2.2.2.2.1 (by rw [hme]; decide) }
    | 5, hq, _ =>
      have hr := ready_depN hq rfl
      have hme : l5 = false := hr.1
      have e2 : l2 = true := hr.2 ⟨2, .chain⟩ (by simp) (by kernel_rfl)
      have e3 : l3 = true := hr.2 ⟨3, .data⟩ (by simp) (by kernel_rfl)
      have e4 : l4 = true := hr.2 ⟨4, .data⟩ (by simp) (by kernel_rfl)
      have hbel := h.bel
      obtain rfl := (h.d3 e3).1
      obtain rfl := (h.d4 e4).1
      clear hr hq
      refine wpOp_runN rfl rfl (fun K hK => ?_)
      go_simp
      go_at_call 52
      refine Calls.mono (GB.out w3 (HBW.out w3 hbel)) ?_
      rintro e w4 ⟨r, rfl, ho, hs4⟩
      have hbel4 := hbel.trans (hs4.mono hbel.size)
      have hnew := rw_of hbel.size (own_of2 ho)
      refine hK _ _ ⟨l0, l1, l2, l3, l4, true, l6, l7, _, _, _, _, _, _, _, _, rfl, rfl, ?_⟩
      exact { bel := hbel4, d0 := h.d0, d1 := h.d1, d2 := fun e => ⟨(h.d2 e).1.below hs4, (h.d2 e).2⟩, d3 := h.d3, d4 := h.d4, d5 := fun _ => ⟨hnew, e2, e3, e4⟩, d6 := fun e => absurd (h.d6 e).2.2 (by rw [hme]; decide), d7 := fun e => absurd (h.d7 e).2.2.2.2.2.2.1 (by rw [hme]; decide) }
    | 6, hq, _ =>
      have hr := ready_depN hq rfl
      have hme : l6 = false := hr.1
      have e2 : l2 = true := hr.2 ⟨2, .data⟩ (by simp) (by kernel_rfl)
      have e5 : l5 = true := hr.2 ⟨5, .data⟩ (by simp) (by kernel_rfl)
      have hbel := h.bel
      clear hr hq
      refine wpOp_runN rfl rfl (fun K hK => ?_)
      go_simp
      go_at_call 70
      refine Calls.mono (GE.out w3 s2 s5 (HBW.out w3 hbel) ((h.d2 e2).1.reads HXL.out) ((h.d5 e5).1.reads HYL.out)) ?_
      rintro e w4 ⟨rfl, hs4⟩
      have hbel4 := hbel.trans (hs4.mono hbel.size)
      refine hK _ _ ⟨l0, l1, l2, l3, l4, l5, true, l7, _, _, _, _, _, _, _, _, rfl, rfl, ?_⟩
      exact { bel := hbel4, d0 := h.d0, d1 := h.d1, d2 := fun e => ⟨(h.d2 e).1.below hs4, (h.d2 e).2⟩, d3 := h.d3, d4 := h.d4, d5 := fun e => ⟨(h.d5 e).1.below hs4, (h.d5 e).2⟩, d6 := fun _ => ⟨rfl, e2, e5⟩, d7 := fun e => absurd (h.d7 e).2.2.2.2.2.2.2 (by rw [hme]; decide) }
    | 7, hq, _ =>
      have hr := ready_depN hq rfl
      have hme : l7 = false := hr.1
      have e0 : l0 = true := hr.2 ⟨0, .phase⟩ (by simp) (by kernel_rfl)
      have e1 : l1 = true := hr.2 ⟨1, .phase⟩ (by simp) (by kernel_rfl)
      have e2 : l2 = true := hr.2 ⟨2, .phase⟩ (by simp) (by kernel_rfl)
      have e3 : l3 = true := hr.2 ⟨3, .phase⟩ (by simp) (by kernel_rfl)
      have e4 : l4 = true := hr.2 ⟨4, .phase⟩ (by simp) (by kernel_rfl)
      have e5 : l5 = true := hr.2 ⟨5, .phase⟩ (by simp) (by kernel_rfl)
      have e6 : l6 = true := hr.2 ⟨6, .data⟩ (by simp) (by kernel_rfl)
      have hbel := h.bel
      obtain rfl := (h.d0 e0).1
      obtain rfl := (h.d1 e1).1
      obtain rfl := (h.d3 e3).1
      obtain rfl := (h.d4 e4).1
      obtain rfl := (h.d6 e6).1
      clear hr hq
      refine wpOp_runN rfl rfl (fun K hK => ?_)
      go_simp
      refine hK _ _ ⟨l0, l1, l2, l3, l4, l5, l6, true, _, _, _, _, _, _, _, _, rfl, rfl, ?_⟩
      exact { bel := h.bel, d0 := h.d0, d1 := h.d1, d2 := h.d2, d3 := h.d3, d4 := h.d4, d5 := h.d5, d6 := h.d6, d7 := fun _ => ⟨rfl, e0, e1, e2, e3, e4, e5, e6⟩ }
    | k + 8, hq, h18 => exact (Nat.not_lt_of_le (Nat.le_add_left 8 k) h18).elim
  case done =>
    rintro lb9 ac9 w3 ⟨l0, l1, l2, l3, l4, l5, l6, l7, s0, s1, s2, s3, s4, s5, s6, s7, rfl, rfl, h⟩ hr
    cases l0
    · exact (ready_none2N hr 0 rfl rfl rfl).elim
    cases l1
    · exact (ready_none2N hr 1 rfl rfl rfl).elim
    cases l2
    · exact (ready_none2N hr 2 rfl rfl rfl).elim
    cases l3
    · exact (ready_none2N hr 3 rfl rfl rfl).elim
    cases l4
    · exact (ready_none2N hr 4 rfl rfl rfl).elim
    cases l5
    · exact (ready_none2N hr 5 rfl rfl rfl).elim
    cases l6
    · exact (ready_none2N hr 6 rfl rfl rfl).elim
    cases l7
    · exact (ready_none2N hr 7 rfl rfl rfl).elim
    obtain rfl := (h.d0 rfl).1
    obtain rfl := (h.d1 rfl).1
    obtain rfl := (h.d3 rfl).1
    obtain rfl := (h.d4 rfl).1
    obtain rfl := (h.d6 rfl).1
    obtain rfl := (h.d7 rfl).1
    have hbel := h.bel
    have hF2 := (h.d2 rfl).1
    have hF5 := (h.d5 rfl).1
    clear h hr
    have HBE : Hid (Below w.heap.size w w3) := HBW.out w3 hbel
    clear hF2 hF5 hbel
    go_wp2_with fail
    go_ret
    exact ⟨rfl, HBE.out⟩
set_option maxRecDepth 100000 in
set_option maxHeartbeats 8000000 in
theorem sSameWord_any (u v : Value) (a b : La) (w : World) (h : AtLa w u a) (h' : AtLa w v b) :
    Calls Try.prog 16 #[u, v] w fun e w' => e = .returned (.tuple #[.bool (sameR a b), .bool (sameB a b)]) ∧ Below w.heap.size w w' := by
  have G1 : Hid (∀ w1 : World, Below w.heap.size w w1 → Calls Try.prog 21 #[u] w1 fun e w' => e = .returned (.bool (goodLa a)) ∧ Below w1.heap.size w1 w') := fun w1 hb => sGoodLasso_any u a w1 (h.below hb)
  have G2 : Hid (∀ w1 : World, Below w.heap.size w w1 → Calls Try.prog 21 #[v] w1 fun e w' => e = .returned (.bool (goodLa b)) ∧ Below w1.heap.size w1 w') := fun w1 hb => sGoodLasso_any v b w1 (h'.below hb)
  have hR : sameR a b = (goodLa a && goodLa b && sameN 600 a b) := rfl
  have hB : sameB a b = (goodLa a && goodLa b) := rfl
  have HS : Hid (goodLa a = true → goodLa b = true → ∀ w1 : World, Below w.heap.size w w1 → Calls Try.prog 48 #[u, v] w1 fun e w' => e = .returned (.bool (sameN 600 a b)) ∧ Below w1.heap.size w1 w') := fun q1 q2 w1 hb => l9Same_any u v a b q1 q2 w1 (h.below hb) (h'.below hb)
  obtain ⟨ga, gn, gc, oa, on, oc, rfl⟩ := h.shape
  obtain ⟨ha, hn, hc, pa, pn, pc, rfl⟩ := h'.shape
  obtain ⟨w0, hw0⟩ : ∃ w0, (w.alloc (.cells #[.slice ga gn gc, .slice oa on oc] 26)).alloc (.cells #[.slice ha hn hc, .slice pa pn pc] 26) = w0 := ⟨_, rfl⟩
  have HB0 : Hid (Below w.heap.size w w0) := by
    show Below _ _ _
    rw [← hw0]
    exact ((Below.refl _ _).alloc (Nat.le_refl _) _).alloc (by rw [World.size_alloc]; omega) _
  have x0 := (box2_alloc w 26 (.slice ga gn gc) (.slice oa on oc)).alloc (.cells #[.slice ha hn hc, .slice pa pn pc] 26)
  have y0 := box2_alloc (w.alloc (.cells #[.slice ga gn gc, .slice oa on oc] 26)) 26 (.slice ha hn hc) (.slice pa pn pc)
  simp only [World.size_alloc] at y0
  have hz0 : w0.heap.size = w.heap.size + 2 := by rw [← hw0, World.size_alloc, World.size_alloc]
  rw [hw0] at x0 y0
  have HX0 : Hid _ := x0
  have HY0 : Hid _ := y0
  obtain ⟨a0, a1⟩ := x0.cells
  have ah := x0.heap
  have al := x0.lt
  obtain ⟨b0, b1⟩ := y0.cells
  have bh := y0.heap
  have bl := y0.lt
  rw [← hw0] at a0 a1 ah al b0 b1 bh bl
  have g := G1.out _ HB0.out
  rw [← hw0] at g
  have HW0 : Hid _ := hw0
  rw [hR, hB]
  clear h h' G1 x0 y0 hw0 hR hB
  generalize sameN 600 a b = SB at *
  generalize goodLa a = AB at *
  generalize goodLa b = BB at *
  cases AB with
  | false =>
    rw [Bool.false_and, Bool.false_and]
    clear HS G2
    go_enter Try.func16, Try.ntmps16
    go_wp2_with fail
    refine g.mono ?_
    rw [HW0.out]
    clear a0 a1 ah al b0 b1 bh bl
    rintro e w1 ⟨rfl, hs⟩
    have HB1 : Hid (Below w.heap.size w w1) := HB0.out.trans (hs.mono (by omega))
    have x1 := HX0.out.below hs (by omega)
    have y1 := HY0.out.below hs (by omega)
    have hs1 := hs.size
    clear g hs HX0 HY0
    clear x1 y1
    go_wp2_with fail
    go_ret2
    exact ⟨rfl, HB1.out⟩
  | true =>
    rw [Bool.true_and]
    cases BB with
    | false =>
      rw [Bool.false_and]
      clear HS
      go_enter Try.func16, Try.ntmps16
      go_wp2_with fail
      refine g.mono ?_
      rw [HW0.out]
      clear a0 a1 ah al b0 b1 bh bl
      rintro e w1 ⟨rfl, hs⟩
      have HB1 : Hid (Below w.heap.size w w1) := HB0.out.trans (hs.mono (by omega))
      have x1 := HX0.out.below hs (by omega)
      have y1 := HY0.out.below hs (by omega)
      have hs1 := hs.size
      clear g hs HX0 HY0
      obtain ⟨a0, a1⟩ := x1.cells
      have ah := x1.heap
      have al := x1.lt
      obtain ⟨b0, b1⟩ := y1.cells
      have bh := y1.heap
      have bl := y1.lt
      clear x1 y1
      have g2 := G2.out _ HB1.out
      go_wp2_with fail
      refine g2.mono ?_
      rintro e w2 ⟨rfl, hs⟩
      have HB2 : Hid (Below w.heap.size w w2) := HB1.out.trans (hs.mono (by omega))
      clear g2 hs a0 a1 ah al b0 b1 bh bl
      go_wp2_with fail
      go_ret2
      exact ⟨rfl, HB2.out⟩
    | true =>
      rw [Bool.true_and]
      have HS2 : Hid _ := HS.out rfl rfl
      clear HS
      go_enter Try.func16, Try.ntmps16
      go_wp2_with fail
      refine g.mono ?_
      rw [HW0.out]
      clear a0 a1 ah al b0 b1 bh bl
      rintro e w1 ⟨rfl, hs⟩
      have HB1 : Hid (Below w.heap.size w w1) := HB0.out.trans (hs.mono (by omega))
      have x1 := HX0.out.below hs (by omega)
      have y1 := HY0.out.below hs (by omega)
      have hs1 := hs.size
      clear g hs HX0 HY0
      obtain ⟨a0, a1⟩ := x1.cells
      have ah := x1.heap
      have al := x1.lt
      obtain ⟨b0, b1⟩ := y1.cells
      have bh := y1.heap
      have bl := y1.lt
      have g2 := G2.out _ HB1.out
      go_wp2_with fail
      refine g2.mono ?_
      rintro e w2 ⟨rfl, hs⟩
      have HB2 : Hid (Below w.heap.size w w2) := HB1.out.trans (hs.mono (by omega))
      have x2 := x1.below hs (by omega)
      have y2 := y1.below hs (by omega)
      clear g2 hs a0 a1 ah al b0 b1 bh bl x1 y1
      obtain ⟨a0, a1⟩ := x2.cells
      have ah := x2.heap
      have al := x2.lt
      obtain ⟨b0, b1⟩ := y2.cells
      have bh := y2.heap
      have bl := y2.lt
      clear x2 y2
      have g3 := HS2.out _ HB2.out
      go_wp2_with fail
      refine g3.mono ?_
      rintro e w3 ⟨rfl, hs⟩
      have HB3 : Hid (Below w.heap.size w w3) := HB2.out.trans (hs.mono HB2.out.size)
      clear g3 hs a0 a1 ah al b0 b1 bh bl
      go_wp2_with fail
      go_ret2
      exact ⟨rfl, HB3.out⟩
end Go.Proofs.Ythamdefkcjfjpaa
