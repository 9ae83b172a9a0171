/-
  The walk of the exact law of SameWord, out of what the model's and the program's function do.
-/
import Derived.Test.YthamdefkcjfjpaaLasso
import Derived.Test.YthamdefkcjfjpaaCutT
import Derived.Test.YthamdefkcjfjpaaOwn5
import Derived.Test.YthamdefkcjfjpaaRwL9
namespace Go.Proofs.Ythamdefkcjfjpaa
open Go Go.RowKit
open M
set_option linter.unusedVariables false
set_option linter.unusedSimpArgs false

structure RegLawSame (W w' : World) (B : Nat) (asa : Option Addr) (asn asc : Nat) (aoa : Option Addr) (aon aoc : Nat) (bsa : Option Addr) (bsn bsc : Nat) (boa : Option Addr) (bon boc : Nat) (R0 R1 : Bool) (a b : La) (l0 l1 l2 l3 l4 l5 l6 l7 l8 l9 : Bool) (s0 s1 s2 s3 s4 s5 s6 s7 s8 s9 : Value) : Prop where
  (bel : Below W.heap.size W w')
  (d0 : l0 = true → s0 = .agg #[.slice asa asn asc, .slice aoa aon aoc] ∧ True)
  (d1 : l1 = true → (RwL B w' s1 a) ∧ l0 = true)
  (d2 : l2 = true → s2 = .agg #[.slice bsa bsn bsc, .slice boa bon boc] ∧ True)
  (d3 : l3 = true → (RwL B w' s3 b) ∧ l1 = true ∧ l2 = true)
  (d4 : l4 = true → s4 = .tuple #[.bool R0, .bool R1] ∧ l1 = true ∧ l3 = true)
  (d5 : l5 = true → s5 = .tuple #[.bool R0, .bool R1] ∧ l4 = true)
  (d6 : l6 = true → s6 = .bool R0 ∧ l5 = true)
  (d7 : l7 = true → s7 = .bool R1 ∧ l5 = true)
  (d8 : l8 = true → s8 = .bool R0 ∧ l0 = true ∧ l1 = true ∧ l2 = true ∧ l3 = true ∧ l4 = true ∧ l5 = true ∧ l6 = true)
  (d9 : l9 = true → s9 = .bool R1 ∧ l0 = true ∧ l1 = true ∧ l2 = true ∧ l3 = true ∧ l4 = true ∧ l5 = true ∧ l6 = true ∧ l7 = true ∧ l8 = true)
set_option maxRecDepth 100000 in
set_option maxHeartbeats 8000000 in
theorem sameWord_small (a : La) (av : Value) (b : La) (bv : Value) (R0 : Bool) (R1 : Bool) (hok_a : LaOk a) (hok_b : LaOk b) (htot_a : a.1.length + a.2.length ≤ 1048576) (htot_b : ((b.1.length + b.2.length : Nat) : Int) ≤ (1048576 - (a.1.length : Int) - (a.2.length : Int))) (w : World) (h_a : AtLa w av a) (h_b : AtLa w bv b) (GS0 : ∀ (a1 b1 : Value) (w1 : World), Below w.heap.size w w1 → AtLS w1 a1 a → AtLS w1 b1 b → Calls Try.prog 16 #[a1, b1] w1 fun e w' => e = .returned (.tuple #[.bool R0, .bool R1]) ∧ Below w1.heap.size w1 w') (GI0 : ∀ (a1 b1 : Value) (w1 : World), Below w.heap.size w w1 → AtLS w1 a1 a → AtLS w1 b1 b → Calls Try.prog 15 #[a1, b1] w1 fun e w' => e = .returned (.tuple #[.bool R0, .bool R1]) ∧ Below w1.heap.size w1 w') :
    Calls Try.prog 9 #[av, bv] w fun e w' => e = .returned (.bool true) ∧ Below w.heap.size w w' := by
  have GS : Hid (∀ (a1 b1 : Value) (w1 : World), Below w.heap.size w w1 → AtLS w1 a1 a → AtLS w1 b1 b → Calls Try.prog 16 #[a1, b1] w1 fun e w' => e = .returned (.tuple #[.bool R0, .bool R1]) ∧ Below w1.heap.size w1 w') := GS0
  have GI : Hid (∀ (a1 b1 : Value) (w1 : World), Below w.heap.size w w1 → AtLS w1 a1 a → AtLS w1 b1 b → Calls Try.prog 15 #[a1, b1] w1 fun e w' => e = .returned (.tuple #[.bool R0, .bool R1]) ∧ Below w1.heap.size w1 w') := GI0
  clear GS0 GI0
  have Z : Hid (∀ w1 : World, Below w.heap.size w w1 → Calls Try.prog 36 #[av, .int .i64 1048576] w1 fun e w' => e = .returned (.int .i64 (1048576 - (a.1.length : Int) - (a.2.length : Int))) ∧ Below w1.heap.size w1 w') := fun w1 hb => szLasso_small av a htot_a w1 (h_a.below hb)
  obtain ⟨n0, hn0⟩ : ∃ n0 : Int, (1048576 - (a.1.length : Int) - (a.2.length : Int)) = n0 := ⟨_, rfl⟩
  have hn1 : 0 ≤ n0 := by omega
  rw [hn0] at Z
  rw [hn0] at htot_b
  obtain ⟨n1, hn1e⟩ : ∃ n1 : Int, n0 - (b.1.length : Int) - (b.2.length : Int) = n1 := ⟨_, rfl⟩
  have hn1n : 0 ≤ n1 := by omega
  have hn0m : n0 ≤ 1048576 := by omega
  have Z2 : Hid (∀ w1 : World, Below w.heap.size w w1 → Calls Try.prog 36 #[bv, .int .i64 n0] w1 fun e w' => e = .returned (.int .i64 n1) ∧ Below w1.heap.size w1 w') := fun w1 hb => by
    have g := szLasso_ok bv b n0 (by omega) (by omega) w1 (h_b.below hb)
    rw [hn1e] at g
    exact g
  clear hn1e
  have GT_a : Hid (∀ w1 : World, Below w.heap.size w w1 → Calls Try.prog 37 #[av] w1 fun e w' => ∃ v', e = .returned v' ∧ OwnLa w' w1.heap.size w'.heap.size v' a ∧ Below w1.heap.size w1 w') := fun w1 hb => toLasso_any av a hok_a w1 (h_a.below hb)
  have GE_a : Hid (∀ (u v : Value) (w1 : World), AtLa w1 u a → AtLa w1 v a → Calls Try.prog 38 #[u, v] w1 fun e w' => e = .returned (.bool true) ∧ Below w1.heap.size w1 w') := fun u v w1 h1 h2 => eqLasso_same u v a w1 h1 h2
  have HN_a : Hid (∀ (w1 : World) (lo hi : Nat) (v1 : Value), OwnLa w1 lo hi v1 a → AtLa w1 v1 a) := fun w1 lo hi v1 ho => ho.reads hok_a
  have GT_b : Hid (∀ w1 : World, Below w.heap.size w w1 → Calls Try.prog 37 #[bv] w1 fun e w' => ∃ v', e = .returned v' ∧ OwnLa w' w1.heap.size w'.heap.size v' b ∧ Below w1.heap.size w1 w') := fun w1 hb => toLasso_any bv b hok_b w1 (h_b.below hb)
  have GE_b : Hid (∀ (u v : Value) (w1 : World), AtLa w1 u b → AtLa w1 v b → Calls Try.prog 38 #[u, v] w1 fun e w' => e = .returned (.bool true) ∧ Below w1.heap.size w1 w') := fun u v w1 h1 h2 => eqLasso_same u v b w1 h1 h2
  have HN_b : Hid (∀ (w1 : World) (lo hi : Nat) (v1 : Value), OwnLa w1 lo hi v1 b → AtLa w1 v1 b) := fun w1 lo hi v1 ho => ho.reads hok_b
  have HC_a : Hid (∀ (w1 : World) (lo hi : Nat) (v1 : Value), OwnLa w1 lo hi v1 a → AtLS w1 v1 a) := fun w1 lo hi v1 ho => ho.hands hok_a
  have HC_b : Hid (∀ (w1 : World) (lo hi : Nat) (v1 : Value), OwnLa w1 lo hi v1 b → AtLS w1 v1 b) := fun w1 lo hi v1 ho => ho.hands hok_b
  obtain ⟨asa, asn, asc, aoa, aon, aoc, rfl⟩ := h_a.shape
  obtain ⟨bsa, bsn, bsc, boa, bon, boc, rfl⟩ := h_b.shape
  clear hn0 htot_a htot_b
  clear h_a h_b hok_a hok_b 
  go_enter Try.func9, Try.ntmps9
  have hb0_0 := Below.refl w.heap.size w
  go_wp2_with fail
  have hb0_1 := hb0_0.alloc hb0_0.size (.cells #[.slice asa asn asc, .slice aoa aon aoc] 44)
  clear hb0_0
  have hal := (Below.refl w.heap.size w).alloc (Nat.le_refl _) (.cells #[.slice asa asn asc, .slice aoa aon aoc] 44)
  have hx_2 := box2_alloc w 44 (.slice asa asn asc) (.slice aoa aon aoc)
  have hbl_a_a := hx_2.lt
  have hsz_w1 := hal.size
  clear hal
  have hse_w1 : (w.alloc (.cells #[.slice asa asn asc, .slice aoa aon aoc] 44)).heap.size = w.heap.size + 1 := World.size_alloc _ _
  generalize (w.alloc (.cells #[.slice asa asn asc, .slice aoa aon aoc] 44)) = w1 at *
  have hb0_3 := hb0_1.alloc hb0_1.size (.cells #[.slice bsa bsn bsc, .slice boa bon boc] 44)
  clear hb0_1
  have hal := (Below.refl w1.heap.size w1).alloc (Nat.le_refl _) (.cells #[.slice bsa bsn bsc, .slice boa bon boc] 44)
  have hx_4 := hx_2.alloc (.cells #[.slice bsa bsn bsc, .slice boa bon boc] 44)
  clear hx_2
  have hx_5 := box2_alloc w1 44 (.slice bsa bsn bsc) (.slice boa bon boc)
  have hbl_a_b := hx_5.lt
  rw [hse_w1] at hx_5
  have hsz_w2 := hal.size
  clear hal
  have hse_w2 : (w1.alloc (.cells #[.slice bsa bsn bsc, .slice boa bon boc] 44)).heap.size = w.heap.size + 2 := (by rw [World.size_alloc, hse_w1])
  generalize (w1.alloc (.cells #[.slice bsa bsn bsc, .slice boa bon boc] 44)) = w2 at *
  refine (Z.out _ hb0_3).mono ?_
  rintro e w3 ⟨rfl, hstep⟩
  have hb0_6 := Below.step hb0_3 hb0_3.size hstep
  clear hb0_3
  have hx_7 := hx_4.below hstep hx_4.lt
  clear hx_4
  have hx_8 := hx_5.below hstep hx_5.lt
  clear hx_5
  have hsz_w3 := hstep.size
  clear hstep
  clear Z
  obtain ⟨bc_9a, bc_9b⟩ := hx_7.cells
  have bc_9h := hx_7.heap
  have bc_9l := hx_7.lt
  obtain ⟨bc_10a, bc_10b⟩ := hx_8.cells
  have bc_10h := hx_8.heap
  have bc_10l := hx_8.lt
  go_wp2_with fail
  clear bc_9a bc_9b bc_9h bc_9l bc_10a bc_10b bc_10h bc_10l
  refine (Z2.out _ hb0_6).mono ?_
  rintro e w4 ⟨rfl, hstep⟩
  have hb0_11 := Below.step hb0_6 hb0_6.size hstep
  clear hb0_6
  have hx_12 := hx_7.below hstep hx_7.lt
  clear hx_7
  have hx_13 := hx_8.below hstep hx_8.lt
  clear hx_8
  have hsz_w4 := hstep.size
  clear hstep
  clear Z2
  obtain ⟨bc_14a, bc_14b⟩ := hx_12.cells
  have bc_14h := hx_12.heap
  have bc_14l := hx_12.lt
  obtain ⟨bc_15a, bc_15b⟩ := hx_13.cells
  have bc_15h := hx_13.heap
  have bc_15l := hx_13.lt
  go_wp2_with fail
  have HP_a_a : Hid (∀ w3, Below w4.drew.heap.size w4.drew w3 → Box2 w3 (w.heap.size) 44 (.slice asa asn asc) (.slice aoa aon aoc)) := fun w3 hb3 => Box2.below (w := w4.drew) ⟨hx_12.heap⟩ hb3 (by show _ < w4.heap.size; exact hx_12.lt)
  have HP_a_b : Hid (∀ w3, Below w4.drew.heap.size w4.drew w3 → Box2 w3 (w.heap.size + 1) 44 (.slice bsa bsn bsc) (.slice boa bon boc)) := fun w3 hb3 => Box2.below (w := w4.drew) ⟨hx_13.heap⟩ hb3 (by show _ < w4.heap.size; exact hx_13.lt)
  have HBS : Hid (∀ w3, Below w4.drew.heap.size w4.drew w3 → Below w.heap.size w w3) := fun w3 hb3 => hb0_11.drew.trans (hb3.mono (by show w.heap.size ≤ w4.heap.size; exact hb0_11.size))
  clear bc_14a bc_14b bc_14h bc_14l bc_15a bc_15b bc_15h bc_15l
  refine wp_region_any (by kernel_rfl) ?_
  change wpAny _ _ _ _ _ _ _ (World.drew _)
  refine wpAny_invN (fun lb9 ac9 w' => ∃ (l0 l1 l2 l3 l4 l5 l6 l7 l8 l9 : Bool) (s0 s1 s2 s3 s4 s5 s6 s7 s8 s9 : Value), lb9 = #[l0, l1, l2, l3, l4, l5, l6, l7, l8, l9] ∧ ac9 = { tmps := ((.agg #[.slice asa asn asc, .slice aoa aon aoc]) :: (.agg #[.slice bsa bsn bsc, .slice boa bon boc]) :: (.pointer (some ⟨w.heap.size, 0, none⟩)) :: (.pointer (some ⟨w.heap.size + 1, 0, none⟩)) :: (.bool false) :: (.int .i64 n1) :: (s8) :: (s9) :: (undef) :: (undef) :: (undef) :: (undef) :: (.agg #[.slice asa asn asc, .slice aoa aon aoc]) :: (.int .i64 1048576) :: (.int .i64 n0) :: (.int .i64 n0) :: (.bool (decide (n0 < 0))) :: (.agg #[.slice bsa bsn bsc, .slice boa bon boc]) :: (.int .i64 n0) :: (.int .i64 n1) :: (.int .i64 n1) :: (.bool (decide (n1 < 0))) :: (s5) :: (s0) :: (s1) :: (s2) :: (s3) :: (s4) :: (s6) :: (s7) :: (undef) :: (undef) :: (undef) :: (undef) :: (undef) :: (undef) :: (undef) :: (undef) :: (undef) :: (undef) :: (undef) :: (undef) :: (undef) :: (undef) :: (undef) :: (undef) :: (undef) :: (undef) :: (undef) :: (undef) :: (undef) :: (undef) :: (undef) :: (undef) :: (undef) :: (undef) :: (undef) :: (undef) :: []).toArray, defers := [] } ∧ RegLawSame w4.drew w' w4.drew.heap.size asa asn asc aoa aon aoc bsa bsn bsc boa bon boc R0 R1 a b l0 l1 l2 l3 l4 l5 l6 l7 l8 l9 s0 s1 s2 s3 s4 s5 s6 s7 s8 s9) ?done ?step 10 _ _ _ ⟨false, false, false, false, false, false, false, false, false, false, _, _, _, _, _, _, _, _, _, _, rfl, rfl, ?init⟩ (by decide)
  case init => exact { bel := Below.refl _ _, d0 := fun e => (by cases e), d1 := fun e => (by cases e), d2 := fun e => (by cases e), d3 := fun e => (by cases e), d4 := fun e => (by cases e), d5 := fun e => (by cases e), d6 := fun e => (by cases e), d7 := fun e => (by cases e), d8 := fun e => (by cases e), d9 := fun e => (by cases e) }
  case step =>
    rintro lb9 ac9 w3 ⟨l0, l1, l2, l3, l4, l5, l6, l7, l8, l9, s0, s1, s2, s3, s4, s5, s6, s7, s8, s9, rfl, rfl, h⟩
    intro q9 hq
    have hlt9 := ready_ltN hq
    match q9, hq, hlt9 with
    | 0, hq, _ =>
      have hr := ready_depN hq rfl
      have hme : l0 = false := hr.1
      have hbel := h.bel
      have x3 := HP_a_a.out w3 hbel
      obtain ⟨c0, c1⟩ := x3.cells
      have ch := x3.heap
      have cl := x3.lt
      clear hr hq
      refine wpOp_runN rfl rfl (fun K hK => ?_)
      go_simp
      refine hK _ _ ⟨true, l1, l2, l3, l4, l5, l6, l7, l8, l9, _, _, _, _, _, _, _, _, _, _, rfl, rfl, ?_⟩
      exact { bel := h.bel, d0 := fun _ => ⟨rfl, trivial⟩, d1 := fun e => absurd (h.d1 e).2 (by rw [hme]; decide), d2 := h.d2, d3 := h.d3, d4 := h.d4, d5 := h.d5, d6 := h.d6, d7 := h.d7, d8 := fun e => absurd (h.d8 e).2.1 (by rw [hme]; decide), d9 := fun e => absurd (h.d9 e).2.1 (by rw [hme]; decide) }
    | 1, hq, _ =>
      have hr := ready_depN hq rfl
      have hme : l1 = false := hr.1
      have e0 : l0 = true := hr.2 ⟨0, .data⟩ (by simp) (by kernel_rfl)
      have hbel := h.bel
      obtain rfl := (h.d0 e0).1
      clear hr hq
      refine wpOp_runN rfl rfl (fun K hK => ?_)
      go_simp
      go_at_call 37
      refine Calls.mono (GT_a.out w3 (HBS.out w3 hbel)) ?_
      rintro e w4 ⟨r, rfl, ho, hs4⟩
      have hbel4 := hbel.trans (hs4.mono hbel.size)
      have hnew := rwL_of hbel.size ho
      refine hK _ _ ⟨l0, true, l2, l3, l4, l5, l6, l7, l8, l9, _, _, _, _, _, _, _, _, _, _, rfl, rfl, ?_⟩
      exact { bel := hbel4, d0 := h.d0, d1 := fun _ => ⟨hnew, e0⟩, d2 := h.d2, d3 := fun e => absurd (h.d3 e).2.1 (by rw [hme]; decide), d4 := fun e => absurd (h.d4 e).2.1 (by rw [hme]; decide), d5 := h.d5, d6 := h.d6, d7 := h.d7, d8 := fun e => absurd (h.d8 e).2.2.1 (by rw [hme]; decide), d9 := fun e => absurd (h.d9 e).2.2.1 (by rw [hme]; decide) }
    | 2, hq, _ =>
      have hr := ready_depN hq rfl
      have hme : l2 = false := hr.1
      have hbel := h.bel
      have x3 := HP_a_b.out w3 hbel
      obtain ⟨c0, c1⟩ := x3.cells
      have ch := x3.heap
      have cl := x3.lt
      clear hr hq
      refine wpOp_runN rfl rfl (fun K hK => ?_)
      go_simp
      refine hK _ _ ⟨l0, l1, true, l3, l4, l5, l6, l7, l8, l9, _, _, _, _, _, _, _, _, _, _, rfl, rfl, ?_⟩
      exact { bel := h.bel, d0 := h.d0, d1 := h.d1, d2 := fun _ => ⟨rfl, trivial⟩, d3 := fun e => absurd (h.d3 e).2.2 (by rw [hme]; decide), d4 := h.d4, d5 := h.d5, d6 := h.d6, d7 := h.d7, d8 := fun e => absurd (h.d8 e).2.2.2.1 (by rw [hme]; decide), d9 := fun e => absurd (h.d9 e).2.2.2.1 (by rw [hme]; decide) }
    | 3, hq, _ =>
      have hr := ready_depN hq rfl
      have hme : l3 = false := hr.1
      have e1 : l1 = true := hr.2 ⟨1, .chain⟩ (by simp) (by kernel_rfl)
      have e2 : l2 = true := hr.2 ⟨2, .data⟩ (by simp) (by kernel_rfl)
      have hbel := h.bel
      obtain rfl := (h.d2 e2).1
      clear hr hq
      refine wpOp_runN rfl rfl (fun K hK => ?_)
      go_simp
      go_at_call 37
      refine Calls.mono (GT_b.out w3 (HBS.out w3 hbel)) ?_
      rintro e w4 ⟨r, rfl, ho, hs4⟩
      have hbel4 := hbel.trans (hs4.mono hbel.size)
      have hnew := rwL_of hbel.size ho
      refine hK _ _ ⟨l0, l1, l2, true, l4, l5, l6, l7, l8, l9, _, _, _, _, _, _, _, _, _, _, rfl, rfl, ?_⟩
      exact { bel := hbel4, d0 := h.d0, d1 := fun e => ⟨(h.d1 e).1.below hs4, (h.d1 e).2⟩, d2 := h.d2, d3 := fun _ => ⟨hnew, e1, e2⟩, d4 := fun e => absurd (h.d4 e).2.2 (by rw [hme]; decide), d5 := h.d5, d6 := h.d6, d7 := h.d7, d8 := fun e => absurd (h.d8 e).2.2.2.2.1 (by rw [hme]; decide), d9 := fun e => absurd (h.d9 e).2.2.2.2.1 (by rw [hme]; decide) }
    | 4, hq, _ =>
      have hr := ready_depN hq rfl
      have hme : l4 = false := hr.1
      have e1 : l1 = true := hr.2 ⟨1, .data⟩ (by simp) (by kernel_rfl)
      have e3 : l3 = true := hr.2 ⟨3, .data⟩ (by simp) (by kernel_rfl)
      have hbel := h.bel
      clear hr hq
      refine wpOp_runN rfl rfl (fun K hK => ?_)
      go_simp
      go_at_call 16
      refine Calls.mono (GS.out _ _ w3 (HBS.out w3 hbel) (by obtain ⟨_, _, _, hO⟩ := (h.d1 e1).1; exact HC_a.out _ _ _ _ hO) (by obtain ⟨_, _, _, hO⟩ := (h.d3 e3).1; exact HC_b.out _ _ _ _ hO)) ?_
      rintro e w4 ⟨rfl, hs4⟩
      have hbel4 := hbel.trans (hs4.mono hbel.size)
      refine hK _ _ ⟨l0, l1, l2, l3, true, l5, l6, l7, l8, l9, _, _, _, _, _, _, _, _, _, _, rfl, rfl, ?_⟩
      exact { bel := hbel4, d0 := h.d0, d1 := fun e => ⟨(h.d1 e).1.below hs4, (h.d1 e).2⟩, d2 := h.d2, d3 := fun e => ⟨(h.d3 e).1.below hs4, (h.d3 e).2⟩, d4 := fun _ => ⟨rfl, e1, e3⟩, d5 := fun e => absurd (h.d5 e).2 (by rw [hme]; decide), d6 := h.d6, d7 := h.d7, d8 := fun e => absurd (h.d8 e).2.2.2.2.2.1 (by rw [hme]; decide), d9 := fun e => absurd (h.d9 e).2.2.2.2.2.1 (by rw [hme]; decide) }
    | 5, hq, _ =>
      have hr := ready_depN hq rfl
      have hme : l5 = false := hr.1
      have e4 : l4 = true := hr.2 ⟨4, .data⟩ (by simp) (by kernel_rfl)
      have hbel := h.bel
      obtain rfl := (h.d4 e4).1
      clear hr hq
      refine wpOp_runN rfl rfl (fun K hK => ?_)
      go_simp
      refine hK _ _ ⟨l0, l1, l2, l3, l4, true, l6, l7, l8, l9, _, _, _, _, _, _, _, _, _, _, rfl, rfl, ?_⟩
      exact { bel := h.bel, d0 := h.d0, d1 := h.d1, d2 := h.d2, d3 := h.d3, d4 := h.d4, d5 := fun _ => ⟨rfl, e4⟩, d6 := fun e => absurd (h.d6 e).2 (by rw [hme]; decide), d7 := fun e => absurd (h.d7 e).2 (by rw [hme]; decide), d8 := fun e => absurd (h.d8 e).2.2.2.2.2.2.1 (by rw [hme]; decide), d9 := fun e => absurd (h.d9 e).2.2.2.2.2.2.1 (by rw [hme]; decide) }
    | 6, hq, _ =>
      have hr := ready_depN hq rfl
      have hme : l6 = false := hr.1
      have e5 : l5 = true := hr.2 ⟨5, .data⟩ (by simp) (by kernel_rfl)
      have hbel := h.bel
      obtain rfl := (h.d5 e5).1
      clear hr hq
      refine wpOp_runN rfl rfl (fun K hK => ?_)
      go_simp
      refine hK _ _ ⟨l0, l1, l2, l3, l4, l5, true, l7, l8, l9, _, _, _, _, _, _, _, _, _, _, rfl, rfl, ?_⟩
      exact { bel := h.bel, d0 := h.d0, d1 := h.d1, d2 := h.d2, d3 := h.d3, d4 := h.d4, d5 := h.d5, d6 := fun _ => ⟨rfl, e5⟩, d7 := h.d7, d8 := fun e => absurd (h.d8 e).2.2.2.2.2.2.2 (by rw [hme]; decide), d9 := fun e => absurd (h.d9 e).2.2.2.2.2.2.2.1 (by rw [hme]; decide) }
    | 7, hq, _ =>
      have hr := ready_depN hq rfl
      have hme : l7 = false := hr.1
      have e5 : l5 = true := hr.2 ⟨5, .data⟩ (by simp) (by kernel_rfl)
      have hbel := h.bel
      obtain rfl := (h.d5 e5).1
      clear hr hq
      refine wpOp_runN rfl rfl (fun K hK => ?_)
      go_simp
      refine hK _ _ ⟨l0, l1, l2, l3, l4, l5, l6, true, l8, l9, _, _, _, _, _, _, _, _, _, _, rfl, rfl, ?_⟩
      exact { bel := h.bel, d0 := h.d0, d1 := h.d1, d2 := h.d2, d3 := h.d3, d4 := h.d4, d5 := h.d5, d6 := h.d6, d7 := fun _ => ⟨rfl, e5⟩, d8 := h.d8, d9 := fun e => absurd (h.d9 e).2.2.2.2.2.2.2.2.1 (by rw [hme]; decide) }
    | 8, hq, _ =>
      have hr := ready_depN hq rfl
      have hme : l8 = false := hr.1
      have e0 : l0 = true := hr.2 ⟨0, .phase⟩ (by simp) (by kernel_rfl)
      have e1 : l1 = true := hr.2 ⟨1, .phase⟩ (by simp) (by kernel_rfl)
      have e2 : l2 = true := hr.2 ⟨2, .phase⟩ (by simp) (by kernel_rfl)
      have e3 : l3 = true := hr.2 ⟨3, .phase⟩ (by simp) (by kernel_rfl)
      have e4 : l4 = true := hr.2 ⟨4, .chain⟩ (by simp) (by kernel_rfl)
      have e5 : l5 = true := hr.2 ⟨5, .phase⟩ (by simp) (by kernel_rfl)
      have e6 : l6 = true := hr.2 ⟨6, .data⟩ (by simp) (by kernel_rfl)
      have hbel := h.bel
      obtain rfl := (h.d0 e0).1
      obtain rfl := (h.d2 e2).1
      obtain rfl := (h.d4 e4).1
      obtain rfl := (h.d5 e5).1
      obtain rfl := (h.d6 e6).1
      clear hr hq
      refine wpOp_runN rfl rfl (fun K hK => ?_)
      go_simp
      refine hK _ _ ⟨l0, l1, l2, l3, l4, l5, l6, l7, true, l9, _, _, _, _, _, _, _, _, _, _, rfl, rfl, ?_⟩
      exact { bel := h.bel, d0 := h.d0, d1 := h.d1, d2 := h.d2, d3 := h.d3, d4 := h.d4, d5 := h.d5, d6 := h.d6, d7 := h.d7, d8 := fun _ => ⟨rfl, e0, e1, e2, e3, e4, e5, e6⟩, d9 := fun e => absurd (h.d9 e).2.2.2.2.2.2.2.2.2 (by rw [hme]; decide) }
    | 9, hq, _ =>
      have hr := ready_depN hq rfl
      have hme : l9 = false := hr.1
      have e0 : l0 = true := hr.2 ⟨0, .phase⟩ (by simp) (by kernel_rfl)
      have e1 : l1 = true := hr.2 ⟨1, .phase⟩ (by simp) (by kernel_rfl)
      have e2 : l2 = true := hr.2 ⟨2, .phase⟩ (by simp) (by kernel_rfl)
      have e3 : l3 = true := hr.2 ⟨3, .phase⟩ (by simp) (by kernel_rfl)
      have e4 : l4 = true := hr.2 ⟨4, .phase⟩ (by simp) (by kernel_rfl)
      have e5 : l5 = true := hr.2 ⟨5, .phase⟩ (by simp) (by kernel_rfl)
      have e6 : l6 = true := hr.2 ⟨6, .phase⟩ (by simp) (by kernel_rfl)
      have e7 : l7 = true := hr.2 ⟨7, .data⟩ (by simp) (by kernel_rfl)
      have e8 : l8 = true := hr.2 ⟨8, .chain⟩ (by simp) (by kernel_rfl)
      have hbel := h.bel
      obtain rfl := (h.d0 e0).1
      obtain rfl := (h.d2 e2).1
      obtain rfl := (h.d4 e4).1
      obtain rfl := (h.d5 e5).1
      obtain rfl := (h.d6 e6).1
      obtain rfl := (h.d7 e7).1
      obtain rfl := (h.d8 e8).1
      clear hr hq
      refine wpOp_runN rfl rfl (fun K hK => ?_)
      go_simp
      refine hK _ _ ⟨l0, l1, l2, l3, l4, l5, l6, l7, l8, true, _, _, _, _, _, _, _, _, _, _, rfl, rfl, ?_⟩
      exact { bel := h.bel, d0 := h.d0, d1 := h.d1, d2 := h.d2, d3 := h.d3, d4 := h.d4, d5 := h.d5, d6 := h.d6, d7 := h.d7, d8 := h.d8, d9 := fun _ => ⟨rfl, e0, e1, e2, e3, e4, e5, e6, e7, e8⟩ }
    | k + 10, hq, h18 => exact (Nat.not_lt_of_le (Nat.le_add_left 10 k) h18).elim
  case done =>
    rintro lb9 ac9 w3 ⟨l0, l1, l2, l3, l4, l5, l6, l7, l8, l9, s0, s1, s2, s3, s4, s5, s6, s7, s8, s9, rfl, rfl, h⟩ hr
    cases l0
    · exact (ready_none2N hr 0 rfl rfl rfl).elim
    cases l1
    · exact (ready_none2N hr 1 rfl rfl rfl).elim
    cases l2
    · exact (ready_none2N hr 2 rfl rfl rfl).elim
    cases l3
    · exact (ready_none2N hr 3 rfl rfl rfl).elim
    cases l4
    · exact (ready_none2N hr 4 rfl rfl rfl).elim
    cases l5
    · exact (ready_none2N hr 5 rfl rfl rfl).elim
    cases l6
    · exact (ready_none2N hr 6 rfl rfl rfl).elim
    cases l7
    · exact (ready_none2N hr 7 rfl rfl rfl).elim
    cases l8
    · exact (ready_none2N hr 8 rfl rfl rfl).elim
    cases l9
    · exact (ready_none2N hr 9 rfl rfl rfl).elim
    obtain rfl := (h.d0 rfl).1
    obtain rfl := (h.d2 rfl).1
    obtain rfl := (h.d4 rfl).1
    obtain rfl := (h.d5 rfl).1
    obtain rfl := (h.d6 rfl).1
    obtain rfl := (h.d7 rfl).1
    obtain rfl := (h.d8 rfl).1
    obtain rfl := (h.d9 rfl).1
    have hbel := h.bel
    have hF1 := (h.d1 rfl).1
    have hF3 := (h.d3 rfl).1
    clear h hr
    clear hF1 hF3
    have hstep : Below w4.heap.size w4 w3 := (Below.refl _ _).drew.trans hbel
    clear GS HBS hbel HP_a_a HP_a_b
    generalize w3 = wS at *
    have hb0_16 := Below.step hb0_11 hb0_11.size hstep
    clear hb0_11
    have hx_17 := hx_12.below hstep hx_12.lt
    clear hx_12
    have hx_18 := hx_13.below hstep hx_13.lt
    clear hx_13
    have hsz_wS := hstep.size
    clear hstep
    obtain ⟨bc_19a, bc_19b⟩ := hx_17.cells
    have bc_19h := hx_17.heap
    have bc_19l := hx_17.lt
    obtain ⟨bc_20a, bc_20b⟩ := hx_18.cells
    have bc_20h := hx_18.heap
    have bc_20l := hx_18.lt
    go_wp2_with fail
    clear bc_19a bc_19b bc_19h bc_19l bc_20a bc_20b bc_20h bc_20l
    refine (GT_a.out _ hb0_16).mono ?_
    rintro e w5 ⟨xa, rfl, hnew, hstep⟩
    have hb0_21 := Below.step hb0_16 hb0_16.size hstep
    clear hb0_16
    have hx_22 := hx_17.below hstep hx_17.lt
    clear hx_17
    have hx_23 := hx_18.below hstep hx_18.lt
    clear hx_18
    have hsz_w5 := hstep.size
    clear hstep
    have ho_24 := hnew
    clear hnew
    obtain ⟨xasa, xasn, xasc, xaoa, xaon, xaoc, rfl⟩ := ho_24.shape
    obtain ⟨bc_25a, bc_25b⟩ := hx_22.cells
    have bc_25h := hx_22.heap
    have bc_25l := hx_22.lt
    obtain ⟨bc_26a, bc_26b⟩ := hx_23.cells
    have bc_26h := hx_23.heap
    have bc_26l := hx_23.lt
    go_wp2_with fail
    clear bc_25a bc_25b bc_25h bc_25l bc_26a bc_26b bc_26h bc_26l
    have hb0_27 := hb0_21.alloc hb0_21.size (.cells #[.slice xasa xasn xasc, .slice xaoa xaon xaoc] 26)
    clear hb0_21
    have hal := (Below.refl w5.heap.size w5).alloc (Nat.le_refl _) (.cells #[.slice xasa xasn xasc, .slice xaoa xaon xaoc] 26)
    have ho_28 := ho_24.same hal.size (fun i _ h2 => hal.block i (Nat.lt_of_lt_of_le h2 ho_24.hi))
    clear ho_24
    have hx_29 := hx_22.alloc (.cells #[.slice xasa xasn xasc, .slice xaoa xaon xaoc] 26)
    clear hx_22
    have hx_30 := hx_23.alloc (.cells #[.slice xasa xasn xasc, .slice xaoa xaon xaoc] 26)
    clear hx_23
    have hx_31 := box2_alloc w5 26 (.slice xasa xasn xasc) (.slice xaoa xaon xaoc)
    have hbl_xa := hx_31.lt
    have hsz_w6 := hal.size
    clear hal
    generalize (w5.alloc (.cells #[.slice xasa xasn xasc, .slice xaoa xaon xaoc] 26)) = w6 at *
    refine (GT_b.out _ hb0_27).mono ?_
    rintro e w7 ⟨xb, rfl, hnew, hstep⟩
    have hb0_32 := Below.step hb0_27 hb0_27.size hstep
    clear hb0_27
    have ho_33 := ho_28.same hstep.size (fun i _ h2 => hstep.block i (Nat.lt_of_lt_of_le h2 ho_28.hi))
    clear ho_28
    have hx_34 := hx_29.below hstep hx_29.lt
    clear hx_29
    have hx_35 := hx_30.below hstep hx_30.lt
    clear hx_30
    have hx_36 := hx_31.below hstep hx_31.lt
    clear hx_31
    have hsz_w7 := hstep.size
    clear hstep
    have ho_37 := hnew
    clear hnew
    obtain ⟨xbsa, xbsn, xbsc, xboa, xbon, xboc, rfl⟩ := ho_37.shape
    obtain ⟨bc_38a, bc_38b⟩ := hx_34.cells
    have bc_38h := hx_34.heap
    have bc_38l := hx_34.lt
    obtain ⟨bc_39a, bc_39b⟩ := hx_35.cells
    have bc_39h := hx_35.heap
    have bc_39l := hx_35.lt
    obtain ⟨bc_40a, bc_40b⟩ := hx_36.cells
    have bc_40h := hx_36.heap
    have bc_40l := hx_36.lt
    go_wp2_with fail
    clear bc_38a bc_38b bc_38h bc_38l bc_39a bc_39b bc_39h bc_39l bc_40a bc_40b bc_40h bc_40l
    have hb0_41 := hb0_32.alloc hb0_32.size (.cells #[.slice xbsa xbsn xbsc, .slice xboa xbon xboc] 26)
    clear hb0_32
    have hal := (Below.refl w7.heap.size w7).alloc (Nat.le_refl _) (.cells #[.slice xbsa xbsn xbsc, .slice xboa xbon xboc] 26)
    have ho_42 := ho_33.same hal.size (fun i _ h2 => hal.block i (Nat.lt_of_lt_of_le h2 ho_33.hi))
    clear ho_33
    have ho_43 := ho_37.same hal.size (fun i _ h2 => hal.block i (Nat.lt_of_lt_of_le h2 ho_37.hi))
    clear ho_37
    have hx_44 := hx_34.alloc (.cells #[.slice xbsa xbsn xbsc, .slice xboa xbon xboc] 26)
    clear hx_34
    have hx_45 := hx_35.alloc (.cells #[.slice xbsa xbsn xbsc, .slice xboa xbon xboc] 26)
    clear hx_35
    have hx_46 := hx_36.alloc (.cells #[.slice xbsa xbsn xbsc, .slice xboa xbon xboc] 26)
    clear hx_36
    have hx_47 := box2_alloc w7 26 (.slice xbsa xbsn xbsc) (.slice xboa xbon xboc)
    have hbl_xb := hx_47.lt
    have hsz_w8 := hal.size
    clear hal
    generalize (w7.alloc (.cells #[.slice xbsa xbsn xbsc, .slice xboa xbon xboc] 26)) = w8 at *
    refine (GI.out _ _ _ hb0_41 (HC_a.out _ _ _ _ ho_42) (HC_b.out _ _ _ _ ho_43)).mono ?_
    rintro e w9 ⟨rfl, hstep⟩
    have hb0_48 := Below.step hb0_41 hb0_41.size hstep
    clear hb0_41
    have ho_49 := ho_42.same hstep.size (fun i _ h2 => hstep.block i (Nat.lt_of_lt_of_le h2 ho_42.hi))
    clear ho_42
    have ho_50 := ho_43.same hstep.size (fun i _ h2 => hstep.block i (Nat.lt_of_lt_of_le h2 ho_43.hi))
    clear ho_43
    have hx_51 := hx_44.below hstep hx_44.lt
    clear hx_44
    have hx_52 := hx_45.below hstep hx_45.lt
    clear hx_45
    have hx_53 := hx_46.below hstep hx_46.lt
    clear hx_46
    have hx_54 := hx_47.below hstep hx_47.lt
    clear hx_47
    have hsz_w9 := hstep.size
    clear hstep
    obtain ⟨bc_55a, bc_55b⟩ := hx_51.cells
    have bc_55h := hx_51.heap
    have bc_55l := hx_51.lt
    obtain ⟨bc_56a, bc_56b⟩ := hx_52.cells
    have bc_56h := hx_52.heap
    have bc_56l := hx_52.lt
    obtain ⟨bc_57a, bc_57b⟩ := hx_53.cells
    have bc_57h := hx_53.heap
    have bc_57l := hx_53.lt
    obtain ⟨bc_58a, bc_58b⟩ := hx_54.cells
    have bc_58h := hx_54.heap
    have bc_58l := hx_54.lt
    go_wp2_with fail
    clear bc_55a bc_55b bc_55h bc_55l bc_56a bc_56b bc_56h bc_56l bc_57a bc_57b bc_57h bc_57l bc_58a bc_58b bc_58h bc_58l
    have HXA : Hid (∀ w_ : World, Below w9.heap.size w9 w_ → AtLa w_ (.agg #[.slice xasa xasn xasc, .slice xaoa xaon xaoc]) a) := fun w_ hb => (HN_a.out _ _ _ _ ho_49).below hb
    have HH_a_a : Hid (∀ w_ : World, Below w9.heap.size w9 w_ → Box2 w_ (w.heap.size) 44 (.slice asa asn asc) (.slice aoa aon aoc)) := fun w_ hb => hx_51.below hb hx_51.lt
    have HH_xa : Hid (∀ w_ : World, Below w9.heap.size w9 w_ → Box2 w_ (w5.heap.size) 26 (.slice xasa xasn xasc) (.slice xaoa xaon xaoc)) := fun w_ hb => hx_53.below hb hx_53.lt
    go_cut [52] from 48 to 52 (fun s wx => s = .bool false ∧ Hid (Below w9.heap.size w9 wx))
    case first =>
      obtain ⟨bc_59a, bc_59b⟩ := hx_51.cells
      have bc_59h := hx_51.heap
      have bc_59l := hx_51.lt
      obtain ⟨bc_60a, bc_60b⟩ := hx_52.cells
      have bc_60h := hx_52.heap
      have bc_60l := hx_52.lt
      obtain ⟨bc_61a, bc_61b⟩ := hx_53.cells
      have bc_61h := hx_53.heap
      have bc_61l := hx_53.lt
      obtain ⟨bc_62a, bc_62b⟩ := hx_54.cells
      have bc_62h := hx_54.heap
      have bc_62l := hx_54.lt
      have HB0 : Hid (Below w.heap.size w w9) := hb0_48
      clear hb0_48 ho_49 ho_50 hx_51 hx_52 hx_53 hx_54
      go_region_with (first | (go_at_call 37; refine (GT_a.out _ (by first | exact HB0.out | exact HB0.out.drew | exact HB0.out.drew.drew | exact HB0.out.drew.drew.drew)).mono ?_; rintro e wn ⟨c_, rfl, hnew, hstep⟩; have HS : Hid (Below w9.heap.size w9 wn) := (by first | exact hstep | exact (Below.refl _ _).drew.trans hstep | exact (Below.refl _ _).drew.drew.trans hstep); have hcr := HN_a.out _ _ _ _ hnew; obtain ⟨zsa, zsn, zsc, zoa, zon, zoc, rfl⟩ := hcr.shape; have HC : Hid (AtLa wn (.agg #[.slice zsa zsn zsc, .slice zoa zon zoc]) a) := hcr; have yx := HH_xa.out _ HS.out; have yxh := yx.heap; obtain ⟨yx0, yx1⟩ := yx.cells; have yxl := yx.lt; clear hstep hnew hcr yx) | (go_at_call 38; refine (GE_a.out _ _ _ (HXA.out _ (by first | exact HS.out | exact HS.out.drew | exact HS.out.drew.drew | exact HS.out.drew.drew.drew)) (by first | exact HC.out | exact HC.out.below (Below.refl _ _).drew | exact HC.out.below (Below.refl _ _).drew.drew)).mono ?_; rintro e wm ⟨rfl, hstep⟩; have HS2 : Hid (Below w9.heap.size w9 wm) := (by first | exact HS.out.trans (hstep.mono HS.out.size) | exact HS.out.drew.trans (hstep.mono HS.out.size) | exact HS.out.drew.drew.trans (hstep.mono HS.out.size)); clear hstep))
      all_goals
        go_wp2_with fail
        go_meet
        case rel => exact ⟨rfl, by first | exact HS2 | exact HS2.out.drew | exact HS2.out.drew.drew⟩
    obtain ⟨rfl, HCUT⟩ := hcut
    have hstep := HCUT.out
    clear HCUT HXA HH_a_a HH_xa
    have hb0_63 := Below.step hb0_48 hb0_48.size hstep
    clear hb0_48
    have ho_64 := ho_49.same hstep.size (fun i _ h2 => hstep.block i (Nat.lt_of_lt_of_le h2 ho_49.hi))
    clear ho_49
    have ho_65 := ho_50.same hstep.size (fun i _ h2 => hstep.block i (Nat.lt_of_lt_of_le h2 ho_50.hi))
    clear ho_50
    have hx_66 := hx_51.below hstep hx_51.lt
    clear hx_51
    have hx_67 := hx_52.below hstep hx_52.lt
    clear hx_52
    have hx_68 := hx_53.below hstep hx_53.lt
    clear hx_53
    have hx_69 := hx_54.below hstep hx_54.lt
    clear hx_54
    have hsz_wc_70 := hstep.size
    clear hstep
    obtain ⟨bc_71a, bc_71b⟩ := hx_66.cells
    have bc_71h := hx_66.heap
    have bc_71l := hx_66.lt
    obtain ⟨bc_72a, bc_72b⟩ := hx_67.cells
    have bc_72h := hx_67.heap
    have bc_72l := hx_67.lt
    obtain ⟨bc_73a, bc_73b⟩ := hx_68.cells
    have bc_73h := hx_68.heap
    have bc_73l := hx_68.lt
    obtain ⟨bc_74a, bc_74b⟩ := hx_69.cells
    have bc_74h := hx_69.heap
    have bc_74l := hx_69.lt
    go_wp2_with fail
    clear bc_71a bc_71b bc_71h bc_71l bc_72a bc_72b bc_72h bc_72l bc_73a bc_73b bc_73h bc_73l bc_74a bc_74b bc_74h bc_74l
    have HXA : Hid (∀ w_ : World, Below wc.heap.size wc w_ → AtLa w_ (.agg #[.slice xbsa xbsn xbsc, .slice xboa xbon xboc]) b) := fun w_ hb => (HN_b.out _ _ _ _ ho_65).below hb
    have HH_a_b : Hid (∀ w_ : World, Below wc.heap.size wc w_ → Box2 w_ (w.heap.size + 1) 44 (.slice bsa bsn bsc) (.slice boa bon boc)) := fun w_ hb => hx_67.below hb hx_67.lt
    have HH_xb : Hid (∀ w_ : World, Below wc.heap.size wc w_ → Box2 w_ (w7.heap.size) 26 (.slice xbsa xbsn xbsc) (.slice xboa xbon xboc)) := fun w_ hb => hx_69.below hb hx_69.lt
    go_cut [57] from 53 to 57 (fun s wx => s = .bool false ∧ Hid (Below wc.heap.size wc wx))
    case first =>
      obtain ⟨bc_75a, bc_75b⟩ := hx_66.cells
      have bc_75h := hx_66.heap
      have bc_75l := hx_66.lt
      obtain ⟨bc_76a, bc_76b⟩ := hx_67.cells
      have bc_76h := hx_67.heap
      have bc_76l := hx_67.lt
      obtain ⟨bc_77a, bc_77b⟩ := hx_68.cells
      have bc_77h := hx_68.heap
      have bc_77l := hx_68.lt
      obtain ⟨bc_78a, bc_78b⟩ := hx_69.cells
      have bc_78h := hx_69.heap
      have bc_78l := hx_69.lt
      have HB0 : Hid (Below w.heap.size w wc) := hb0_63
      clear hb0_63 ho_64 ho_65 hx_66 hx_67 hx_68 hx_69
      go_region_with (first | (go_at_call 37; refine (GT_b.out _ (by first | exact HB0.out | exact HB0.out.drew | exact HB0.out.drew.drew | exact HB0.out.drew.drew.drew)).mono ?_; rintro e wn ⟨c_, rfl, hnew, hstep⟩; have HS : Hid (Below wc.heap.size wc wn) := (by first | exact hstep | exact (Below.refl _ _).drew.trans hstep | exact (Below.refl _ _).drew.drew.trans hstep); have hcr := HN_b.out _ _ _ _ hnew; obtain ⟨zsa, zsn, zsc, zoa, zon, zoc, rfl⟩ := hcr.shape; have HC : Hid (AtLa wn (.agg #[.slice zsa zsn zsc, .slice zoa zon zoc]) b) := hcr; have yx := HH_xb.out _ HS.out; have yxh := yx.heap; obtain ⟨yx0, yx1⟩ := yx.cells; have yxl := yx.lt; clear hstep hnew hcr yx) | (go_at_call 38; refine (GE_b.out _ _ _ (HXA.out _ (by first | exact HS.out | exact HS.out.drew | exact HS.out.drew.drew | exact HS.out.drew.drew.drew)) (by first | exact HC.out | exact HC.out.below (Below.refl _ _).drew | exact HC.out.below (Below.refl _ _).drew.drew)).mono ?_; rintro e wm ⟨rfl, hstep⟩; have HS2 : Hid (Below wc.heap.size wc wm) := (by first | exact HS.out.trans (hstep.mono HS.out.size) | exact HS.out.drew.trans (hstep.mono HS.out.size) | exact HS.out.drew.drew.trans (hstep.mono HS.out.size)); clear hstep))
      all_goals
        go_wp2_with fail
        go_meet
        case rel => exact ⟨rfl, by first | exact HS2 | exact HS2.out.drew | exact HS2.out.drew.drew⟩
    obtain ⟨rfl, HCUT⟩ := hcut
    have hstep := HCUT.out
    clear HCUT HXA HH_a_b HH_xb
    have hb0_79 := Below.step hb0_63 hb0_63.size hstep
    clear hb0_63
    have ho_80 := ho_64.same hstep.size (fun i _ h2 => hstep.block i (Nat.lt_of_lt_of_le h2 ho_64.hi))
    clear ho_64
    have ho_81 := ho_65.same hstep.size (fun i _ h2 => hstep.block i (Nat.lt_of_lt_of_le h2 ho_65.hi))
    clear ho_65
    have hx_82 := hx_66.below hstep hx_66.lt
    clear hx_66
    have hx_83 := hx_67.below hstep hx_67.lt
    clear hx_67
    have hx_84 := hx_68.below hstep hx_68.lt
    clear hx_68
    have hx_85 := hx_69.below hstep hx_69.lt
    clear hx_69
    have hsz_wc_86 := hstep.size
    clear hstep
    have HB : Hid (Below w.heap.size w wc) := hb0_79
    clear ho_80
    clear ho_81
    obtain ⟨bc_87a, bc_87b⟩ := hx_82.cells
    have bc_87h := hx_82.heap
    have bc_87l := hx_82.lt
    obtain ⟨bc_88a, bc_88b⟩ := hx_83.cells
    have bc_88h := hx_83.heap
    have bc_88l := hx_83.lt
    obtain ⟨bc_89a, bc_89b⟩ := hx_84.cells
    have bc_89h := hx_84.heap
    have bc_89l := hx_84.lt
    obtain ⟨bc_90a, bc_90b⟩ := hx_85.cells
    have bc_90h := hx_85.heap
    have bc_90l := hx_85.lt
    go_wp2_with fail
    go_ret
    exact ⟨rfl, HB.out⟩
set_option maxRecDepth 100000 in
set_option maxHeartbeats 2000000 in
theorem sameWord_big0 (a : La) (av : Value) (b : La) (bv : Value) (hz : 1048576 < a.1.length + a.2.length) (w : World) (h_a : AtLa w av a) (h_b : AtLa w bv b) :
    Calls Try.prog 9 #[av, bv] w fun e w' => e = .returned (.bool true) ∧ Below w.heap.size w w' := by
  have Z : Hid (∀ w1 : World, Below w.heap.size w w1 → Calls Try.prog 36 #[av, .int .i64 1048576] w1 fun e w' => e = .returned (.int .i64 (-1)) ∧ Below w1.heap.size w1 w') := fun w1 hb => szLasso_big av a hz w1 (h_a.below hb)
  obtain ⟨asa, asn, asc, aoa, aon, aoc, rfl⟩ := h_a.shape
  obtain ⟨bsa, bsn, bsc, boa, bon, boc, rfl⟩ := h_b.shape
  clear hz h_a h_b
  have HB0 : Hid (Below w.heap.size w ((w.alloc (.cells #[.slice asa asn asc, .slice aoa aon aoc] 44)).alloc (.cells #[.slice bsa bsn bsc, .slice boa bon boc] 44))) := ((Below.refl _ _).alloc (Nat.le_refl _) _).alloc (by rw [World.size_alloc]; omega) _
  go_enter Try.func9, Try.ntmps9
  go_wp2_with fail
  refine (Z.out _ HB0.out).mono ?_
  rintro e w1 ⟨rfl, hstep⟩
  have HB1 : Hid (Below w.heap.size w w1) := Below.step HB0.out HB0.out.size hstep
  clear hstep Z
  go_wp2_with fail
  go_ret
  exact ⟨rfl, HB1.out⟩
set_option maxRecDepth 100000 in
set_option maxHeartbeats 2000000 in
theorem sameWord_bigB (a : La) (av : Value) (b : La) (bv : Value) (hz0 : a.1.length + a.2.length ≤ 1048576) (hz : (1048576 - (a.1.length : Int) - (a.2.length : Int)) < (b.1.length : Int) + b.2.length) (w : World) (h_a : AtLa w av a) (h_b : AtLa w bv b) :
    Calls Try.prog 9 #[av, bv] w fun e w' => e = .returned (.bool true) ∧ Below w.heap.size w w' := by
  have Z : Hid (∀ w1 : World, Below w.heap.size w w1 → Calls Try.prog 36 #[av, .int .i64 1048576] w1 fun e w' => e = .returned (.int .i64 (1048576 - (a.1.length : Int) - (a.2.length : Int))) ∧ Below w1.heap.size w1 w') := fun w1 hb => szLasso_small av a hz0 w1 (h_a.below hb)
  obtain ⟨n0, hn0⟩ : ∃ n0 : Int, (1048576 - (a.1.length : Int) - (a.2.length : Int)) = n0 := ⟨_, rfl⟩
  have hn1 : 0 ≤ n0 := by omega
  have hn0m : n0 ≤ 1048576 := by omega
  rw [hn0] at Z hz
  have Z2 : Hid (∀ w1 : World, Below w.heap.size w w1 → Calls Try.prog 36 #[bv, .int .i64 n0] w1 fun e w' => e = .returned (.int .i64 (-1)) ∧ Below w1.heap.size w1 w') := fun w1 hb => szLasso_over bv b n0 hn1 hn0m hz w1 (h_b.below hb)
  obtain ⟨asa, asn, asc, aoa, aon, aoc, rfl⟩ := h_a.shape
  obtain ⟨bsa, bsn, bsc, boa, bon, boc, rfl⟩ := h_b.shape
  clear hn0 hz hz0 h_a h_b
  have HB0 : Hid (Below w.heap.size w ((w.alloc (.cells #[.slice asa asn asc, .slice aoa aon aoc] 44)).alloc (.cells #[.slice bsa bsn bsc, .slice boa bon boc] 44))) := ((Below.refl _ _).alloc (Nat.le_refl _) _).alloc (by rw [World.size_alloc]; omega) _
  have y0 := box2_alloc (w.alloc (.cells #[.slice asa asn asc, .slice aoa aon aoc] 44)) 44 (.slice bsa bsn bsc) (.slice boa bon boc)
  simp only [World.size_alloc] at y0
  have hz0 : ((w.alloc (.cells #[.slice asa asn asc, .slice aoa aon aoc] 44)).alloc (.cells #[.slice bsa bsn bsc, .slice boa bon boc] 44)).heap.size = w.heap.size + 2 := by rw [World.size_alloc, World.size_alloc]
  have HY0 : Hid _ := y0
  clear y0
  go_enter Try.func9, Try.ntmps9
  go_wp2_with fail
  refine (Z.out _ HB0.out).mono ?_
  generalize ((w.alloc (.cells #[.slice asa asn asc, .slice aoa aon aoc] 44)).alloc (.cells #[.slice bsa bsn bsc, .slice boa bon boc] 44)) = w0 at *
  rintro e w1 ⟨rfl, hstep⟩
  have HB1 : Hid (Below w.heap.size w w1) := Below.step HB0.out HB0.out.size hstep
  have y1 := HY0.out.below hstep (by omega)
  obtain ⟨c0, c1⟩ := y1.cells
  have ch := y1.heap
  have cl := y1.lt
  clear hstep Z HY0 y1
  go_wp2_with fail
  refine (Z2.out _ HB1.out).mono ?_
  rintro e w2 ⟨rfl, hstep⟩
  have HB2 : Hid (Below w.heap.size w w2) := Below.step HB1.out HB1.out.size hstep
  clear hstep Z2 c0 c1 ch cl
  go_wp2_with fail
  go_ret
  exact ⟨rfl, HB2.out⟩
theorem sameWord_law (a : La) (av : Value) (b : La) (bv : Value) (R0 R1 : Bool) (w : World) (h_a : AtLa w av a) (h_b : AtLa w bv b) (GS0 : ∀ (a1 b1 : Value) (w1 : World), Below w.heap.size w w1 → AtLS w1 a1 a → AtLS w1 b1 b → Calls Try.prog 16 #[a1, b1] w1 fun e w' => e = .returned (.tuple #[.bool R0, .bool R1]) ∧ Below w1.heap.size w1 w') (GI0 : ∀ (a1 b1 : Value) (w1 : World), Below w.heap.size w w1 → AtLS w1 a1 a → AtLS w1 b1 b → Calls Try.prog 15 #[a1, b1] w1 fun e w' => e = .returned (.tuple #[.bool R0, .bool R1]) ∧ Below w1.heap.size w1 w') :
    Calls Try.prog 9 #[av, bv] w fun e w' => e = .returned (.bool true) ∧ Below w.heap.size w w' := by
  by_cases hs_a : a.1.length + a.2.length ≤ 1048576
  case neg => exact sameWord_big0 a av b bv (by omega) w h_a h_b
  by_cases hs_b : ((b.1.length + b.2.length : Nat) : Int) ≤ (1048576 - (a.1.length : Int) - (a.2.length : Int))
  case neg => exact sameWord_bigB a av b bv hs_a (by omega) w h_a h_b
  exact sameWord_small a av b bv R0 R1 ⟨by omega, by omega⟩ ⟨by omega, by omega⟩ hs_a hs_b w h_a h_b GS0 GI0
end Go.Proofs.Ythamdefkcjfjpaa
