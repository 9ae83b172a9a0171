/-
  The walk of the exact law of TermText, out of what the program's own function does.
-/
import Derived.Test.YtkfplichekebdaaDoorIText
import Derived.Test.YtkfplichekebdaaDoorLTurn
namespace Go.Proofs.YtkfplichekebdaaDoor
open Go Go.RowKit
open M
set_option linter.unusedVariables false

/-- what the program's TermText is to do -/
def DoesTermText : Prop := ∀ (wide : Int) (vars : Int) (tv : Value) (t : List Nd) (w : World), All3 w → NodesAt w tv t → t.length ≤ 1048576 → -9223372036854775808 ≤ wide → wide ≤ 9223372036854775807 → -9223372036854775808 ≤ vars → vars ≤ 9223372036854775807 →
  Calls Tryd.prog 21 #[.int .i64 wide, .int .i64 vars, tv] w fun e w' => e = .returned (.tuple #[tx (textL wide vars t), .bool (textB wide vars t)]) ∧ Below w.heap.size w w'
set_option maxRecDepth 100000 in
set_option maxHeartbeats 4000000 in
theorem termText_small (hI : DoesTermText) (wide : Int) (vars : Int) (hwide0 : -9223372036854775808 ≤ wide) (hwide1 : wide ≤ 9223372036854775807) (hvars0 : -9223372036854775808 ≤ vars) (hvars1 : vars ≤ 9223372036854775807) (tv : Value) (t : List Nd) (htot : t.length ≤ 1048576) (w : World) (hT : All3 w) (h_t : NodesAt w tv t) :
    Calls Tryd.prog 6 #[.int .i64 wide, .int .i64 vars, tv] w fun e w' => e = .returned (.bool true) ∧ Below w.heap.size w w' := by
  have hl_t : t.length ≤ 1048576 := by omega
  have z0 : Calls Tryd.prog 18 #[tv, .int .i64 (1048576)] w fun e w' => e = .returned (.int .i64 (1048576 - (t.length : Int))) ∧ w' = w := by
    obtain ⟨ad, cap, hsh⟩ := h_t.shape
    have g := szNodeS_any ad t.length cap (1048576) (by omega) (by omega) (by omega) w
    rw [if_neg (by omega), ← hsh] at g
    exact g
  have GT_t : Hid (∀ w1 : World, Below w.heap.size w w1 → Calls Tryd.prog 20 #[tv] w1 fun e w' => ∃ v', e = .returned v' ∧ OwnNodes w' w1.heap.size v' t ∧ Below w1.heap.size w1 w') := fun w1 hb => toNodeS_any tv t hl_t w1 (h_t.below hb)
  have HN_t : Hid (∀ (w1 : World) (B : Nat) (v1 : Value), OwnNodes w1 B v1 t → NodesAt w1 v1 t) := fun w1 B v1 ho => nodes_of_own h_t.1 (by omega) ho
  have GS : Hid (∀ (t1 : Value) (w1 : World), NodesAt w1 t1 t → Calls Tryd.prog 19 #[.int .i64 wide, .int .i64 vars, t1] w1 fun e w' => e = .returned (.tuple #[tx (textL wide vars t), .bool (textB wide vars t)]) ∧ Below w1.heap.size w1 w') := fun t1 w1 n_t => termText_any wide vars t1 t w1 n_t
  have GI : Hid (∀ (t1 : Value) (w1 : World), Below w.heap.size w w1 → NodesAt w1 t1 t → Calls Tryd.prog 21 #[.int .i64 wide, .int .i64 vars, t1] w1 fun e w' => e = .returned (.tuple #[tx (textL wide vars t), .bool (textB wide vars t)]) ∧ Below w1.heap.size w1 w') := fun t1 w1 hb n_t => hI wide vars t1 t w1 (hT.below hb) n_t hl_t hwide0 hwide1 hvars0 hvars1
  clear hI hT h_t
  generalize textL wide vars t = R0 at *
  generalize textB wide vars t = R1 at *
  go_enter Tryd.func6, Tryd.ntmps6
  go_wp2_with fail
  refine z0.mono ?_
  rintro e w' ⟨rfl, rfl⟩
  clear z0
  have hb_0_0 := Below.refl w'.heap.size w'
  have g1 := GT_t.out _ hb_0_0
  go_wp2_with fail
  refine g1.mono ?_
  rintro e w1 ⟨kst, rfl, ho_new, hstep⟩
  clear g1
  have hb_0_1 := Below.step hb_0_0 hb_0_0.size hstep
  clear hb_0_0
  clear hstep
  have ho_kst_1 := ho_new
  clear ho_new
  have g2 := GS.out kst _ (HN_t.out _ _ _ ho_kst_1)
  go_wp2_with fail
  refine g2.mono ?_
  clear ho_kst_1
  rintro e w2 ⟨rfl, hstep⟩
  clear g2
  have hb_0_2 := Below.step hb_0_1 hb_0_1.size hstep
  clear hb_0_1
  clear hstep
  have g3 := GT_t.out _ hb_0_2
  go_wp2_with fail
  refine g3.mono ?_
  rintro e w3 ⟨kxt, rfl, ho_new, hstep⟩
  clear g3
  have hb_0_3 := Below.step hb_0_2 hb_0_2.size hstep
  clear hb_0_2
  clear hstep
  have ho_kxt_3 := ho_new
  clear ho_new
  have g4 := GI.out kxt _ hb_0_3 (HN_t.out _ _ _ ho_kxt_3)
  go_wp2_with fail
  refine g4.mono ?_
  rintro e w4 ⟨rfl, hstep⟩
  clear g4
  have ho_kxt_4 := owns_below ho_kxt_3 hstep
  clear ho_kxt_3
  have hb_0_4 := Below.step hb_0_3 hb_0_3.size hstep
  clear hb_0_3
  clear hstep
  have g5 := GT_t.out _ hb_0_4
  go_wp2_with fail
  refine g5.mono ?_
  rintro e w5 ⟨c_, rfl, ho_new, hstep⟩
  clear g5
  have ho_kxt_5 := owns_below ho_kxt_4 hstep
  clear ho_kxt_4
  have hb_0_5 := Below.step hb_0_4 hb_0_4.size hstep
  clear hb_0_4
  clear hstep
  have g6 := eqNodeS_any kxt c_ t t _ (HN_t.out _ _ _ ho_kxt_5) (HN_t.out _ _ _ ho_new)
  rw [decide_eq_true rfl] at g6
  clear ho_new
  go_wp2_with fail
  refine g6.mono ?_
  rintro e w6 ⟨rfl, hstep⟩
  clear g6
  have ho_kxt_6 := owns_below ho_kxt_5 hstep
  clear ho_kxt_5
  have hb_0_6 := Below.step hb_0_5 hb_0_5.size hstep
  clear hb_0_5
  clear hstep
  have HB : Hid (Below w'.heap.size w' _) := hb_0_6
  clear ho_kxt_6
  go_wp2_with fail
  go_ret
  exact ⟨rfl, HB.out⟩
set_option maxRecDepth 100000 in
theorem termText_big0 (wide : Int) (vars : Int) (tv : Value) (t : List Nd) (ha : 0 ≤ 1048576) (hz : 1048576 < t.length) (w : World) (h_t : NodesAt w tv t) :
    Calls Tryd.prog 6 #[.int .i64 wide, .int .i64 vars, tv] w fun e w' => e = .returned (.bool true) ∧ Below w.heap.size w w' := by
  have hn_t := h_t.2.1
  have z0 : Calls Tryd.prog 18 #[tv, .int .i64 (1048576)] w fun e w' => e = .returned (.int .i64 (-1)) ∧ w' = w := by
    obtain ⟨ad, cap, hsh⟩ := h_t.shape
    have g := szNodeS_any ad t.length cap (1048576) (by omega) (by omega) (by omega) w
    rw [if_pos (by omega), ← hsh] at g
    exact g
  clear h_t
  go_enter Tryd.func6, Tryd.ntmps6
  go_wp2_with fail
  refine z0.mono ?_
  rintro e w' ⟨rfl, rfl⟩
  clear z0
  go_wp2_with fail
  go_ret
  exact ⟨rfl, Below.refl _ _⟩
theorem termText_law (hI : DoesTermText) (wide : Int) (vars : Int) (hwide0 : -9223372036854775808 ≤ wide) (hwide1 : wide ≤ 9223372036854775807) (hvars0 : -9223372036854775808 ≤ vars) (hvars1 : vars ≤ 9223372036854775807) (tv : Value) (t : List Nd) (w : World) (hT : All3 w) (h_t : NodesAt w tv t) :
    Calls Tryd.prog 6 #[.int .i64 wide, .int .i64 vars, tv] w fun e w' => e = .returned (.bool true) ∧ Below w.heap.size w w' := by
  by_cases htot : t.length ≤ 1048576
  · exact termText_small hI wide vars hwide0 hwide1 hvars0 hvars1 tv t htot w hT h_t
  exact termText_big0 wide vars tv t (by omega) (by omega) w h_t
end Go.Proofs.YtkfplichekebdaaDoor
