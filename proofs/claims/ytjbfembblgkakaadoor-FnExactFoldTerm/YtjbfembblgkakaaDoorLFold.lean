/-
  The walk of the exact law of FoldTerm, out of what the program's own function does.
-/
import Derived.Test.YtjbfembblgkakaaDoorFold5
import Derived.Test.YtjbfembblgkakaaDoorLTurn
namespace Go.Proofs.YtjbfembblgkakaaDoor
open Go Go.RowKit
open M
set_option linter.unusedVariables false

/-- what the program's FoldTerm is to do -/
def DoesFoldTerm : Prop := ∀ (wide : Int) (vars : Int) (tv : Value) (t : List Nd) (w : World), Tab w → NodesAt w tv t → t.length ≤ 1048576 → CapOk tv → -9223372036854775808 ≤ wide → wide ≤ 9223372036854775807 → -9223372036854775808 ≤ vars → vars ≤ 9223372036854775807 →
  Calls Tryd.prog 22 #[.int .i64 wide, .int .i64 vars, tv] w fun e w' => ∃ r0' : Value, e = .returned (.tuple #[r0', .bool (decide (0 < kindL wide vars t))]) ∧ OwnNodes w' w.heap.size r0' (foldL wide vars t) ∧ Below w.heap.size w w'
set_option maxRecDepth 100000 in
set_option maxHeartbeats 4000000 in
theorem foldTerm_small (hI : DoesFoldTerm) (wide : Int) (vars : Int) (hwide0 : -9223372036854775808 ≤ wide) (hwide1 : wide ≤ 9223372036854775807) (hvars0 : -9223372036854775808 ≤ vars) (hvars1 : vars ≤ 9223372036854775807) (tv : Value) (t : List Nd) (htot : t.length ≤ 1048576) (w : World) (hT : Tab w) (h_t : NodesAt w tv t) :
    Calls Tryd.prog 8 #[.int .i64 wide, .int .i64 vars, tv] w fun e w' => e = .returned (.bool true) ∧ Below w.heap.size w w' := by
  have hl_t : t.length ≤ 1048576 := by omega
  have z0 : Calls Tryd.prog 60 #[tv, .int .i64 (1048576)] w fun e w' => e = .returned (.int .i64 (1048576 - (t.length : Int))) ∧ w' = w := by
    obtain ⟨ad, cap, hsh⟩ := h_t.shape
    have g := szNodeS_any ad t.length cap (1048576) (by omega) (by omega) (by omega) w
    rw [if_neg (by omega), ← hsh] at g
    exact g
  have GT_t : Hid (∀ w1 : World, Below w.heap.size w w1 → Calls Tryd.prog 61 #[tv] w1 fun e w' => ∃ v', e = .returned v' ∧ OwnNodes w' w1.heap.size v' t ∧ Below w1.heap.size w1 w') := fun w1 hb => toNodeS_any tv t hl_t w1 (h_t.below hb)
  have HN_t : Hid (∀ (w1 : World) (B : Nat) (v1 : Value), OwnNodes w1 B v1 t → NodesAt w1 v1 t) := fun w1 B v1 ho => nodes_of_own h_t.1 (by omega) ho
  have GS : Hid (∀ (t1 : Value) (w1 : World), NodesAt w1 t1 t → CapOk t1 → Calls Tryd.prog 23 #[.int .i64 wide, .int .i64 vars, t1] w1 fun e w' => ∃ r0' : Value, e = .returned (.tuple #[r0', .bool (decide (0 < kindL wide vars t))]) ∧ OwnNodes w' w1.heap.size r0' (foldL wide vars t) ∧ Below w1.heap.size w1 w') := fun t1 w1 n_t c_t => foldTerm_any wide vars t1 t w1 n_t c_t
  have GI : Hid (∀ (t1 : Value) (w1 : World), Below w.heap.size w w1 → NodesAt w1 t1 t → CapOk t1 → Calls Tryd.prog 22 #[.int .i64 wide, .int .i64 vars, t1] w1 fun e w' => ∃ r0' : Value, e = .returned (.tuple #[r0', .bool (decide (0 < kindL wide vars t))]) ∧ OwnNodes w' w1.heap.size r0' (foldL wide vars t) ∧ Below w1.heap.size w1 w') := fun t1 w1 hb n_t c_t => hI wide vars t1 t w1 (hT.below hb hT.some) n_t hl_t c_t hwide0 hwide1 hvars0 hvars1
  have HR0 : Hid (∀ (w1 : World) (B : Nat) (v1 : Value), OwnNodes w1 B v1 (foldL wide vars t) → NodesAt w1 v1 (foldL wide vars t)) := foldTerm_reads0 wide vars t hwide0 hwide1 hvars0 hvars1 h_t.1 hl_t
  have hlr0 := foldTerm_len0 wide vars t
  clear hI hT h_t
  generalize foldL wide vars t = R0 at *
  generalize decide (0 < kindL wide vars t) = R1 at *
  go_enter Tryd.func8, Tryd.ntmps8
  go_wp2_with fail
  refine z0.mono ?_
  rintro e w' ⟨rfl, rfl⟩
  clear z0
  have hb_0_0 := Below.refl w'.heap.size w'
  have g1 := GT_t.out _ hb_0_0
  go_wp2_with fail
  refine g1.mono ?_
  rintro e w1 ⟨kst, rfl, ho_new, hstep⟩
  clear g1
  have hb_0_1 := Below.step hb_0_0 hb_0_0.size hstep
  clear hb_0_0
  have hsz_1 := hstep.size
  clear hstep
  have ho_kst_1 := ho_new
  clear ho_new
  have g2 := GS.out kst _ (HN_t.out _ _ _ ho_kst_1) (cap_of_own ho_kst_1)
  go_wp2_with fail
  refine g2.mono ?_
  clear ho_kst_1
  rintro e w2 ⟨u0, rfl, ho_u0, hstep⟩
  clear g2
  have hb_0_2 := Below.step hb_0_1 hb_0_1.size hstep
  clear hb_0_1
  have hsz_2 := hstep.size
  clear hstep
  have HU0 : Hid (∀ w_ : World, Below w2.heap.size w2 w_ → NodesAt w_ u0 R0) := fun w_ hb => (HR0.out _ _ _ ho_u0).below hb
  clear ho_u0
  have hb_A_2 := Below.refl w2.heap.size w2
  have g3 := GT_t.out _ hb_0_2
  go_wp2_with fail
  refine g3.mono ?_
  rintro e w3 ⟨kxt, rfl, ho_new, hstep⟩
  clear g3
  have hb_0_3 := Below.step hb_0_2 hb_0_2.size hstep
  clear hb_0_2
  have hb_A_3 := Below.step hb_A_2 hb_A_2.size hstep
  clear hb_A_2
  have hsz_3 := hstep.size
  clear hstep
  have ho_kxt_3 := ho_new
  clear ho_new
  have hblk_kxt := fun k hk => own_block ho_kxt_3 (k := k) hk
  have hsA := hb_A_3.size
  have hs0 := hb_0_3.size
  have hb_X_3 := Below.refl w3.heap.size w3
  have g4 := GI.out kxt _ hb_0_3 (HN_t.out _ _ _ ho_kxt_3) (cap_of_own ho_kxt_3)
  go_wp2_with fail
  refine g4.mono ?_
  rintro e w4 ⟨y0, rfl, ho_n0, hstep⟩
  clear g4
  have ho_kxt_4 := owns_below ho_kxt_3 hstep
  clear ho_kxt_3
  have hb_0_4 := Below.step hb_0_3 hb_0_3.size hstep
  clear hb_0_3
  have hb_A_4 := Below.step hb_A_3 hb_A_3.size hstep
  clear hb_A_3
  have hb_X_4 := Below.step hb_X_3 hb_X_3.size hstep
  clear hb_X_3
  have hsz_4 := hstep.size
  clear hstep
  have ho_y0_4 := ho_n0
  clear ho_n0
  have hblk_y0 := fun k hk => own_block ho_y0_4 (k := k) hk
  have hsX := hb_X_4.size
  have g5 := eqNodeS_any y0 u0 R0 R0 _ (HR0.out _ _ _ ho_y0_4) (HU0.out _ hb_A_4)
  rw [decide_eq_true rfl] at g5
  go_wp2_with fail
  refine g5.mono ?_
  rintro e w5 ⟨rfl, hstep⟩
  clear g5
  have ho_kxt_5 := owns_below ho_kxt_4 hstep
  clear ho_kxt_4
  have ho_y0_5 := owns_below ho_y0_4 hstep
  clear ho_y0_4
  have hb_0_5 := Below.step hb_0_4 hb_0_4.size hstep
  clear hb_0_4
  have hb_A_5 := Below.step hb_A_4 hb_A_4.size hstep
  clear hb_A_4
  have hb_X_5 := Below.step hb_X_4 hb_X_4.size hstep
  clear hb_X_4
  clear hstep
  have g6 := GT_t.out _ hb_0_5
  go_wp2_with fail
  refine g6.mono ?_
  rintro e w6 ⟨c_, rfl, ho_new, hstep⟩
  clear g6
  have ho_kxt_6 := owns_below ho_kxt_5 hstep
  clear ho_kxt_5
  have ho_y0_6 := owns_below ho_y0_5 hstep
  clear ho_y0_5
  have hb_0_6 := Below.step hb_0_5 hb_0_5.size hstep
  clear hb_0_5
  have hb_A_6 := Below.step hb_A_5 hb_A_5.size hstep
  clear hb_A_5
  have hb_X_6 := Below.step hb_X_5 hb_X_5.size hstep
  clear hb_X_5
  clear hstep
  have g7 := eqNodeS_any kxt c_ t t _ (HN_t.out _ _ _ ho_kxt_6) (HN_t.out _ _ _ ho_new)
  rw [decide_eq_true rfl] at g7
  clear ho_new
  go_wp2_with fail
  refine g7.mono ?_
  rintro e w7 ⟨rfl, hstep⟩
  clear g7
  have ho_kxt_7 := owns_below ho_kxt_6 hstep
  clear ho_kxt_6
  have ho_y0_7 := owns_below ho_y0_6 hstep
  clear ho_y0_6
  have hb_0_7 := Below.step hb_0_6 hb_0_6.size hstep
  clear hb_0_6
  have hb_A_7 := Below.step hb_A_6 hb_A_6.size hstep
  clear hb_A_6
  have hb_X_7 := Below.step hb_X_6 hb_X_6.size hstep
  clear hb_X_6
  clear hstep
  have g8 := markNodeS_any kxt _ t.length _ _ (1) (by omega) (by omega) (by omega) _ ho_kxt_7
  go_wp2_with fail
  refine g8.mono ?_
  rintro e w8 ⟨rfl, ho_m, hgr⟩
  clear g8
  have ho_y0_8 := own_other ho_y0_7 hgr (fun k hk => by have := hblk_kxt k hk; omega)
  clear ho_y0_7
  have hb_0_8 := Below.grown hb_0_7 hgr hb_0_7.size (fun k hk => by have := hblk_kxt k hk; omega)
  clear hb_0_7
  have hb_A_8 := Below.grown hb_A_7 hgr hb_A_7.size (fun k hk => by have := hblk_kxt k hk; omega)
  clear hb_A_7
  clear hb_X_7
  clear ho_kxt_7 hgr
  have ho_mkxt := ho_m
  clear ho_m
  clear ho_mkxt
  have g9 := eqNodeS_any y0 u0 R0 R0 _ (HR0.out _ _ _ ho_y0_8) (HU0.out _ hb_A_8)
  rw [decide_eq_true rfl] at g9
  go_wp2_with fail
  refine g9.mono ?_
  rintro e w9 ⟨rfl, hstep⟩
  clear g9
  have ho_y0_9 := owns_below ho_y0_8 hstep
  clear ho_y0_8
  have hb_0_9 := Below.step hb_0_8 hb_0_8.size hstep
  clear hb_0_8
  have hb_A_9 := Below.step hb_A_8 hb_A_8.size hstep
  clear hb_A_8
  clear hstep
  have g10 := markNodeS_any y0 _ R0.length _ _ (1) (by omega) (by omega) (by omega) _ ho_y0_9
  go_wp2_with fail
  refine g10.mono ?_
  rintro e w10 ⟨rfl, ho_m, hgr⟩
  clear g10
  have hb_0_10 := Below.grown hb_0_9 hgr hb_0_9.size (fun k hk => by have := hblk_y0 k hk; omega)
  clear hb_0_9
  have hb_A_10 := Below.grown hb_A_9 hgr hb_A_9.size (fun k hk => by have := hblk_y0 k hk; omega)
  clear hb_A_9
  clear ho_y0_9 hgr
  have ho_my0 := ho_m
  clear ho_m
  have g11 := heldNodeS_any y0 _ R0.length _ (1) (by omega) (by omega) (by omega) _ ho_my0
  go_wp2_with fail
  refine g11.mono ?_
  rintro e w_ ⟨rfl, rfl⟩
  clear g11
  have g12 := GT_t.out _ hb_0_10
  go_wp2_with fail
  refine g12.mono ?_
  rintro e w11 ⟨ktt, rfl, ho_new, hstep⟩
  clear g12
  have ho_y0_11 := owns_below ho_my0 hstep
  clear ho_my0
  have hb_0_11 := Below.step hb_0_10 hb_0_10.size hstep
  clear hb_0_10
  have hb_A_11 := Below.step hb_A_10 hb_A_10.size hstep
  clear hb_A_10
  clear hstep
  have ho_ktt_11 := ho_new
  clear ho_new
  have g13 := GI.out ktt _ hb_0_11 (HN_t.out _ _ _ ho_ktt_11) (cap_of_own ho_ktt_11)
  go_wp2_with fail
  refine g13.mono ?_
  rintro e w12 ⟨h0, rfl, ho_n0, hstep⟩
  clear g13
  have ho_y0_12 := owns_below ho_y0_11 hstep
  clear ho_y0_11
  have ho_ktt_12 := owns_below ho_ktt_11 hstep
  clear ho_ktt_11
  have hb_0_12 := Below.step hb_0_11 hb_0_11.size hstep
  clear hb_0_11
  have hb_A_12 := Below.step hb_A_11 hb_A_11.size hstep
  clear hb_A_11
  clear hstep
  have ho_h0_12 := ho_n0
  clear ho_n0
  clear ho_ktt_12
  have g14 := eqNodeS_any h0 u0 R0 R0 _ (HR0.out _ _ _ ho_h0_12) (HU0.out _ hb_A_12)
  rw [decide_eq_true rfl] at g14
  go_wp2_with fail
  refine g14.mono ?_
  rintro e w13 ⟨rfl, hstep⟩
  clear g14
  have ho_y0_13 := owns_below ho_y0_12 hstep
  clear ho_y0_12
  have ho_h0_13 := owns_below ho_h0_12 hstep
  clear ho_h0_12
  have hb_0_13 := Below.step hb_0_12 hb_0_12.size hstep
  clear hb_0_12
  have hb_A_13 := Below.step hb_A_12 hb_A_12.size hstep
  clear hb_A_12
  clear hstep
  clear ho_h0_13
  have g15 := heldNodeS_any y0 _ R0.length _ (1) (by omega) (by omega) (by omega) _ ho_y0_13
  go_wp2_with fail
  refine g15.mono ?_
  rintro e w_ ⟨rfl, rfl⟩
  clear g15
  have HB : Hid (Below w'.heap.size w' _) := hb_0_13
  clear ho_y0_13
  go_wp2_with fail
  go_ret
  exact ⟨rfl, HB.out⟩
set_option maxRecDepth 100000 in
theorem foldTerm_big0 (wide : Int) (vars : Int) (tv : Value) (t : List Nd) (ha : 0 ≤ 1048576) (hz : 1048576 < t.length) (w : World) (h_t : NodesAt w tv t) :
    Calls Tryd.prog 8 #[.int .i64 wide, .int .i64 vars, tv] w fun e w' => e = .returned (.bool true) ∧ Below w.heap.size w w' := by
  have hn_t := h_t.2.1
  have z0 : Calls Tryd.prog 60 #[tv, .int .i64 (1048576)] w fun e w' => e = .returned (.int .i64 (-1)) ∧ w' = w := by
    obtain ⟨ad, cap, hsh⟩ := h_t.shape
    have g := szNodeS_any ad t.length cap (1048576) (by omega) (by omega) (by omega) w
    rw [if_pos (by omega), ← hsh] at g
    exact g
  clear h_t
  go_enter Tryd.func8, Tryd.ntmps8
  go_wp2_with fail
  refine z0.mono ?_
  rintro e w' ⟨rfl, rfl⟩
  clear z0
  go_wp2_with fail
  go_ret
  exact ⟨rfl, Below.refl _ _⟩
theorem foldTerm_law (hI : DoesFoldTerm) (wide : Int) (vars : Int) (hwide0 : -9223372036854775808 ≤ wide) (hwide1 : wide ≤ 9223372036854775807) (hvars0 : -9223372036854775808 ≤ vars) (hvars1 : vars ≤ 9223372036854775807) (tv : Value) (t : List Nd) (w : World) (hT : Tab w) (h_t : NodesAt w tv t) :
    Calls Tryd.prog 8 #[.int .i64 wide, .int .i64 vars, tv] w fun e w' => e = .returned (.bool true) ∧ Below w.heap.size w w' := by
  by_cases htot : t.length ≤ 1048576
  · exact foldTerm_small hI wide vars hwide0 hwide1 hvars0 hvars1 tv t htot w hT h_t
  exact foldTerm_big0 wide vars tv t (by omega) (by omega) w h_t
end Go.Proofs.YtjbfembblgkakaaDoor
