/-
  The walk of the exact law of JoinTerms, out of what the program's own function does.
-/
import Derived.Test.YtkmgcgmeibhnmaaDoorJoin
import Derived.Test.YtkmgcgmeibhnmaaDoorLTurn
namespace Go.Proofs.YtkmgcgmeibhnmaaDoor
open Go Go.RowKit
open M
set_option linter.unusedVariables false

theorem joinTerms_reads0 (wide vars op : Int) (a b : List Nd) (hwide0 : -9223372036854775808 ≤ wide) (hwide1 : wide ≤ 9223372036854775807) (hvars0 : -9223372036854775808 ≤ vars) (hvars1 : vars ≤ 9223372036854775807) (ho0 : -9223372036854775808 ≤ op) (ho1 : op ≤ 9223372036854775807) (hok : ∀ x ∈ a, NdOk x) (hl : a.length ≤ 1048576) (hokb : ∀ x ∈ b, NdOk x) (hlb : b.length ≤ 1048576) :
    ∀ (w1 : World) (B : Nat) (v1 : Value), OwnNodes w1 B v1 (joinL wide vars op a b) → NodesAt w1 v1 (joinL wide vars op a b) := by
  intro w1 B v1 ho
  refine nodes_of_own ?_ ?_ ho
  · intro x hx
    unfold joinL madeL at hx
    split at hx
    · split at hx
      · rcases List.mem_append.1 hx with h | h
        · rcases List.mem_append.1 h with h | h
          · exact hok x h
          · exact hokb x h
        · simp at h
          subst h
          exact ⟨ho0, ho1, by simp, by simp⟩
      · cases hx
    · cases hx
  · unfold joinL madeL
    split
    · split
      · simp
        omega
      · simp
    · simp
theorem joinTerms_len0 (wide vars op : Int) (a b : List Nd) : (joinL wide vars op a b).length ≤ a.length + b.length + 1 := by
  unfold joinL madeL
  split
  · split
    · simp
      omega
    · simp
  · simp
/-- what the program's JoinTerms is to do -/
def DoesJoinTerms : Prop := ∀ (wide : Int) (vars : Int) (op : Int) (av : Value) (a : List Nd) (bv : Value) (b : List Nd) (w : World), Tab w → NodesAt w av a → a.length ≤ 1048576 → NodesAt w bv b → b.length ≤ 1048576 → -9223372036854775808 ≤ wide → wide ≤ 9223372036854775807 → -9223372036854775808 ≤ vars → vars ≤ 9223372036854775807 → -9223372036854775808 ≤ op → op ≤ 9223372036854775807 →
  Calls Tryd.prog 34 #[.int .i64 wide, .int .i64 vars, .int .i64 op, av, bv] w fun e w' => ∃ r0' : Value, e = .returned (.tuple #[r0', .bool (saidJoin wide vars op a b)]) ∧ OwnNodes w' w.heap.size r0' (joinL wide vars op a b) ∧ Below w.heap.size w w'
set_option maxRecDepth 100000 in
set_option maxHeartbeats 4000000 in
theorem joinTerms_small (hI : DoesJoinTerms) (wide : Int) (vars : Int) (op : Int) (hwide0 : -9223372036854775808 ≤ wide) (hwide1 : wide ≤ 9223372036854775807) (hvars0 : -9223372036854775808 ≤ vars) (hvars1 : vars ≤ 9223372036854775807) (hop0 : -9223372036854775808 ≤ op) (hop1 : op ≤ 9223372036854775807) (av : Value) (a : List Nd) (bv : Value) (b : List Nd) (htot : a.length + b.length ≤ 1048576) (w : World) (hT : Tab w) (h_a : NodesAt w av a) (h_b : NodesAt w bv b) :
    Calls Tryd.prog 10 #[.int .i64 wide, .int .i64 vars, .int .i64 op, av, bv] w fun e w' => e = .returned (.bool true) ∧ Below w.heap.size w w' := by
  have hl_a : a.length ≤ 1048576 := by omega
  have hl_b : b.length ≤ 1048576 := by omega
  have z0 : Calls Tryd.prog 41 #[av, .int .i64 (1048576)] w fun e w' => e = .returned (.int .i64 (1048576 - (a.length : Int))) ∧ w' = w := by
    obtain ⟨ad, cap, hsh⟩ := h_a.shape
    have g := szNodeS_any ad a.length cap (1048576) (by omega) (by omega) (by omega) w
    rw [if_neg (by omega), ← hsh] at g
    exact g
  have z1 : Calls Tryd.prog 41 #[bv, .int .i64 (1048576 - (a.length : Int))] w fun e w' => e = .returned (.int .i64 (1048576 - (a.length : Int) - (b.length : Int))) ∧ w' = w := by
    obtain ⟨ad, cap, hsh⟩ := h_b.shape
    have g := szNodeS_any ad b.length cap (1048576 - (a.length : Int)) (by omega) (by omega) (by omega) w
    rw [if_neg (by omega), ← hsh] at g
    exact g
  have GT_a : Hid (∀ w1 : World, Below w.heap.size w w1 → Calls Tryd.prog 42 #[av] w1 fun e w' => ∃ v', e = .returned v' ∧ OwnNodes w' w1.heap.size v' a ∧ Below w1.heap.size w1 w') := fun w1 hb => toNodeS_any av a hl_a w1 (h_a.below hb)
  have HN_a : Hid (∀ (w1 : World) (B : Nat) (v1 : Value), OwnNodes w1 B v1 a → NodesAt w1 v1 a) := fun w1 B v1 ho => nodes_of_own h_a.1 (by omega) ho
  have GT_b : Hid (∀ w1 : World, Below w.heap.size w w1 → Calls Tryd.prog 42 #[bv] w1 fun e w' => ∃ v', e = .returned v' ∧ OwnNodes w' w1.heap.size v' b ∧ Below w1.heap.size w1 w') := fun w1 hb => toNodeS_any bv b hl_b w1 (h_b.below hb)
  have HN_b : Hid (∀ (w1 : World) (B : Nat) (v1 : Value), OwnNodes w1 B v1 b → NodesAt w1 v1 b) := fun w1 B v1 ho => nodes_of_own h_b.1 (by omega) ho
  have GS : Hid (∀ (a1 b1 : Value) (w1 : World), NodesAt w1 a1 a → NodesAt w1 b1 b → Calls Tryd.prog 35 #[.int .i64 wide, .int .i64 vars, .int .i64 op, a1, b1] w1 fun e w' => ∃ r0' : Value, e = .returned (.tuple #[r0', .bool (saidJoin wide vars op a b)]) ∧ OwnNodes w' w1.heap.size r0' (joinL wide vars op a b) ∧ Below w1.heap.size w1 w') := fun a1 b1 w1 n_a n_b => joinTerms_any wide vars op hop0 hop1 a1 b1 a b hl_a hl_b w1 n_a n_b
  have GI : Hid (∀ (a1 b1 : Value) (w1 : World), Below w.heap.size w w1 → NodesAt w1 a1 a → NodesAt w1 b1 b → Calls Tryd.prog 34 #[.int .i64 wide, .int .i64 vars, .int .i64 op, a1, b1] w1 fun e w' => ∃ r0' : Value, e = .returned (.tuple #[r0', .bool (saidJoin wide vars op a b)]) ∧ OwnNodes w' w1.heap.size r0' (joinL wide vars op a b) ∧ Below w1.heap.size w1 w') := fun a1 b1 w1 hb n_a n_b => hI wide vars op a1 a b1 b w1 (hT.below hb hT.some) n_a hl_a n_b hl_b hwide0 hwide1 hvars0 hvars1 hop0 hop1
  have HR0 : Hid (∀ (w1 : World) (B : Nat) (v1 : Value), OwnNodes w1 B v1 (joinL wide vars op a b) → NodesAt w1 v1 (joinL wide vars op a b)) := joinTerms_reads0 wide vars op a b hwide0 hwide1 hvars0 hvars1 hop0 hop1 h_a.1 hl_a h_b.1 hl_b
  have hlr0 := joinTerms_len0 wide vars op a b
  clear hI hT h_a h_b
  generalize joinL wide vars op a b = R0 at *
  generalize saidJoin wide vars op a b = R1 at *
  go_enter Tryd.func10, Tryd.ntmps10
  go_wp2_with fail
  refine z0.mono ?_
  rintro e w' ⟨rfl, rfl⟩
  clear z0
  go_wp2_with fail
  refine z1.mono ?_
  rintro e w' ⟨rfl, rfl⟩
  clear z1
  have hb_0_0 := Below.refl w'.heap.size w'
  have g1 := GT_a.out _ hb_0_0
  go_wp2_with fail
  refine g1.mono ?_
  rintro e w1 ⟨ksa, rfl, ho_new, hstep⟩
  clear g1
  have hb_0_1 := Below.step hb_0_0 hb_0_0.size hstep
  clear hb_0_0
  have hsz_1 := hstep.size
  clear hstep
  have ho_ksa_1 := ho_new
  clear ho_new
  have g2 := GT_b.out _ hb_0_1
  go_wp2_with fail
  refine g2.mono ?_
  rintro e w2 ⟨ksb, rfl, ho_new, hstep⟩
  clear g2
  have ho_ksa_2 := owns_below ho_ksa_1 hstep
  clear ho_ksa_1
  have hb_0_2 := Below.step hb_0_1 hb_0_1.size hstep
  clear hb_0_1
  have hsz_2 := hstep.size
  clear hstep
  have ho_ksb_2 := ho_new
  clear ho_new
  have g3 := GS.out ksa ksb _ (HN_a.out _ _ _ ho_ksa_2) (HN_b.out _ _ _ ho_ksb_2)
  go_wp2_with fail
  refine g3.mono ?_
  clear ho_ksa_2
  clear ho_ksb_2
  rintro e w3 ⟨u0, rfl, ho_u0, hstep⟩
  clear g3
  have hb_0_3 := Below.step hb_0_2 hb_0_2.size hstep
  clear hb_0_2
  have hsz_3 := hstep.size
  clear hstep
  have HU0 : Hid (∀ w_ : World, Below w3.heap.size w3 w_ → NodesAt w_ u0 R0) := fun w_ hb => (HR0.out _ _ _ ho_u0).below hb
  clear ho_u0
  have hb_A_3 := Below.refl w3.heap.size w3
  have g4 := GT_a.out _ hb_0_3
  go_wp2_with fail
  refine g4.mono ?_
  rintro e w4 ⟨kxa, rfl, ho_new, hstep⟩
  clear g4
  have hb_0_4 := Below.step hb_0_3 hb_0_3.size hstep
  clear hb_0_3
  have hb_A_4 := Below.step hb_A_3 hb_A_3.size hstep
  clear hb_A_3
  have hsz_4 := hstep.size
  clear hstep
  have ho_kxa_4 := ho_new
  clear ho_new
  have hblk_kxa := fun k hk => own_block ho_kxa_4 (k := k) hk
  have g5 := GT_b.out _ hb_0_4
  go_wp2_with fail
  refine g5.mono ?_
  rintro e w5 ⟨kxb, rfl, ho_new, hstep⟩
  clear g5
  have ho_kxa_5 := owns_below ho_kxa_4 hstep
  clear ho_kxa_4
  have hb_0_5 := Below.step hb_0_4 hb_0_4.size hstep
  clear hb_0_4
  have hb_A_5 := Below.step hb_A_4 hb_A_4.size hstep
  clear hb_A_4
  have hsz_5 := hstep.size
  clear hstep
  have ho_kxb_5 := ho_new
  clear ho_new
  have hblk_kxb := fun k hk => own_block ho_kxb_5 (k := k) hk
  have hsA := hb_A_5.size
  have hs0 := hb_0_5.size
  have hb_X_5 := Below.refl w5.heap.size w5
  have g6 := GI.out kxa kxb _ hb_0_5 (HN_a.out _ _ _ ho_kxa_5) (HN_b.out _ _ _ ho_kxb_5)
  go_wp2_with fail
  refine g6.mono ?_
  rintro e w6 ⟨y0, rfl, ho_n0, hstep⟩
  clear g6
  have ho_kxa_6 := owns_below ho_kxa_5 hstep
  clear ho_kxa_5
  have ho_kxb_6 := owns_below ho_kxb_5 hstep
  clear ho_kxb_5
  have hb_0_6 := Below.step hb_0_5 hb_0_5.size hstep
  clear hb_0_5
  have hb_A_6 := Below.step hb_A_5 hb_A_5.size hstep
  clear hb_A_5
  have hb_X_6 := Below.step hb_X_5 hb_X_5.size hstep
  clear hb_X_5
  have hsz_6 := hstep.size
  clear hstep
  have ho_y0_6 := ho_n0
  clear ho_n0
  have hblk_y0 := fun k hk => own_block ho_y0_6 (k := k) hk
  have hsX := hb_X_6.size
  have g7 := eqNodeS_any y0 u0 R0 R0 _ (HR0.out _ _ _ ho_y0_6) (HU0.out _ hb_A_6)
  rw [decide_eq_true rfl] at g7
  go_wp2_with fail
  refine g7.mono ?_
  rintro e w7 ⟨rfl, hstep⟩
  clear g7
  have ho_kxa_7 := owns_below ho_kxa_6 hstep
  clear ho_kxa_6
  have ho_kxb_7 := owns_below ho_kxb_6 hstep
  clear ho_kxb_6
  have ho_y0_7 := owns_below ho_y0_6 hstep
  clear ho_y0_6
  have hb_0_7 := Below.step hb_0_6 hb_0_6.size hstep
  clear hb_0_6
  have hb_A_7 := Below.step hb_A_6 hb_A_6.size hstep
  clear hb_A_6
  have hb_X_7 := Below.step hb_X_6 hb_X_6.size hstep
  clear hb_X_6
  clear hstep
  have g8 := GT_a.out _ hb_0_7
  go_wp2_with fail
  refine g8.mono ?_
  rintro e w8 ⟨c_, rfl, ho_new, hstep⟩
  clear g8
  have ho_kxa_8 := owns_below ho_kxa_7 hstep
  clear ho_kxa_7
  have ho_kxb_8 := owns_below ho_kxb_7 hstep
  clear ho_kxb_7
  have ho_y0_8 := owns_below ho_y0_7 hstep
  clear ho_y0_7
  have hb_0_8 := Below.step hb_0_7 hb_0_7.size hstep
  clear hb_0_7
  have hb_A_8 := Below.step hb_A_7 hb_A_7.size hstep
  clear hb_A_7
  have hb_X_8 := Below.step hb_X_7 hb_X_7.size hstep
  clear hb_X_7
  clear hstep
  have g9 := eqNodeS_any kxa c_ a a _ (HN_a.out _ _ _ ho_kxa_8) (HN_a.out _ _ _ ho_new)
  rw [decide_eq_true rfl] at g9
  clear ho_new
  go_wp2_with fail
  refine g9.mono ?_
  rintro e w9 ⟨rfl, hstep⟩
  clear g9
  have ho_kxa_9 := owns_below ho_kxa_8 hstep
  clear ho_kxa_8
  have ho_kxb_9 := owns_below ho_kxb_8 hstep
  clear ho_kxb_8
  have ho_y0_9 := owns_below ho_y0_8 hstep
  clear ho_y0_8
  have hb_0_9 := Below.step hb_0_8 hb_0_8.size hstep
  clear hb_0_8
  have hb_A_9 := Below.step hb_A_8 hb_A_8.size hstep
  clear hb_A_8
  have hb_X_9 := Below.step hb_X_8 hb_X_8.size hstep
  clear hb_X_8
  clear hstep
  have g10 := GT_b.out _ hb_0_9
  go_wp2_with fail
  refine g10.mono ?_
  rintro e w10 ⟨c_, rfl, ho_new, hstep⟩
  clear g10
  have ho_kxa_10 := owns_below ho_kxa_9 hstep
  clear ho_kxa_9
  have ho_kxb_10 := owns_below ho_kxb_9 hstep
  clear ho_kxb_9
  have ho_y0_10 := owns_below ho_y0_9 hstep
  clear ho_y0_9
  have hb_0_10 := Below.step hb_0_9 hb_0_9.size hstep
  clear hb_0_9
  have hb_A_10 := Below.step hb_A_9 hb_A_9.size hstep
  clear hb_A_9
  have hb_X_10 := Below.step hb_X_9 hb_X_9.size hstep
  clear hb_X_9
  clear hstep
  have g11 := eqNodeS_any kxb c_ b b _ (HN_b.out _ _ _ ho_kxb_10) (HN_b.out _ _ _ ho_new)
  rw [decide_eq_true rfl] at g11
  clear ho_new
  go_wp2_with fail
  refine g11.mono ?_
  rintro e w11 ⟨rfl, hstep⟩
  clear g11
  have ho_kxa_11 := owns_below ho_kxa_10 hstep
  clear ho_kxa_10
  have ho_kxb_11 := owns_below ho_kxb_10 hstep
  clear ho_kxb_10
  have ho_y0_11 := owns_below ho_y0_10 hstep
  clear ho_y0_10
  have hb_0_11 := Below.step hb_0_10 hb_0_10.size hstep
  clear hb_0_10
  have hb_A_11 := Below.step hb_A_10 hb_A_10.size hstep
  clear hb_A_10
  have hb_X_11 := Below.step hb_X_10 hb_X_10.size hstep
  clear hb_X_10
  clear hstep
  have g12 := markNodeS_any kxa _ a.length _ _ (1) (by omega) (by omega) (by omega) _ ho_kxa_11
  go_wp2_with fail
  refine g12.mono ?_
  rintro e w12 ⟨rfl, ho_m, hgr⟩
  clear g12
  have ho_kxb_12 := own_other ho_kxb_11 hgr (fun k hk => by have := hblk_kxa k hk; omega)
  clear ho_kxb_11
  have ho_y0_12 := own_other ho_y0_11 hgr (fun k hk => by have := hblk_kxa k hk; omega)
  clear ho_y0_11
  have hb_0_12 := Below.grown hb_0_11 hgr hb_0_11.size (fun k hk => by have := hblk_kxa k hk; omega)
  clear hb_0_11
  have hb_A_12 := Below.grown hb_A_11 hgr hb_A_11.size (fun k hk => by have := hblk_kxa k hk; omega)
  clear hb_A_11
  clear hb_X_11
  clear ho_kxa_11 hgr
  have ho_mkxa := ho_m
  clear ho_m
  clear ho_mkxa
  have g13 := markNodeS_any kxb _ b.length _ _ (1 + 2 * a.length) (by omega) (by omega) (by omega) _ ho_kxb_12
  go_wp2_with fail
  refine g13.mono ?_
  rintro e w13 ⟨rfl, ho_m, hgr⟩
  clear g13
  have ho_y0_13 := own_other ho_y0_12 hgr (fun k hk => by have := hblk_kxb k hk; omega)
  clear ho_y0_12
  have hb_0_13 := Below.grown hb_0_12 hgr hb_0_12.size (fun k hk => by have := hblk_kxb k hk; omega)
  clear hb_0_12
  have hb_A_13 := Below.grown hb_A_12 hgr hb_A_12.size (fun k hk => by have := hblk_kxb k hk; omega)
  clear hb_A_12
  clear ho_kxb_12 hgr
  have ho_mkxb := ho_m
  clear ho_m
  clear ho_mkxb
  have g14 := eqNodeS_any y0 u0 R0 R0 _ (HR0.out _ _ _ ho_y0_13) (HU0.out _ hb_A_13)
  rw [decide_eq_true rfl] at g14
  go_wp2_with fail
  refine g14.mono ?_
  rintro e w14 ⟨rfl, hstep⟩
  clear g14
  have ho_y0_14 := owns_below ho_y0_13 hstep
  clear ho_y0_13
  have hb_0_14 := Below.step hb_0_13 hb_0_13.size hstep
  clear hb_0_13
  have hb_A_14 := Below.step hb_A_13 hb_A_13.size hstep
  clear hb_A_13
  clear hstep
  have g15 := markNodeS_any y0 _ R0.length _ _ (1) (by omega) (by omega) (by omega) _ ho_y0_14
  go_wp2_with fail
  refine g15.mono ?_
  rintro e w15 ⟨rfl, ho_m, hgr⟩
  clear g15
  have hb_0_15 := Below.grown hb_0_14 hgr hb_0_14.size (fun k hk => by have := hblk_y0 k hk; omega)
  clear hb_0_14
  have hb_A_15 := Below.grown hb_A_14 hgr hb_A_14.size (fun k hk => by have := hblk_y0 k hk; omega)
  clear hb_A_14
  clear ho_y0_14 hgr
  have ho_my0 := ho_m
  clear ho_m
  have g16 := heldNodeS_any y0 _ R0.length _ (1) (by omega) (by omega) (by omega) _ ho_my0
  go_wp2_with fail
  refine g16.mono ?_
  rintro e w_ ⟨rfl, rfl⟩
  clear g16
  have g17 := GT_a.out _ hb_0_15
  go_wp2_with fail
  refine g17.mono ?_
  rintro e w16 ⟨kta, rfl, ho_new, hstep⟩
  clear g17
  have ho_y0_16 := owns_below ho_my0 hstep
  clear ho_my0
  have hb_0_16 := Below.step hb_0_15 hb_0_15.size hstep
  clear hb_0_15
  have hb_A_16 := Below.step hb_A_15 hb_A_15.size hstep
  clear hb_A_15
  clear hstep
  have ho_kta_16 := ho_new
  clear ho_new
  have g18 := GT_b.out _ hb_0_16
  go_wp2_with fail
  refine g18.mono ?_
  rintro e w17 ⟨ktb, rfl, ho_new, hstep⟩
  clear g18
  have ho_y0_17 := owns_below ho_y0_16 hstep
  clear ho_y0_16
  have ho_kta_17 := owns_below ho_kta_16 hstep
  clear ho_kta_16
  have hb_0_17 := Below.step hb_0_16 hb_0_16.size hstep
  clear hb_0_16
  have hb_A_17 := Below.step hb_A_16 hb_A_16.size hstep
  clear hb_A_16
  clear hstep
  have ho_ktb_17 := ho_new
  clear ho_new
  have g19 := GI.out kta ktb _ hb_0_17 (HN_a.out _ _ _ ho_kta_17) (HN_b.out _ _ _ ho_ktb_17)
  go_wp2_with fail
  refine g19.mono ?_
  rintro e w18 ⟨h0, rfl, ho_n0, hstep⟩
  clear g19
  have ho_y0_18 := owns_below ho_y0_17 hstep
  clear ho_y0_17
  have ho_kta_18 := owns_below ho_kta_17 hstep
  clear ho_kta_17
  have ho_ktb_18 := owns_below ho_ktb_17 hstep
  clear ho_ktb_17
  have hb_0_18 := Below.step hb_0_17 hb_0_17.size hstep
  clear hb_0_17
  have hb_A_18 := Below.step hb_A_17 hb_A_17.size hstep
  clear hb_A_17
  clear hstep
  have ho_h0_18 := ho_n0
  clear ho_n0
  clear ho_kta_18
  clear ho_ktb_18
  have g20 := eqNodeS_any h0 u0 R0 R0 _ (HR0.out _ _ _ ho_h0_18) (HU0.out _ hb_A_18)
  rw [decide_eq_true rfl] at g20
  go_wp2_with fail
  refine g20.mono ?_
  rintro e w19 ⟨rfl, hstep⟩
  clear g20
  have ho_y0_19 := owns_below ho_y0_18 hstep
  clear ho_y0_18
  have ho_h0_19 := owns_below ho_h0_18 hstep
  clear ho_h0_18
  have hb_0_19 := Below.step hb_0_18 hb_0_18.size hstep
  clear hb_0_18
  have hb_A_19 := Below.step hb_A_18 hb_A_18.size hstep
  clear hb_A_18
  clear hstep
  clear ho_h0_19
  have g21 := heldNodeS_any y0 _ R0.length _ (1) (by omega) (by omega) (by omega) _ ho_y0_19
  go_wp2_with fail
  refine g21.mono ?_
  rintro e w_ ⟨rfl, rfl⟩
  clear g21
  have HB : Hid (Below w'.heap.size w' _) := hb_0_19
  clear ho_y0_19
  go_wp2_with fail
  go_ret
  exact ⟨rfl, HB.out⟩
set_option maxRecDepth 100000 in
theorem joinTerms_big0 (wide : Int) (vars : Int) (op : Int) (av : Value) (a : List Nd) (bv : Value) (b : List Nd) (ha : 0 ≤ 1048576) (hz : 1048576 < a.length) (w : World) (h_a : NodesAt w av a) (h_b : NodesAt w bv b) :
    Calls Tryd.prog 10 #[.int .i64 wide, .int .i64 vars, .int .i64 op, av, bv] w fun e w' => e = .returned (.bool true) ∧ Below w.heap.size w w' := by
  have hn_a := h_a.2.1
  have hn_b := h_b.2.1
  have z0 : Calls Tryd.prog 41 #[av, .int .i64 (1048576)] w fun e w' => e = .returned (.int .i64 (-1)) ∧ w' = w := by
    obtain ⟨ad, cap, hsh⟩ := h_a.shape
    have g := szNodeS_any ad a.length cap (1048576) (by omega) (by omega) (by omega) w
    rw [if_pos (by omega), ← hsh] at g
    exact g
  clear h_a h_b
  go_enter Tryd.func10, Tryd.ntmps10
  go_wp2_with fail
  refine z0.mono ?_
  rintro e w' ⟨rfl, rfl⟩
  clear z0
  go_wp2_with fail
  go_ret
  exact ⟨rfl, Below.refl _ _⟩
set_option maxRecDepth 100000 in
theorem joinTerms_big1 (wide : Int) (vars : Int) (op : Int) (av : Value) (a : List Nd) (bv : Value) (b : List Nd) (ha : 0 + a.length ≤ 1048576) (hz : 1048576 < a.length + b.length) (w : World) (h_a : NodesAt w av a) (h_b : NodesAt w bv b) :
    Calls Tryd.prog 10 #[.int .i64 wide, .int .i64 vars, .int .i64 op, av, bv] w fun e w' => e = .returned (.bool true) ∧ Below w.heap.size w w' := by
  have hn_a := h_a.2.1
  have hn_b := h_b.2.1
  have z0 : Calls Tryd.prog 41 #[av, .int .i64 (1048576)] w fun e w' => e = .returned (.int .i64 (1048576 - (a.length : Int))) ∧ w' = w := by
    obtain ⟨ad, cap, hsh⟩ := h_a.shape
    have g := szNodeS_any ad a.length cap (1048576) (by omega) (by omega) (by omega) w
    rw [if_neg (by omega), ← hsh] at g
    exact g
  have z1 : Calls Tryd.prog 41 #[bv, .int .i64 (1048576 - (a.length : Int))] w fun e w' => e = .returned (.int .i64 (-1)) ∧ w' = w := by
    obtain ⟨ad, cap, hsh⟩ := h_b.shape
    have g := szNodeS_any ad b.length cap (1048576 - (a.length : Int)) (by omega) (by omega) (by omega) w
    rw [if_pos (by omega), ← hsh] at g
    exact g
  clear h_a h_b
  go_enter Tryd.func10, Tryd.ntmps10
  go_wp2_with fail
  refine z0.mono ?_
  rintro e w' ⟨rfl, rfl⟩
  clear z0
  go_wp2_with fail
  refine z1.mono ?_
  rintro e w' ⟨rfl, rfl⟩
  clear z1
  go_wp2_with fail
  go_ret
  exact ⟨rfl, Below.refl _ _⟩
theorem joinTerms_law (hI : DoesJoinTerms) (wide : Int) (vars : Int) (op : Int) (hwide0 : -9223372036854775808 ≤ wide) (hwide1 : wide ≤ 9223372036854775807) (hvars0 : -9223372036854775808 ≤ vars) (hvars1 : vars ≤ 9223372036854775807) (hop0 : -9223372036854775808 ≤ op) (hop1 : op ≤ 9223372036854775807) (av : Value) (a : List Nd) (bv : Value) (b : List Nd) (w : World) (hT : Tab w) (h_a : NodesAt w av a) (h_b : NodesAt w bv b) :
    Calls Tryd.prog 10 #[.int .i64 wide, .int .i64 vars, .int .i64 op, av, bv] w fun e w' => e = .returned (.bool true) ∧ Below w.heap.size w w' := by
  by_cases htot : a.length + b.length ≤ 1048576
  · exact joinTerms_small hI wide vars op hwide0 hwide1 hvars0 hvars1 hop0 hop1 av a bv b htot w hT h_a h_b
  by_cases hj0 : 1048576 < a.length
  · exact joinTerms_big0 wide vars op av a bv b (by omega) hj0 w h_a h_b
  exact joinTerms_big1 wide vars op av a bv b (by omega) (by omega) w h_a h_b
end Go.Proofs.YtkmgcgmeibhnmaaDoor
