/-
  The walk of the exact law of TouchedBy, out of what the model's and the program's function do.
-/
import Derived.Test.YtjbolpfilgkbfaaDoorKP101
import Derived.Test.YtjbolpfilgkbfaaDoorOwn5
import Derived.Test.YtjbolpfilgkbfaaDoorOwn3
import Derived.Test.YtjbolpfilgkbfaaDoorStrong
import Derived.Test.YtjbolpfilgkbfaaDoorKP104
namespace Go.Proofs.YtjbolpfilgkbfaaDoor
open Go Go.RowKit
open M
set_option linter.unusedVariables false

set_option maxRecDepth 100000 in
set_option maxHeartbeats 8000000 in
theorem touchedBy_small (p : Pg) (pv : Value) (n : Int) (hf_n : Fit n) (R0 : List Int) (R1 : List Int) (R2 : Bool) (hR0 : R0.length ≤ 1048576) (hR1 : R1.length ≤ 1048576) (hok_p : PgOk p) (htot_p : sPg p ≤ 1048576) (w : World) (h_p : AtProg w pv p) (GS0 : ∀ (p1 : Value) (w1 : World), Below w.heap.size w w1 → AtProg w1 p1 p → Calls Tryd.prog 34 #[p1, .int .i64 n] w1 fun e w' => ∃ r0, ∃ r1, e = .returned (.tuple #[r0, r1, .bool R2]) ∧ OwnIS w' w1.heap.size w'.heap.size r0 R0 ∧ OwnIS w' w1.heap.size w'.heap.size r1 R1 ∧ Ap2 r0 r1 ∧ Below w1.heap.size w1 w') (GI0 : ∀ (p1 : Value) (w1 : World), Below w.heap.size w w1 → AtProg w1 p1 p → Calls Tryd.prog 23 #[p1, .int .i64 n] w1 fun e w' => ∃ r0, ∃ r1, e = .returned (.tuple #[r0, r1, .bool R2]) ∧ OwnIS w' w1.heap.size w'.heap.size r0 R0 ∧ OwnIS w' w1.heap.size w'.heap.size r1 R1 ∧ Ap2 r0 r1 ∧ Below w1.heap.size w1 w') :
    Calls Tryd.prog 9 #[pv, .int .i64 n] w fun e w' => e = .returned (.bool true) ∧ Below w.heap.size w w' := by
  have GS : Hid (∀ (p1 : Value) (w1 : World), Below w.heap.size w w1 → AtProg w1 p1 p → Calls Tryd.prog 34 #[p1, .int .i64 n] w1 fun e w' => ∃ r0, ∃ r1, e = .returned (.tuple #[r0, r1, .bool R2]) ∧ OwnIS w' w1.heap.size w'.heap.size r0 R0 ∧ OwnIS w' w1.heap.size w'.heap.size r1 R1 ∧ Ap2 r0 r1 ∧ Below w1.heap.size w1 w') := GS0
  have GI : Hid (∀ (p1 : Value) (w1 : World), Below w.heap.size w w1 → AtProg w1 p1 p → Calls Tryd.prog 23 #[p1, .int .i64 n] w1 fun e w' => ∃ r0, ∃ r1, e = .returned (.tuple #[r0, r1, .bool R2]) ∧ OwnIS w' w1.heap.size w'.heap.size r0 R0 ∧ OwnIS w' w1.heap.size w'.heap.size r1 R1 ∧ Ap2 r0 r1 ∧ Below w1.heap.size w1 w') := GI0
  clear GS0 GI0
  have Z : Hid (∀ w1 : World, Below w.heap.size w w1 → Calls Tryd.prog 45 #[pv, .int .i64 1048576] w1 fun e w' => e = .returned (.int .i64 (1048576 - (sPg p : Int))) ∧ Below w1.heap.size w1 w') := fun w1 hb => szProgram_small pv p htot_p w1 (h_p.below hb)
  obtain ⟨n0, hn0⟩ : ∃ n0 : Int, (1048576 - (sPg p : Int)) = n0 := ⟨_, rfl⟩
  have hn1 : 0 ≤ n0 := by omega
  rw [hn0] at Z
  have GT_p : Hid (∀ w1 : World, Below w.heap.size w w1 → Calls Tryd.prog 46 #[pv] w1 fun e w' => ∃ v', e = .returned v' ∧ OwnProg w' w1.heap.size w'.heap.size v' p ∧ Below w1.heap.size w1 w') := fun w1 hb => toProgram_any pv p hok_p w1 (h_p.below hb)
  have GE_p : Hid (∀ (u v : Value) (w1 : World), AtProg w1 u p → AtProg w1 v p → Calls Tryd.prog 48 #[u, v] w1 fun e w' => e = .returned (.bool true) ∧ Below w1.heap.size w1 w') := fun u v w1 h1 h2 => eqProgram_same u v p w1 h1 h2
  have HN_p : Hid (∀ (w1 : World) (lo hi : Nat) (v1 : Value), OwnProg w1 lo hi v1 p → AtProg w1 v1 p) := fun w1 lo hi v1 ho => ho.reads hok_p
  have HC_p : Hid (∀ (w1 : World) (lo hi : Nat) (v1 : Value), OwnProg w1 lo hi v1 p → AtProg w1 v1 p) := fun w1 lo hi v1 ho => ho.hands hok_p
  have GE_R0 : Hid (∀ (u v : Value) (w1 : World), IntsAt w1 u R0 → IntsAt w1 v R0 → Calls Tryd.prog 50 #[u, v] w1 fun e w' => e = .returned (.bool true) ∧ Below w1.heap.size w1 w') := fun u v w1 h1 h2 => by
    have g := eqIntS_any u v R0 R0 w1 h1 h2
    rw [decide_eq_true rfl] at g
    exact g
  have HN_R0 : Hid (∀ (w1 : World) (lo hi : Nat) (v1 : Value), OwnIS w1 lo hi v1 R0 → IntsAt w1 v1 R0) := fun w1 lo hi v1 ho => ho.reads hR0
  have GE_R1 : Hid (∀ (u v : Value) (w1 : World), IntsAt w1 u R1 → IntsAt w1 v R1 → Calls Tryd.prog 50 #[u, v] w1 fun e w' => e = .returned (.bool true) ∧ Below w1.heap.size w1 w') := fun u v w1 h1 h2 => by
    have g := eqIntS_any u v R1 R1 w1 h1 h2
    rw [decide_eq_true rfl] at g
    exact g
  have HN_R1 : Hid (∀ (w1 : World) (lo hi : Nat) (v1 : Value), OwnIS w1 lo hi v1 R1 → IntsAt w1 v1 R1) := fun w1 lo hi v1 ho => ho.reads hR1
  have GM_p : Hid (∀ (v : Value) (lo hi : Nat) (k : Int) (w1 : World), 0 ≤ k → k ≤ 100000000000 → OwnProg w1 lo hi v p → Calls Tryd.prog 51 #[v, .int .i64 k] w1 fun e w' => e = .returned (.int .i64 (k + (lenPg p : Int))) ∧ MarkProg w' lo hi v p k ∧ Touch lo hi w1 w') := fun v lo hi k w1 h0 h1 ho => markProgram_any v p lo hi k htot_p h0 h1 w1 ho
  have hle_p : 0 ≤ (lenPg p : Int) ∧ (lenPg p : Int) ≤ 4194304 := by have := lenPg_le p; omega
  obtain ⟨Lp, hLp⟩ : ∃ L : Int, (lenPg p : Int) = L := ⟨_, rfl⟩
  rw [hLp] at GM_p hle_p
  clear hLp
  obtain ⟨hle0_p, hle1_p⟩ := hle_p
  have GM_R0 : Hid (∀ (v : Value) (lo hi : Nat) (k : Int) (w1 : World), 0 ≤ k → k ≤ 100000000000 → OwnIS w1 lo hi v R0 → Calls Tryd.prog 53 #[v, .int .i64 k] w1 fun e w' => e = .returned (.int .i64 (k + (R0.length : Int))) ∧ MarkIS w' lo hi v R0 k ∧ Touch lo hi w1 w') := fun v lo hi k w1 h0 h1 ho => markIS_any v R0 lo hi k hR0 h0 h1 w1 ho
  have GH_R0 : Hid (∀ (v : Value) (lo hi : Nat) (k : Int) (w1 : World), 0 ≤ k → k ≤ 100000000000 → MarkIS w1 lo hi v R0 k → Calls Tryd.prog 54 #[v, .int .i64 k] w1 fun e w' => e = .returned (.int .i64 (k + (R0.length : Int))) ∧ Below w1.heap.size w1 w') := fun v lo hi k w1 h0 h1 ho => heldIS_any v R0 lo hi k hR0 h0 h1 w1 ho
  have GM2_R0 : Hid (∀ (v v1 : Value) (lo hi : Nat) (k : Int) (w1 : World), 0 ≤ k → k ≤ 100000000000 → OwnIS w1 lo hi v R0 → OwnIS w1 lo hi v1 R1 → Ap2 v v1 → Calls Tryd.prog 53 #[v, .int .i64 k] w1 fun e w' => e = .returned (.int .i64 (k + (R0.length : Int))) ∧ MarkIS w' lo hi v R0 k ∧ OwnIS w' lo hi v1 R1 ∧ Touch lo hi w1 w') := fun v v1 lo hi k w1 h0 h1 ho h2 ha => markIS_first v v1 R0 R1 lo hi k hR0 h0 h1 w1 ho h2 ha
  have hle_R0 : 0 ≤ (R0.length : Int) ∧ (R0.length : Int) ≤ 4194304 := by omega
  obtain ⟨LR0, hLR0⟩ : ∃ L : Int, (R0.length : Int) = L := ⟨_, rfl⟩
  rw [hLR0] at GM_R0 hle_R0 GH_R0 GM2_R0
  clear hLR0
  obtain ⟨hle0_R0, hle1_R0⟩ := hle_R0
  have GM_R1 : Hid (∀ (v : Value) (lo hi : Nat) (k : Int) (w1 : World), 0 ≤ k → k ≤ 100000000000 → OwnIS w1 lo hi v R1 → Calls Tryd.prog 53 #[v, .int .i64 k] w1 fun e w' => e = .returned (.int .i64 (k + (R1.length : Int))) ∧ MarkIS w' lo hi v R1 k ∧ Touch lo hi w1 w') := fun v lo hi k w1 h0 h1 ho => markIS_any v R1 lo hi k hR1 h0 h1 w1 ho
  have GH_R1 : Hid (∀ (v : Value) (lo hi : Nat) (k : Int) (w1 : World), 0 ≤ k → k ≤ 100000000000 → MarkIS w1 lo hi v R1 k → Calls Tryd.prog 54 #[v, .int .i64 k] w1 fun e w' => e = .returned (.int .i64 (k + (R1.length : Int))) ∧ Below w1.heap.size w1 w') := fun v lo hi k w1 h0 h1 ho => heldIS_any v R1 lo hi k hR1 h0 h1 w1 ho
  have GM2_R1 : Hid (∀ (v v1 : Value) (lo hi : Nat) (k k0 : Int) (w1 : World), 0 ≤ k → k ≤ 100000000000 → MarkIS w1 lo hi v R0 k0 → OwnIS w1 lo hi v1 R1 → Ap2 v v1 → Calls Tryd.prog 53 #[v1, .int .i64 k] w1 fun e w' => e = .returned (.int .i64 (k + (R1.length : Int))) ∧ MarkIS w' lo hi v1 R1 k ∧ MarkIS w' lo hi v R0 k0 ∧ Touch lo hi w1 w') := fun v v1 lo hi k k0 w1 h0 h1 ho h2 ha => markIS_second v v1 R0 R1 lo hi k k0 hR1 h0 h1 w1 ho h2 ha
  have hle_R1 : 0 ≤ (R1.length : Int) ∧ (R1.length : Int) ≤ 4194304 := by omega
  obtain ⟨LR1, hLR1⟩ : ∃ L : Int, (R1.length : Int) = L := ⟨_, rfl⟩
  rw [hLR1] at GM_R1 hle_R1 GH_R1 GM2_R1
  clear hLR1
  obtain ⟨hle0_R1, hle1_R1⟩ := hle_R1
  obtain ⟨psa, psn, psc, pca, pcn, pcc, rfl⟩ := h_p.shape
  clear hn0 htot_p
  clear h_p hok_p hR0 hR1
  go_enter Tryd.func9, Tryd.ntmps9
  have hb0_0 := Below.refl w.heap.size w
  go_wp2_with fail
  have hb0_1 := hb0_0.alloc hb0_0.size (.cells #[.int .i64 p.1, .int .i64 p.2.1, .slice psa psn psc, .slice pca pcn pcc] 69)
  clear hb0_0
  have hal := (Below.refl w.heap.size w).alloc (Nat.le_refl _) (.cells #[.int .i64 p.1, .int .i64 p.2.1, .slice psa psn psc, .slice pca pcn pcc] 69)
  have hx_2 := box4_alloc w 69 (.int .i64 p.1) (.int .i64 p.2.1) (.slice psa psn psc) (.slice pca pcn pcc)
  have hbl_a_p := hx_2.lt
  have hsz_w1 := hal.size
  clear hal
  generalize (w.alloc (.cells #[.int .i64 p.1, .int .i64 p.2.1, .slice psa psn psc, .slice pca pcn pcc] 69)) = w1 at *
  refine (Z.out _ hb0_1).mono ?_
  rintro e w2 ⟨rfl, hstep⟩
  have hb0_3 := Below.step hb0_1 hb0_1.size hstep
  clear hb0_1
  have hx_4 := hx_2.below hstep hx_2.lt
  clear hx_2
  have hsz_w2 := hstep.size
  clear hstep
  clear Z
  obtain ⟨bc_5a, bc_5b, bc_5c, bc_5d⟩ := hx_4.cells
  have bc_5h := hx_4.heap
  have bc_5l := hx_4.lt
  go_wp2_with fail
  clear bc_5a bc_5b bc_5c bc_5d bc_5h bc_5l
  refine (GT_p.out _ hb0_3).mono ?_
  rintro e w3 ⟨sp, rfl, hnew, hstep⟩
  have hb0_6 := Below.step hb0_3 hb0_3.size hstep
  clear hb0_3
  have hx_7 := hx_4.below hstep hx_4.lt
  clear hx_4
  have hsz_w3 := hstep.size
  clear hstep
  have ho_8 := hnew
  clear hnew
  obtain ⟨spsa, spsn, spsc, spca, spcn, spcc, rfl⟩ := ho_8.shape
  obtain ⟨bc_9a, bc_9b, bc_9c, bc_9d⟩ := hx_7.cells
  have bc_9h := hx_7.heap
  have bc_9l := hx_7.lt
  go_wp2_with fail
  clear bc_9a bc_9b bc_9c bc_9d bc_9h bc_9l
  refine (GS.out _ _ hb0_6 (HC_p.out _ _ _ _ ho_8)).mono ?_
  rintro e w4 ⟨u0, u1, rfl, hu0, hu1, hapu, hstep⟩
  have hb0_10 := Below.step hb0_6 hb0_6.size hstep
  clear hb0_6
  have ho_11 := ho_8.same hstep.size (fun i _ h2 => hstep.block i (Nat.lt_of_lt_of_le h2 ho_8.hi))
  clear ho_8
  have hx_12 := hx_7.below hstep hx_7.lt
  clear hx_7
  have hsz_w4 := hstep.size
  clear hstep
  clear GS hapu
  clear ho_11
  obtain ⟨u0a, u0n, u0cap, rfl⟩ := hu0.shape
  have HU0 : Hid (∀ w_ : World, Below w4.heap.size w4 w_ → IntsAt w_ (.slice u0a u0n u0cap) R0) := fun w_ hb => (HN_R0.out _ _ _ _ hu0).below hb
  clear hu0
  obtain ⟨u1a, u1n, u1cap, rfl⟩ := hu1.shape
  have HU1 : Hid (∀ w_ : World, Below w4.heap.size w4 w_ → IntsAt w_ (.slice u1a u1n u1cap) R1) := fun w_ hb => (HN_R1.out _ _ _ _ hu1).below hb
  clear hu1
  have hbA_13 := Below.refl w4.heap.size w4
  obtain ⟨bc_14a, bc_14b, bc_14c, bc_14d⟩ := hx_12.cells
  have bc_14h := hx_12.heap
  have bc_14l := hx_12.lt
  go_wp2_with fail
  clear bc_14a bc_14b bc_14c bc_14d bc_14h bc_14l
  refine (GT_p.out _ hb0_10).mono ?_
  rintro e w5 ⟨xp, rfl, hnew, hstep⟩
  have hb0_15 := Below.step hb0_10 hb0_10.size hstep
  clear hb0_10
  have hbA_16 := Below.step hbA_13 hbA_13.size hstep
  clear hbA_13
  have hx_17 := hx_12.below hstep hx_12.lt
  clear hx_12
  have hsz_w5 := hstep.size
  clear hstep
  have ho_18 := hnew
  clear hnew
  obtain ⟨xpsa, xpsn, xpsc, xpca, xpcn, xpcc, rfl⟩ := ho_18.shape
  obtain ⟨bc_19a, bc_19b, bc_19c, bc_19d⟩ := hx_17.cells
  have bc_19h := hx_17.heap
  have bc_19l := hx_17.lt
  go_wp2_with fail
  clear bc_19a bc_19b bc_19c bc_19d bc_19h bc_19l
  have hb0_20 := hb0_15.alloc hb0_15.size (.cells #[.int .i64 p.1, .int .i64 p.2.1, .slice xpsa xpsn xpsc, .slice xpca xpcn xpcc] 27)
  clear hb0_15
  have hbA_21 := hbA_16.alloc hbA_16.size (.cells #[.int .i64 p.1, .int .i64 p.2.1, .slice xpsa xpsn xpsc, .slice xpca xpcn xpcc] 27)
  clear hbA_16
  have hal := (Below.refl w5.heap.size w5).alloc (Nat.le_refl _) (.cells #[.int .i64 p.1, .int .i64 p.2.1, .slice xpsa xpsn xpsc, .slice xpca xpcn xpcc] 27)
  have ho_22 := ho_18.same hal.size (fun i _ h2 => hal.block i (Nat.lt_of_lt_of_le h2 ho_18.hi))
  clear ho_18
  have hx_23 := hx_17.alloc (.cells #[.int .i64 p.1, .int .i64 p.2.1, .slice xpsa xpsn xpsc, .slice xpca xpcn xpcc] 27)
  clear hx_17
  have hx_24 := box4_alloc w5 27 (.int .i64 p.1) (.int .i64 p.2.1) (.slice xpsa xpsn xpsc) (.slice xpca xpcn xpcc)
  have hbl_xp := hx_24.lt
  have hsz_w6 := hal.size
  clear hal
  generalize (w5.alloc (.cells #[.int .i64 p.1, .int .i64 p.2.1, .slice xpsa xpsn xpsc, .slice xpca xpcn xpcc] 27)) = w6 at *
  refine (GI.out _ _ hb0_20 (HC_p.out _ _ _ _ ho_22)).mono ?_
  rintro e w7 ⟨y0, y1, rfl, hn0, hn1, hap_, hstep⟩
  have hb0_25 := Below.step hb0_20 hb0_20.size hstep
  clear hb0_20
  have hbA_26 := Below.step hbA_21 hbA_21.size hstep
  clear hbA_21
  have ho_27 := ho_22.same hstep.size (fun i _ h2 => hstep.block i (Nat.lt_of_lt_of_le h2 ho_22.hi))
  clear ho_22
  have hx_28 := hx_23.below hstep hx_23.lt
  clear hx_23
  have hx_29 := hx_24.below hstep hx_24.lt
  clear hx_24
  have hsz_w7 := hstep.size
  clear hstep
  have HAPy : Hid (Ap2 y0 y1) := hap_
  clear hap_
  have ho_30 := hn0
  clear hn0
  obtain ⟨y0a, y0n, y0cap, rfl⟩ := ho_30.shape
  have ho_31 := hn1
  clear hn1
  obtain ⟨y1a, y1n, y1cap, rfl⟩ := ho_31.shape
  obtain ⟨bc_32a, bc_32b, bc_32c, bc_32d⟩ := hx_28.cells
  have bc_32h := hx_28.heap
  have bc_32l := hx_28.lt
  obtain ⟨bc_33a, bc_33b, bc_33c, bc_33d⟩ := hx_29.cells
  have bc_33h := hx_29.heap
  have bc_33l := hx_29.lt
  go_wp2_with fail
  clear bc_32a bc_32b bc_32c bc_32d bc_32h bc_32l bc_33a bc_33b bc_33c bc_33d bc_33h bc_33l
  refine (GE_R0.out _ _ _ (HN_R0.out _ _ _ _ ho_30) (HU0.out _ hbA_26)).mono ?_
  rintro e w8 ⟨rfl, hstep⟩
  have hb0_34 := Below.step hb0_25 hb0_25.size hstep
  clear hb0_25
  have hbA_35 := Below.step hbA_26 hbA_26.size hstep
  clear hbA_26
  have ho_36 := ho_27.same hstep.size (fun i _ h2 => hstep.block i (Nat.lt_of_lt_of_le h2 ho_27.hi))
  clear ho_27
  have ho_37 := ho_30.same hstep.size (fun i _ h2 => hstep.block i (Nat.lt_of_lt_of_le h2 ho_30.hi))
  clear ho_30
  have ho_38 := ho_31.same hstep.size (fun i _ h2 => hstep.block i (Nat.lt_of_lt_of_le h2 ho_31.hi))
  clear ho_31
  have hx_39 := hx_28.below hstep hx_28.lt
  clear hx_28
  have hx_40 := hx_29.below hstep hx_29.lt
  clear hx_29
  have hsz_w8 := hstep.size
  clear hstep
  obtain ⟨bc_41a, bc_41b, bc_41c, bc_41d⟩ := hx_39.cells
  have bc_41h := hx_39.heap
  have bc_41l := hx_39.lt
  obtain ⟨bc_42a, bc_42b, bc_42c, bc_42d⟩ := hx_40.cells
  have bc_42h := hx_40.heap
  have bc_42l := hx_40.lt
  go_wp2_with fail
  clear bc_41a bc_41b bc_41c bc_41d bc_41h bc_41l bc_42a bc_42b bc_42c bc_42d bc_42h bc_42l
  refine (GE_R1.out _ _ _ (HN_R1.out _ _ _ _ ho_38) (HU1.out _ hbA_35)).mono ?_
  rintro e w9 ⟨rfl, hstep⟩
  have hb0_43 := Below.step hb0_34 hb0_34.size hstep
  clear hb0_34
  have hbA_44 := Below.step hbA_35 hbA_35.size hstep
  clear hbA_35
  have ho_45 := ho_36.same hstep.size (fun i _ h2 => hstep.block i (Nat.lt_of_lt_of_le h2 ho_36.hi))
  clear ho_36
  have ho_46 := ho_37.same hstep.size (fun i _ h2 => hstep.block i (Nat.lt_of_lt_of_le h2 ho_37.hi))
  clear ho_37
  have ho_47 := ho_38.same hstep.size (fun i _ h2 => hstep.block i (Nat.lt_of_lt_of_le h2 ho_38.hi))
  clear ho_38
  have hx_48 := hx_39.below hstep hx_39.lt
  clear hx_39
  have hx_49 := hx_40.below hstep hx_40.lt
  clear hx_40
  have hsz_w9 := hstep.size
  clear hstep
  obtain ⟨bc_50a, bc_50b, bc_50c, bc_50d⟩ := hx_48.cells
  have bc_50h := hx_48.heap
  have bc_50l := hx_48.lt
  obtain ⟨bc_51a, bc_51b, bc_51c, bc_51d⟩ := hx_49.cells
  have bc_51h := hx_49.heap
  have bc_51l := hx_49.lt
  go_wp2_with fail
  clear bc_50a bc_50b bc_50c bc_50d bc_50h bc_50l bc_51a bc_51b bc_51c bc_51d bc_51h bc_51l
  have HXA : Hid (∀ w_ : World, Below w9.heap.size w9 w_ → AtProg w_ (.agg #[.int .i64 p.1, .int .i64 p.2.1, .slice xpsa xpsn xpsc, .slice xpca xpcn xpcc]) p) := fun w_ hb => (HN_p.out _ _ _ _ ho_45).below hb
  have HH_a_p : Hid (∀ w_ : World, Below w9.heap.size w9 w_ → Box4 w_ (w.heap.size) 69 (.int .i64 p.1) (.int .i64 p.2.1) (.slice psa psn psc) (.slice pca pcn pcc)) := fun w_ hb => hx_48.below hb hx_48.lt
  have HH_xp : Hid (∀ w_ : World, Below w9.heap.size w9 w_ → Box4 w_ (w5.heap.size) 27 (.int .i64 p.1) (.int .i64 p.2.1) (.slice xpsa xpsn xpsc) (.slice xpca xpcn xpcc)) := fun w_ hb => hx_49.below hb hx_49.lt
  go_cut [60] from 56 to 60 (fun s wx => s = .bool false ∧ Hid (Below w9.heap.size w9 wx))
  case first =>
    obtain ⟨bc_52a, bc_52b, bc_52c, bc_52d⟩ := hx_48.cells
    have bc_52h := hx_48.heap
    have bc_52l := hx_48.lt
    obtain ⟨bc_53a, bc_53b, bc_53c, bc_53d⟩ := hx_49.cells
    have bc_53h := hx_49.heap
    have bc_53l := hx_49.lt
    have HB0 : Hid (Below w.heap.size w w9) := hb0_43
    clear hb0_43 hbA_44 ho_45 ho_46 ho_47 hx_48 hx_49
    go_region_with (first | (go_at_call 46; refine (GT_p.out _ (by first | exact HB0.out | exact HB0.out.drew | exact HB0.out.drew.drew | exact HB0.out.drew.drew.drew)).mono ?_; rintro e wn ⟨c_, rfl, hnew, hstep⟩; have HS : Hid (Below w9.heap.size w9 wn) := (by first | exact hstep | exact (Below.refl _ _).drew.trans hstep | exact (Below.refl _ _).drew.drew.trans hstep); have hcr := HN_p.out _ _ _ _ hnew; obtain ⟨zsa, zsn, zsc, zca, zcn, zcc, rfl⟩ := hcr.shape; have HC : Hid (AtProg wn (.agg #[.int .i64 p.1, .int .i64 p.2.1, .slice zsa zsn zsc, .slice zca zcn zcc]) p) := hcr; have yx := HH_xp.out _ HS.out; have yxh := yx.heap; obtain ⟨yx0, yx1, yx2, yx3⟩ := yx.cells; have yxl := yx.lt; clear hstep hnew hcr yx) | (go_at_call 48; refine (GE_p.out _ _ _ (HXA.out _ (by first | exact HS.out | exact HS.out.drew | exact HS.out.drew.drew | exact HS.out.drew.drew.drew)) (by first | exact HC.out | exact HC.out.below (Below.refl _ _).drew | exact HC.out.below (Below.refl _ _).drew.drew)).mono ?_; rintro e wm ⟨rfl, hstep⟩; have HS2 : Hid (Below w9.heap.size w9 wm) := (by first | exact HS.out.trans (hstep.mono HS.out.size) | exact HS.out.drew.trans (hstep.mono HS.out.size) | exact HS.out.drew.drew.trans (hstep.mono HS.out.size)); clear hstep))
    all_goals
      go_wp2_with fail
      go_meet
      case rel => exact ⟨rfl, by first | exact HS2 | exact HS2.out.drew | exact HS2.out.drew.drew⟩
  obtain ⟨rfl, HCUT⟩ := hcut
  have hstep := HCUT.out
  clear HCUT HXA HH_a_p HH_xp
  have hb0_54 := Below.step hb0_43 hb0_43.size hstep
  clear hb0_43
  have hbA_55 := Below.step hbA_44 hbA_44.size hstep
  clear hbA_44
  have ho_56 := ho_45.same hstep.size (fun i _ h2 => hstep.block i (Nat.lt_of_lt_of_le h2 ho_45.hi))
  clear ho_45
  have ho_57 := ho_46.same hstep.size (fun i _ h2 => hstep.block i (Nat.lt_of_lt_of_le h2 ho_46.hi))
  clear ho_46
  have ho_58 := ho_47.same hstep.size (fun i _ h2 => hstep.block i (Nat.lt_of_lt_of_le h2 ho_47.hi))
  clear ho_47
  have hx_59 := hx_48.below hstep hx_48.lt
  clear hx_48
  have hx_60 := hx_49.below hstep hx_49.lt
  clear hx_49
  have hsz_wc_61 := hstep.size
  clear hstep
  obtain ⟨bc_62a, bc_62b, bc_62c, bc_62d⟩ := hx_59.cells
  have bc_62h := hx_59.heap
  have bc_62l := hx_59.lt
  obtain ⟨bc_63a, bc_63b, bc_63c, bc_63d⟩ := hx_60.cells
  have bc_63h := hx_60.heap
  have bc_63l := hx_60.lt
  go_wp2_with fail
  clear bc_62a bc_62b bc_62c bc_62d bc_62h bc_62l bc_63a bc_63b bc_63c bc_63d bc_63h bc_63l
  refine (GM_p.out _ _ _ (1) _ (by omega) (by omega) ho_56).mono ?_
  rintro e w11 ⟨rfl, hmk, htc⟩
  have hb0_64 := Touch.below hb0_54 (by omega) hb0_54.size htc
  clear hb0_54
  have hbA_65 := Touch.below hbA_55 (by omega) hbA_55.size htc
  clear hbA_55
  have ho_66 := ho_57.same htc.size (fun i h1 h2 => htc.block i (Nat.lt_of_lt_of_le h2 ho_57.hi) (by omega))
  clear ho_57
  have ho_67 := ho_58.same htc.size (fun i h1 h2 => htc.block i (Nat.lt_of_lt_of_le h2 ho_58.hi) (by omega))
  clear ho_58
  have hx_68 : Box4 w11 (w.heap.size) 69 (.int .i64 p.1) (.int .i64 p.2.1) (.slice psa psn psc) (.slice pca pcn pcc) := ⟨by rw [htc.block _ hx_59.lt (by omega)]; exact hx_59.heap⟩
  clear hx_59
  have hx_69 : Box4 w11 (w5.heap.size) 27 (.int .i64 p.1) (.int .i64 p.2.1) (.slice xpsa xpsn xpsc) (.slice xpca xpcn xpcc) := ⟨by rw [htc.block _ hx_60.lt (by omega)]; exact hx_60.heap⟩
  clear hx_60
  have hsz_w11 := htc.size
  have ho_70 := hmk
  clear hmk htc ho_56
  clear ho_70
  obtain ⟨bc_71a, bc_71b, bc_71c, bc_71d⟩ := hx_68.cells
  have bc_71h := hx_68.heap
  have bc_71l := hx_68.lt
  obtain ⟨bc_72a, bc_72b, bc_72c, bc_72d⟩ := hx_69.cells
  have bc_72h := hx_69.heap
  have bc_72l := hx_69.lt
  go_wp2_with fail
  clear bc_71a bc_71b bc_71c bc_71d bc_71h bc_71l bc_72a bc_72b bc_72c bc_72d bc_72h bc_72l
  refine (GE_R0.out _ _ _ (HN_R0.out _ _ _ _ ho_66) (HU0.out _ hbA_65)).mono ?_
  rintro e w12 ⟨rfl, hstep⟩
  have hb0_73 := Below.step hb0_64 hb0_64.size hstep
  clear hb0_64
  have hbA_74 := Below.step hbA_65 hbA_65.size hstep
  clear hbA_65
  have ho_75 := ho_66.same hstep.size (fun i _ h2 => hstep.block i (Nat.lt_of_lt_of_le h2 ho_66.hi))
  clear ho_66
  have ho_76 := ho_67.same hstep.size (fun i _ h2 => hstep.block i (Nat.lt_of_lt_of_le h2 ho_67.hi))
  clear ho_67
  have hx_77 := hx_68.below hstep hx_68.lt
  clear hx_68
  have hx_78 := hx_69.below hstep hx_69.lt
  clear hx_69
  have hsz_w12 := hstep.size
  clear hstep
  obtain ⟨bc_79a, bc_79b, bc_79c, bc_79d⟩ := hx_77.cells
  have bc_79h := hx_77.heap
  have bc_79l := hx_77.lt
  obtain ⟨bc_80a, bc_80b, bc_80c, bc_80d⟩ := hx_78.cells
  have bc_80h := hx_78.heap
  have bc_80l := hx_78.lt
  go_wp2_with fail
  clear bc_79a bc_79b bc_79c bc_79d bc_79h bc_79l bc_80a bc_80b bc_80c bc_80d bc_80h bc_80l
  refine (GE_R1.out _ _ _ (HN_R1.out _ _ _ _ ho_76) (HU1.out _ hbA_74)).mono ?_
  rintro e w13 ⟨rfl, hstep⟩
  have hb0_81 := Below.step hb0_73 hb0_73.size hstep
  clear hb0_73
  have hbA_82 := Below.step hbA_74 hbA_74.size hstep
  clear hbA_74
  have ho_83 := ho_75.same hstep.size (fun i _ h2 => hstep.block i (Nat.lt_of_lt_of_le h2 ho_75.hi))
  clear ho_75
  have ho_84 := ho_76.same hstep.size (fun i _ h2 => hstep.block i (Nat.lt_of_lt_of_le h2 ho_76.hi))
  clear ho_76
  have hx_85 := hx_77.below hstep hx_77.lt
  clear hx_77
  have hx_86 := hx_78.below hstep hx_78.lt
  clear hx_78
  have hsz_w13 := hstep.size
  clear hstep
  obtain ⟨bc_87a, bc_87b, bc_87c, bc_87d⟩ := hx_85.cells
  have bc_87h := hx_85.heap
  have bc_87l := hx_85.lt
  obtain ⟨bc_88a, bc_88b, bc_88c, bc_88d⟩ := hx_86.cells
  have bc_88h := hx_86.heap
  have bc_88l := hx_86.lt
  go_wp2_with fail
  clear bc_87a bc_87b bc_87c bc_87d bc_87h bc_87l bc_88a bc_88b bc_88c bc_88d bc_88h bc_88l
  refine (GM2_R0.out _ _ _ _ (1) _ (by omega) (by omega) ho_83 ho_84 HAPy.out).mono ?_
  rintro e w14 ⟨rfl, hmk, hoth, htc⟩
  have hb0_89 := Touch.below hb0_81 (by omega) hb0_81.size htc
  clear hb0_81
  have hbA_90 := Touch.below hbA_82 (by omega) hbA_82.size htc
  clear hbA_82
  have ho_91 := hoth
  clear hoth ho_84
  have hx_92 : Box4 w14 (w.heap.size) 69 (.int .i64 p.1) (.int .i64 p.2.1) (.slice psa psn psc) (.slice pca pcn pcc) := ⟨by rw [htc.block _ hx_85.lt (by omega)]; exact hx_85.heap⟩
  clear hx_85
  have hx_93 : Box4 w14 (w5.heap.size) 27 (.int .i64 p.1) (.int .i64 p.2.1) (.slice xpsa xpsn xpsc) (.slice xpca xpcn xpcc) := ⟨by rw [htc.block _ hx_86.lt (by omega)]; exact hx_86.heap⟩
  clear hx_86
  have hsz_w14 := htc.size
  have ho_94 := hmk
  clear hmk htc ho_83
  obtain ⟨bc_95a, bc_95b, bc_95c, bc_95d⟩ := hx_92.cells
  have bc_95h := hx_92.heap
  have bc_95l := hx_92.lt
  obtain ⟨bc_96a, bc_96b, bc_96c, bc_96d⟩ := hx_93.cells
  have bc_96h := hx_93.heap
  have bc_96l := hx_93.lt
  go_wp2_with fail
  clear bc_95a bc_95b bc_95c bc_95d bc_95h bc_95l bc_96a bc_96b bc_96c bc_96d bc_96h bc_96l
  refine (GM2_R1.out _ _ _ _ (1 + LR0) _ _ (by omega) (by omega) ho_94 ho_91 HAPy.out).mono ?_
  rintro e w15 ⟨rfl, hmk, hoth, htc⟩
  have hb0_97 := Touch.below hb0_89 (by omega) hb0_89.size htc
  clear hb0_89
  have hbA_98 := Touch.below hbA_90 (by omega) hbA_90.size htc
  clear hbA_90
  have ho_99 := hoth
  clear hoth ho_94
  have hx_100 : Box4 w15 (w.heap.size) 69 (.int .i64 p.1) (.int .i64 p.2.1) (.slice psa psn psc) (.slice pca pcn pcc) := ⟨by rw [htc.block _ hx_92.lt (by omega)]; exact hx_92.heap⟩
  clear hx_92
  have hx_101 : Box4 w15 (w5.heap.size) 27 (.int .i64 p.1) (.int .i64 p.2.1) (.slice xpsa xpsn xpsc) (.slice xpca xpcn xpcc) := ⟨by rw [htc.block _ hx_93.lt (by omega)]; exact hx_93.heap⟩
  clear hx_93
  have hsz_w15 := htc.size
  have ho_102 := hmk
  clear hmk htc ho_91
  obtain ⟨bc_103a, bc_103b, bc_103c, bc_103d⟩ := hx_100.cells
  have bc_103h := hx_100.heap
  have bc_103l := hx_100.lt
  obtain ⟨bc_104a, bc_104b, bc_104c, bc_104d⟩ := hx_101.cells
  have bc_104h := hx_101.heap
  have bc_104l := hx_101.lt
  go_wp2_with fail
  clear bc_103a bc_103b bc_103c bc_103d bc_103h bc_103l bc_104a bc_104b bc_104c bc_104d bc_104h bc_104l
  refine (GH_R0.out _ _ _ (1) _ (by omega) (by omega) ho_99).mono ?_
  rintro e w16 ⟨rfl, hstep⟩
  have hb0_105 := Below.step hb0_97 hb0_97.size hstep
  clear hb0_97
  have hbA_106 := Below.step hbA_98 hbA_98.size hstep
  clear hbA_98
  have ho_107 := ho_99.same hstep.size (fun i _ h2 => hstep.block i (Nat.lt_of_lt_of_le h2 ho_99.hi))
  clear ho_99
  have ho_108 := ho_102.same hstep.size (fun i _ h2 => hstep.block i (Nat.lt_of_lt_of_le h2 ho_102.hi))
  clear ho_102
  have hx_109 := hx_100.below hstep hx_100.lt
  clear hx_100
  have hx_110 := hx_101.below hstep hx_101.lt
  clear hx_101
  have hsz_w16 := hstep.size
  clear hstep
  obtain ⟨bc_111a, bc_111b, bc_111c, bc_111d⟩ := hx_109.cells
  have bc_111h := hx_109.heap
  have bc_111l := hx_109.lt
  obtain ⟨bc_112a, bc_112b, bc_112c, bc_112d⟩ := hx_110.cells
  have bc_112h := hx_110.heap
  have bc_112l := hx_110.lt
  go_wp2_with fail
  clear bc_111a bc_111b bc_111c bc_111d bc_111h bc_111l bc_112a bc_112b bc_112c bc_112d bc_112h bc_112l
  refine (GH_R1.out _ _ _ (1 + LR0) _ (by omega) (by omega) ho_108).mono ?_
  rintro e w17 ⟨rfl, hstep⟩
  have hb0_113 := Below.step hb0_105 hb0_105.size hstep
  clear hb0_105
  have hbA_114 := Below.step hbA_106 hbA_106.size hstep
  clear hbA_106
  have ho_115 := ho_107.same hstep.size (fun i _ h2 => hstep.block i (Nat.lt_of_lt_of_le h2 ho_107.hi))
  clear ho_107
  have ho_116 := ho_108.same hstep.size (fun i _ h2 => hstep.block i (Nat.lt_of_lt_of_le h2 ho_108.hi))
  clear ho_108
  have hx_117 := hx_109.below hstep hx_109.lt
  clear hx_109
  have hx_118 := hx_110.below hstep hx_110.lt
  clear hx_110
  have hsz_w17 := hstep.size
  clear hstep
  obtain ⟨bc_119a, bc_119b, bc_119c, bc_119d⟩ := hx_117.cells
  have bc_119h := hx_117.heap
  have bc_119l := hx_117.lt
  obtain ⟨bc_120a, bc_120b, bc_120c, bc_120d⟩ := hx_118.cells
  have bc_120h := hx_118.heap
  have bc_120l := hx_118.lt
  go_wp2_with fail
  clear bc_119a bc_119b bc_119c bc_119d bc_119h bc_119l bc_120a bc_120b bc_120c bc_120d bc_120h bc_120l
  refine (GT_p.out _ hb0_113).mono ?_
  rintro e w18 ⟨tp, rfl, hnew, hstep⟩
  have hb0_121 := Below.step hb0_113 hb0_113.size hstep
  clear hb0_113
  have hbA_122 := Below.step hbA_114 hbA_114.size hstep
  clear hbA_114
  have ho_123 := ho_115.same hstep.size (fun i _ h2 => hstep.block i (Nat.lt_of_lt_of_le h2 ho_115.hi))
  clear ho_115
  have ho_124 := ho_116.same hstep.size (fun i _ h2 => hstep.block i (Nat.lt_of_lt_of_le h2 ho_116.hi))
  clear ho_116
  have hx_125 := hx_117.below hstep hx_117.lt
  clear hx_117
  have hx_126 := hx_118.below hstep hx_118.lt
  clear hx_118
  have hsz_w18 := hstep.size
  clear hstep
  have ho_127 := hnew
  clear hnew
  obtain ⟨tpsa, tpsn, tpsc, tpca, tpcn, tpcc, rfl⟩ := ho_127.shape
  obtain ⟨bc_128a, bc_128b, bc_128c, bc_128d⟩ := hx_125.cells
  have bc_128h := hx_125.heap
  have bc_128l := hx_125.lt
  obtain ⟨bc_129a, bc_129b, bc_129c, bc_129d⟩ := hx_126.cells
  have bc_129h := hx_126.heap
  have bc_129l := hx_126.lt
  go_wp2_with fail
  clear bc_128a bc_128b bc_128c bc_128d bc_128h bc_128l bc_129a bc_129b bc_129c bc_129d bc_129h bc_129l
  refine (GI.out _ _ hb0_121 (HC_p.out _ _ _ _ ho_127)).mono ?_
  rintro e w19 ⟨h0, h1, rfl, hn0, hn1, hap_, hstep⟩
  have hb0_130 := Below.step hb0_121 hb0_121.size hstep
  clear hb0_121
  have hbA_131 := Below.step hbA_122 hbA_122.size hstep
  clear hbA_122
  have ho_132 := ho_123.same hstep.size (fun i _ h2 => hstep.block i (Nat.lt_of_lt_of_le h2 ho_123.hi))
  clear ho_123
  have ho_133 := ho_124.same hstep.size (fun i _ h2 => hstep.block i (Nat.lt_of_lt_of_le h2 ho_124.hi))
  clear ho_124
  have ho_134 := ho_127.same hstep.size (fun i _ h2 => hstep.block i (Nat.lt_of_lt_of_le h2 ho_127.hi))
  clear ho_127
  have hx_135 := hx_125.below hstep hx_125.lt
  clear hx_125
  have hx_136 := hx_126.below hstep hx_126.lt
  clear hx_126
  have hsz_w19 := hstep.size
  clear hstep
  have HAPh : Hid (Ap2 h0 h1) := hap_
  clear hap_
  have ho_137 := hn0
  clear hn0
  obtain ⟨h0a, h0n, h0cap, rfl⟩ := ho_137.shape
  have ho_138 := hn1
  clear hn1
  obtain ⟨h1a, h1n, h1cap, rfl⟩ := ho_138.shape
  clear ho_134
  obtain ⟨bc_139a, bc_139b, bc_139c, bc_139d⟩ := hx_135.cells
  have bc_139h := hx_135.heap
  have bc_139l := hx_135.lt
  obtain ⟨bc_140a, bc_140b, bc_140c, bc_140d⟩ := hx_136.cells
  have bc_140h := hx_136.heap
  have bc_140l := hx_136.lt
  go_wp2_with fail
  clear bc_139a bc_139b bc_139c bc_139d bc_139h bc_139l bc_140a bc_140b bc_140c bc_140d bc_140h bc_140l
  refine (GE_R0.out _ _ _ (HN_R0.out _ _ _ _ ho_137) (HU0.out _ hbA_131)).mono ?_
  rintro e w20 ⟨rfl, hstep⟩
  have hb0_141 := Below.step hb0_130 hb0_130.size hstep
  clear hb0_130
  have hbA_142 := Below.step hbA_131 hbA_131.size hstep
  clear hbA_131
  have ho_143 := ho_132.same hstep.size (fun i _ h2 => hstep.block i (Nat.lt_of_lt_of_le h2 ho_132.hi))
  clear ho_132
  have ho_144 := ho_133.same hstep.size (fun i _ h2 => hstep.block i (Nat.lt_of_lt_of_le h2 ho_133.hi))
  clear ho_133
  have ho_145 := ho_137.same hstep.size (fun i _ h2 => hstep.block i (Nat.lt_of_lt_of_le h2 ho_137.hi))
  clear ho_137
  have ho_146 := ho_138.same hstep.size (fun i _ h2 => hstep.block i (Nat.lt_of_lt_of_le h2 ho_138.hi))
  clear ho_138
  have hx_147 := hx_135.below hstep hx_135.lt
  clear hx_135
  have hx_148 := hx_136.below hstep hx_136.lt
  clear hx_136
  have hsz_w20 := hstep.size
  clear hstep
  obtain ⟨bc_149a, bc_149b, bc_149c, bc_149d⟩ := hx_147.cells
  have bc_149h := hx_147.heap
  have bc_149l := hx_147.lt
  obtain ⟨bc_150a, bc_150b, bc_150c, bc_150d⟩ := hx_148.cells
  have bc_150h := hx_148.heap
  have bc_150l := hx_148.lt
  go_wp2_with fail
  clear bc_149a bc_149b bc_149c bc_149d bc_149h bc_149l bc_150a bc_150b bc_150c bc_150d bc_150h bc_150l
  refine (GE_R1.out _ _ _ (HN_R1.out _ _ _ _ ho_146) (HU1.out _ hbA_142)).mono ?_
  rintro e w21 ⟨rfl, hstep⟩
  have hb0_151 := Below.step hb0_141 hb0_141.size hstep
  clear hb0_141
  have hbA_152 := Below.step hbA_142 hbA_142.size hstep
  clear hbA_142
  have ho_153 := ho_143.same hstep.size (fun i _ h2 => hstep.block i (Nat.lt_of_lt_of_le h2 ho_143.hi))
  clear ho_143
  have ho_154 := ho_144.same hstep.size (fun i _ h2 => hstep.block i (Nat.lt_of_lt_of_le h2 ho_144.hi))
  clear ho_144
  have ho_155 := ho_145.same hstep.size (fun i _ h2 => hstep.block i (Nat.lt_of_lt_of_le h2 ho_145.hi))
  clear ho_145
  have ho_156 := ho_146.same hstep.size (fun i _ h2 => hstep.block i (Nat.lt_of_lt_of_le h2 ho_146.hi))
  clear ho_146
  have hx_157 := hx_147.below hstep hx_147.lt
  clear hx_147
  have hx_158 := hx_148.below hstep hx_148.lt
  clear hx_148
  have hsz_w21 := hstep.size
  clear hstep
  clear ho_155
  clear ho_156
  obtain ⟨bc_159a, bc_159b, bc_159c, bc_159d⟩ := hx_157.cells
  have bc_159h := hx_157.heap
  have bc_159l := hx_157.lt
  obtain ⟨bc_160a, bc_160b, bc_160c, bc_160d⟩ := hx_158.cells
  have bc_160h := hx_158.heap
  have bc_160l := hx_158.lt
  go_wp2_with fail
  clear bc_159a bc_159b bc_159c bc_159d bc_159h bc_159l bc_160a bc_160b bc_160c bc_160d bc_160h bc_160l
  refine (GH_R0.out _ _ _ (1) _ (by omega) (by omega) ho_153).mono ?_
  rintro e w22 ⟨rfl, hstep⟩
  have hb0_161 := Below.step hb0_151 hb0_151.size hstep
  clear hb0_151
  have hbA_162 := Below.step hbA_152 hbA_152.size hstep
  clear hbA_152
  have ho_163 := ho_153.same hstep.size (fun i _ h2 => hstep.block i (Nat.lt_of_lt_of_le h2 ho_153.hi))
  clear ho_153
  have ho_164 := ho_154.same hstep.size (fun i _ h2 => hstep.block i (Nat.lt_of_lt_of_le h2 ho_154.hi))
  clear ho_154
  have hx_165 := hx_157.below hstep hx_157.lt
  clear hx_157
  have hx_166 := hx_158.below hstep hx_158.lt
  clear hx_158
  have hsz_w22 := hstep.size
  clear hstep
  obtain ⟨bc_167a, bc_167b, bc_167c, bc_167d⟩ := hx_165.cells
  have bc_167h := hx_165.heap
  have bc_167l := hx_165.lt
  obtain ⟨bc_168a, bc_168b, bc_168c, bc_168d⟩ := hx_166.cells
  have bc_168h := hx_166.heap
  have bc_168l := hx_166.lt
  go_wp2_with fail
  clear bc_167a bc_167b bc_167c bc_167d bc_167h bc_167l bc_168a bc_168b bc_168c bc_168d bc_168h bc_168l
  refine (GH_R1.out _ _ _ (1 + LR0) _ (by omega) (by omega) ho_164).mono ?_
  rintro e w23 ⟨rfl, hstep⟩
  have hb0_169 := Below.step hb0_161 hb0_161.size hstep
  clear hb0_161
  have hbA_170 := Below.step hbA_162 hbA_162.size hstep
  clear hbA_162
  have ho_171 := ho_163.same hstep.size (fun i _ h2 => hstep.block i (Nat.lt_of_lt_of_le h2 ho_163.hi))
  clear ho_163
  have ho_172 := ho_164.same hstep.size (fun i _ h2 => hstep.block i (Nat.lt_of_lt_of_le h2 ho_164.hi))
  clear ho_164
  have hx_173 := hx_165.below hstep hx_165.lt
  clear hx_165
  have hx_174 := hx_166.below hstep hx_166.lt
  clear hx_166
  have hsz_w23 := hstep.size
  clear hstep
  have HB : Hid (Below w.heap.size w w23) := hb0_169
  clear ho_171
  clear ho_172
  obtain ⟨bc_175a, bc_175b, bc_175c, bc_175d⟩ := hx_173.cells
  have bc_175h := hx_173.heap
  have bc_175l := hx_173.lt
  obtain ⟨bc_176a, bc_176b, bc_176c, bc_176d⟩ := hx_174.cells
  have bc_176h := hx_174.heap
  have bc_176l := hx_174.lt
  go_wp2_with fail
  go_ret
  exact ⟨rfl, HB.out⟩
set_option maxRecDepth 100000 in
set_option maxHeartbeats 2000000 in
theorem touchedBy_big0 (p : Pg) (pv : Value) (n : Int)  (hz : 1048576 < sPg p) (w : World) (h_p : AtProg w pv p) :
    Calls Tryd.prog 9 #[pv, .int .i64 n] w fun e w' => e = .returned (.bool true) ∧ Below w.heap.size w w' := by
  have Z : Hid (∀ w1 : World, Below w.heap.size w w1 → Calls Tryd.prog 45 #[pv, .int .i64 1048576] w1 fun e w' => e = .returned (.int .i64 (-1)) ∧ Below w1.heap.size w1 w') := fun w1 hb => szProgram_big pv p hz w1 (h_p.below hb)
  obtain ⟨psa, psn, psc, pca, pcn, pcc, rfl⟩ := h_p.shape
  clear hz
  clear h_p
  have HB0 : Hid (Below w.heap.size w (w.alloc (.cells #[.int .i64 p.1, .int .i64 p.2.1, .slice psa psn psc, .slice pca pcn pcc] 69))) := (Below.refl _ _).alloc (Nat.le_refl _) _
  go_enter Tryd.func9, Tryd.ntmps9
  go_wp2_with fail
  refine (Z.out _ HB0.out).mono ?_
  rintro e w1 ⟨rfl, hstep⟩
  have HB1 : Hid (Below w.heap.size w w1) := Below.step HB0.out HB0.out.size hstep
  clear hstep Z
  go_wp2_with fail
  go_ret
  exact ⟨rfl, HB1.out⟩
theorem touchedBy_law (p : Pg) (pv : Value) (n : Int) (hf_n : Fit n) (R0 : List Int) (R1 : List Int) (R2 : Bool) (hR0 : PgOk p → sPg p ≤ 1048576 → R0.length ≤ 1048576) (hR1 : PgOk p → sPg p ≤ 1048576 → R1.length ≤ 1048576) (w : World) (h_p : AtProg w pv p) (GS0 : PgOk p → sPg p ≤ 1048576 → ∀ (p1 : Value) (w1 : World), Below w.heap.size w w1 → AtProg w1 p1 p → Calls Tryd.prog 34 #[p1, .int .i64 n] w1 fun e w' => ∃ r0, ∃ r1, e = .returned (.tuple #[r0, r1, .bool R2]) ∧ OwnIS w' w1.heap.size w'.heap.size r0 R0 ∧ OwnIS w' w1.heap.size w'.heap.size r1 R1 ∧ Ap2 r0 r1 ∧ Below w1.heap.size w1 w') (GI0 : PgOk p → sPg p ≤ 1048576 → ∀ (p1 : Value) (w1 : World), Below w.heap.size w w1 → AtProg w1 p1 p → Calls Tryd.prog 23 #[p1, .int .i64 n] w1 fun e w' => ∃ r0, ∃ r1, e = .returned (.tuple #[r0, r1, .bool R2]) ∧ OwnIS w' w1.heap.size w'.heap.size r0 R0 ∧ OwnIS w' w1.heap.size w'.heap.size r1 R1 ∧ Ap2 r0 r1 ∧ Below w1.heap.size w1 w') :
    Calls Tryd.prog 9 #[pv, .int .i64 n] w fun e w' => e = .returned (.bool true) ∧ Below w.heap.size w w' := by
  by_cases hs_p : sPg p ≤ 1048576
  case neg => exact touchedBy_big0 p pv n  (by omega) w h_p
  have hok_p : PgOk p := h_p.ok (by omega)
  exact touchedBy_small p pv n hf_n R0 R1 R2 (hR0 hok_p hs_p) (hR1 hok_p hs_p) hok_p hs_p w h_p (GS0 hok_p hs_p) (GI0 hok_p hs_p)
end Go.Proofs.YtjbolpfilgkbfaaDoor
