/-
  The walk of the exact law of Starts, out of what the model's and the program's function do.
-/
import Derived.Test.YtmhpnkfibecnmaaDoorKS11
import Derived.Test.YtmhpnkfibecnmaaDoorOwn5
import Derived.Test.YtmhpnkfibecnmaaDoorOwn3
import Derived.Test.YtmhpnkfibecnmaaDoorStrong
namespace Go.Proofs.YtmhpnkfibecnmaaDoor
open Go Go.RowKit
open M
set_option linter.unusedVariables false

set_option maxRecDepth 100000 in
set_option maxHeartbeats 8000000 in
theorem starts_small (p : Pg) (pv : Value) (R0 : List Int) (R1 : Bool) (hR0 : R0.length ≤ 1048576) (hok_p : PgOk p) (htot_p : sPg p ≤ 1048576) (w : World) (h_p : AtProg w pv p) (GS0 : ∀ (p1 : Value) (w1 : World), Below w.heap.size w w1 → AtProg w1 p1 p → Calls Tryd.prog 40 #[p1] w1 fun e w' => ∃ r0, e = .returned (.tuple #[r0, .bool R1]) ∧ OwnIS w' w1.heap.size w'.heap.size r0 R0 ∧ Below w1.heap.size w1 w') (GI0 : ∀ (p1 : Value) (w1 : World), Below w.heap.size w w1 → AtProg w1 p1 p → Calls Tryd.prog 42 #[p1] w1 fun e w' => ∃ r0, e = .returned (.tuple #[r0, .bool R1]) ∧ OwnIS w' w1.heap.size w'.heap.size r0 R0 ∧ Below w1.heap.size w1 w') :
    Calls Tryd.prog 6 #[pv] w fun e w' => e = .returned (.bool true) ∧ Below w.heap.size w w' := by
  have GS : Hid (∀ (p1 : Value) (w1 : World), Below w.heap.size w w1 → AtProg w1 p1 p → Calls Tryd.prog 40 #[p1] w1 fun e w' => ∃ r0, e = .returned (.tuple #[r0, .bool R1]) ∧ OwnIS w' w1.heap.size w'.heap.size r0 R0 ∧ Below w1.heap.size w1 w') := GS0
  have GI : Hid (∀ (p1 : Value) (w1 : World), Below w.heap.size w w1 → AtProg w1 p1 p → Calls Tryd.prog 42 #[p1] w1 fun e w' => ∃ r0, e = .returned (.tuple #[r0, .bool R1]) ∧ OwnIS w' w1.heap.size w'.heap.size r0 R0 ∧ Below w1.heap.size w1 w') := GI0
  clear GS0 GI0
  have Z : Hid (∀ w1 : World, Below w.heap.size w w1 → Calls Tryd.prog 39 #[pv, .int .i64 1048576] w1 fun e w' => e = .returned (.int .i64 (1048576 - (sPg p : Int))) ∧ Below w1.heap.size w1 w') := fun w1 hb => szProgram_small pv p htot_p w1 (h_p.below hb)
  obtain ⟨n0, hn0⟩ : ∃ n0 : Int, (1048576 - (sPg p : Int)) = n0 := ⟨_, rfl⟩
  have hn1 : 0 ≤ n0 := by omega
  rw [hn0] at Z
  have GT_p : Hid (∀ w1 : World, Below w.heap.size w w1 → Calls Tryd.prog 41 #[pv] w1 fun e w' => ∃ v', e = .returned v' ∧ OwnProg w' w1.heap.size w'.heap.size v' p ∧ Below w1.heap.size w1 w') := fun w1 hb => toProgram_any pv p hok_p w1 (h_p.below hb)
  have GE_p : Hid (∀ (u v : Value) (w1 : World), AtProg w1 u p → AtProg w1 v p → Calls Tryd.prog 44 #[u, v] w1 fun e w' => e = .returned (.bool true) ∧ Below w1.heap.size w1 w') := fun u v w1 h1 h2 => eqProgram_same u v p w1 h1 h2
  have HN_p : Hid (∀ (w1 : World) (lo hi : Nat) (v1 : Value), OwnProg w1 lo hi v1 p → AtProg w1 v1 p) := fun w1 lo hi v1 ho => ho.reads hok_p
  have HC_p : Hid (∀ (w1 : World) (lo hi : Nat) (v1 : Value), OwnProg w1 lo hi v1 p → AtProg w1 v1 p) := fun w1 lo hi v1 ho => ho.hands hok_p
  have GE_R0 : Hid (∀ (u v : Value) (w1 : World), IntsAt w1 u R0 → IntsAt w1 v R0 → Calls Tryd.prog 43 #[u, v] w1 fun e w' => e = .returned (.bool true) ∧ Below w1.heap.size w1 w') := fun u v w1 h1 h2 => by
    have g := eqIntS_any u v R0 R0 w1 h1 h2
    rw [decide_eq_true rfl] at g
    exact g
  have HN_R0 : Hid (∀ (w1 : World) (lo hi : Nat) (v1 : Value), OwnIS w1 lo hi v1 R0 → IntsAt w1 v1 R0) := fun w1 lo hi v1 ho => ho.reads hR0
  have GM_p : Hid (∀ (v : Value) (lo hi : Nat) (k : Int) (w1 : World), 0 ≤ k → k ≤ 100000000000 → OwnProg w1 lo hi v p → Calls Tryd.prog 45 #[v, .int .i64 k] w1 fun e w' => e = .returned (.int .i64 (k + (lenPg p : Int))) ∧ MarkProg w' lo hi v p k ∧ Touch lo hi w1 w') := fun v lo hi k w1 h0 h1 ho => markProgram_any v p lo hi k htot_p h0 h1 w1 ho
  have hle_p : 0 ≤ (lenPg p : Int) ∧ (lenPg p : Int) ≤ 4194304 := by have := lenPg_le p; omega
  obtain ⟨Lp, hLp⟩ : ∃ L : Int, (lenPg p : Int) = L := ⟨_, rfl⟩
  rw [hLp] at GM_p hle_p
  clear hLp
  obtain ⟨hle0_p, hle1_p⟩ := hle_p
  have GM_R0 : Hid (∀ (v : Value) (lo hi : Nat) (k : Int) (w1 : World), 0 ≤ k → k ≤ 100000000000 → OwnIS w1 lo hi v R0 → Calls Tryd.prog 46 #[v, .int .i64 k] w1 fun e w' => e = .returned (.int .i64 (k + (R0.length : Int))) ∧ MarkIS w' lo hi v R0 k ∧ Touch lo hi w1 w') := fun v lo hi k w1 h0 h1 ho => markIS_any v R0 lo hi k hR0 h0 h1 w1 ho
  have GH_R0 : Hid (∀ (v : Value) (lo hi : Nat) (k : Int) (w1 : World), 0 ≤ k → k ≤ 100000000000 → MarkIS w1 lo hi v R0 k → Calls Tryd.prog 47 #[v, .int .i64 k] w1 fun e w' => e = .returned (.int .i64 (k + (R0.length : Int))) ∧ Below w1.heap.size w1 w') := fun v lo hi k w1 h0 h1 ho => heldIS_any v R0 lo hi k hR0 h0 h1 w1 ho
  have hle_R0 : 0 ≤ (R0.length : Int) ∧ (R0.length : Int) ≤ 4194304 := by omega
  obtain ⟨LR0, hLR0⟩ : ∃ L : Int, (R0.length : Int) = L := ⟨_, rfl⟩
  rw [hLR0] at GM_R0 hle_R0 GH_R0
  clear hLR0
  obtain ⟨hle0_R0, hle1_R0⟩ := hle_R0
  obtain ⟨psa, psn, psc, pca, pcn, pcc, rfl⟩ := h_p.shape
  clear hn0 htot_p
  clear h_p hok_p hR0
  go_enter Tryd.func6, Tryd.ntmps6
  have hb0_0 := Below.refl w.heap.size w
  go_wp2_with fail
  have hb0_1 := hb0_0.alloc hb0_0.size (.cells #[.int .i64 p.1, .int .i64 p.2.1, .slice psa psn psc, .slice pca pcn pcc] 69)
  clear hb0_0
  have hal := (Below.refl w.heap.size w).alloc (Nat.le_refl _) (.cells #[.int .i64 p.1, .int .i64 p.2.1, .slice psa psn psc, .slice pca pcn pcc] 69)
  have hx_2 := box4_alloc w 69 (.int .i64 p.1) (.int .i64 p.2.1) (.slice psa psn psc) (.slice pca pcn pcc)
  have hbl_a_p := hx_2.lt
  have hsz_w1 := hal.size
  clear hal
  generalize (w.alloc (.cells #[.int .i64 p.1, .int .i64 p.2.1, .slice psa psn psc, .slice pca pcn pcc] 69)) = w1 at *
  refine (Z.out _ hb0_1).mono ?_
  rintro e w2 ⟨rfl, hstep⟩
  have hb0_3 := Below.step hb0_1 hb0_1.size hstep
  clear hb0_1
  have hx_4 := hx_2.below hstep hx_2.lt
  clear hx_2
  have hsz_w2 := hstep.size
  clear hstep
  clear Z
  obtain ⟨bc_5a, bc_5b, bc_5c, bc_5d⟩ := hx_4.cells
  have bc_5h := hx_4.heap
  have bc_5l := hx_4.lt
  go_wp2_with fail
  clear bc_5a bc_5b bc_5c bc_5d bc_5h bc_5l
  refine (GT_p.out _ hb0_3).mono ?_
  rintro e w3 ⟨sp, rfl, hnew, hstep⟩
  have hb0_6 := Below.step hb0_3 hb0_3.size hstep
  clear hb0_3
  have hx_7 := hx_4.below hstep hx_4.lt
  clear hx_4
  have hsz_w3 := hstep.size
  clear hstep
  have ho_8 := hnew
  clear hnew
  obtain ⟨spsa, spsn, spsc, spca, spcn, spcc, rfl⟩ := ho_8.shape
  obtain ⟨bc_9a, bc_9b, bc_9c, bc_9d⟩ := hx_7.cells
  have bc_9h := hx_7.heap
  have bc_9l := hx_7.lt
  go_wp2_with fail
  clear bc_9a bc_9b bc_9c bc_9d bc_9h bc_9l
  refine (GS.out _ _ hb0_6 (HC_p.out _ _ _ _ ho_8)).mono ?_
  rintro e w4 ⟨u0, rfl, hu0, hstep⟩
  have hb0_10 := Below.step hb0_6 hb0_6.size hstep
  clear hb0_6
  have ho_11 := ho_8.same hstep.size (fun i _ h2 => hstep.block i (Nat.lt_of_lt_of_le h2 ho_8.hi))
  clear ho_8
  have hx_12 := hx_7.below hstep hx_7.lt
  clear hx_7
  have hsz_w4 := hstep.size
  clear hstep
  clear GS
  clear ho_11
  obtain ⟨u0a, u0n, u0cap, rfl⟩ := hu0.shape
  have HU0 : Hid (∀ w_ : World, Below w4.heap.size w4 w_ → IntsAt w_ (.slice u0a u0n u0cap) R0) := fun w_ hb => (HN_R0.out _ _ _ _ hu0).below hb
  clear hu0
  have hbA_13 := Below.refl w4.heap.size w4
  obtain ⟨bc_14a, bc_14b, bc_14c, bc_14d⟩ := hx_12.cells
  have bc_14h := hx_12.heap
  have bc_14l := hx_12.lt
  go_wp2_with fail
  clear bc_14a bc_14b bc_14c bc_14d bc_14h bc_14l
  refine (GT_p.out _ hb0_10).mono ?_
  rintro e w5 ⟨xp, rfl, hnew, hstep⟩
  have hb0_15 := Below.step hb0_10 hb0_10.size hstep
  clear hb0_10
  have hbA_16 := Below.step hbA_13 hbA_13.size hstep
  clear hbA_13
  have hx_17 := hx_12.below hstep hx_12.lt
  clear hx_12
  have hsz_w5 := hstep.size
  clear hstep
  have ho_18 := hnew
  clear hnew
  obtain ⟨xpsa, xpsn, xpsc, xpca, xpcn, xpcc, rfl⟩ := ho_18.shape
  obtain ⟨bc_19a, bc_19b, bc_19c, bc_19d⟩ := hx_17.cells
  have bc_19h := hx_17.heap
  have bc_19l := hx_17.lt
  go_wp2_with fail
  clear bc_19a bc_19b bc_19c bc_19d bc_19h bc_19l
  have hb0_20 := hb0_15.alloc hb0_15.size (.cells #[.int .i64 p.1, .int .i64 p.2.1, .slice xpsa xpsn xpsc, .slice xpca xpcn xpcc] 27)
  clear hb0_15
  have hbA_21 := hbA_16.alloc hbA_16.size (.cells #[.int .i64 p.1, .int .i64 p.2.1, .slice xpsa xpsn xpsc, .slice xpca xpcn xpcc] 27)
  clear hbA_16
  have hal := (Below.refl w5.heap.size w5).alloc (Nat.le_refl _) (.cells #[.int .i64 p.1, .int .i64 p.2.1, .slice xpsa xpsn xpsc, .slice xpca xpcn xpcc] 27)
  have ho_22 := ho_18.same hal.size (fun i _ h2 => hal.block i (Nat.lt_of_lt_of_le h2 ho_18.hi))
  clear ho_18
  have hx_23 := hx_17.alloc (.cells #[.int .i64 p.1, .int .i64 p.2.1, .slice xpsa xpsn xpsc, .slice xpca xpcn xpcc] 27)
  clear hx_17
  have hx_24 := box4_alloc w5 27 (.int .i64 p.1) (.int .i64 p.2.1) (.slice xpsa xpsn xpsc) (.slice xpca xpcn xpcc)
  have hbl_xp := hx_24.lt
  have hsz_w6 := hal.size
  clear hal
  generalize (w5.alloc (.cells #[.int .i64 p.1, .int .i64 p.2.1, .slice xpsa xpsn xpsc, .slice xpca xpcn xpcc] 27)) = w6 at *
  refine (GI.out _ _ hb0_20 (HC_p.out _ _ _ _ ho_22)).mono ?_
  rintro e w7 ⟨y0, rfl, hn0, hstep⟩
  have hb0_25 := Below.step hb0_20 hb0_20.size hstep
  clear hb0_20
  have hbA_26 := Below.step hbA_21 hbA_21.size hstep
  clear hbA_21
  have ho_27 := ho_22.same hstep.size (fun i _ h2 => hstep.block i (Nat.lt_of_lt_of_le h2 ho_22.hi))
  clear ho_22
  have hx_28 := hx_23.below hstep hx_23.lt
  clear hx_23
  have hx_29 := hx_24.below hstep hx_24.lt
  clear hx_24
  have hsz_w7 := hstep.size
  clear hstep
  have ho_30 := hn0
  clear hn0
  obtain ⟨y0a, y0n, y0cap, rfl⟩ := ho_30.shape
  obtain ⟨bc_31a, bc_31b, bc_31c, bc_31d⟩ := hx_28.cells
  have bc_31h := hx_28.heap
  have bc_31l := hx_28.lt
  obtain ⟨bc_32a, bc_32b, bc_32c, bc_32d⟩ := hx_29.cells
  have bc_32h := hx_29.heap
  have bc_32l := hx_29.lt
  go_wp2_with fail
  clear bc_31a bc_31b bc_31c bc_31d bc_31h bc_31l bc_32a bc_32b bc_32c bc_32d bc_32h bc_32l
  refine (GE_R0.out _ _ _ (HN_R0.out _ _ _ _ ho_30) (HU0.out _ hbA_26)).mono ?_
  rintro e w8 ⟨rfl, hstep⟩
  have hb0_33 := Below.step hb0_25 hb0_25.size hstep
  clear hb0_25
  have hbA_34 := Below.step hbA_26 hbA_26.size hstep
  clear hbA_26
  have ho_35 := ho_27.same hstep.size (fun i _ h2 => hstep.block i (Nat.lt_of_lt_of_le h2 ho_27.hi))
  clear ho_27
  have ho_36 := ho_30.same hstep.size (fun i _ h2 => hstep.block i (Nat.lt_of_lt_of_le h2 ho_30.hi))
  clear ho_30
  have hx_37 := hx_28.below hstep hx_28.lt
  clear hx_28
  have hx_38 := hx_29.below hstep hx_29.lt
  clear hx_29
  have hsz_w8 := hstep.size
  clear hstep
  obtain ⟨bc_39a, bc_39b, bc_39c, bc_39d⟩ := hx_37.cells
  have bc_39h := hx_37.heap
  have bc_39l := hx_37.lt
  obtain ⟨bc_40a, bc_40b, bc_40c, bc_40d⟩ := hx_38.cells
  have bc_40h := hx_38.heap
  have bc_40l := hx_38.lt
  go_wp2_with fail
  clear bc_39a bc_39b bc_39c bc_39d bc_39h bc_39l bc_40a bc_40b bc_40c bc_40d bc_40h bc_40l
  have HXA : Hid (∀ w_ : World, Below w8.heap.size w8 w_ → AtProg w_ (.agg #[.int .i64 p.1, .int .i64 p.2.1, .slice xpsa xpsn xpsc, .slice xpca xpcn xpcc]) p) := fun w_ hb => (HN_p.out _ _ _ _ ho_35).below hb
  have HH_a_p : Hid (∀ w_ : World, Below w8.heap.size w8 w_ → Box4 w_ (w.heap.size) 69 (.int .i64 p.1) (.int .i64 p.2.1) (.slice psa psn psc) (.slice pca pcn pcc)) := fun w_ hb => hx_37.below hb hx_37.lt
  have HH_xp : Hid (∀ w_ : World, Below w8.heap.size w8 w_ → Box4 w_ (w5.heap.size) 27 (.int .i64 p.1) (.int .i64 p.2.1) (.slice xpsa xpsn xpsc) (.slice xpca xpcn xpcc)) := fun w_ hb => hx_38.below hb hx_38.lt
  go_cut [45] from 41 to 45 (fun s wx => s = .bool false ∧ Hid (Below w8.heap.size w8 wx))
  case first =>
    obtain ⟨bc_41a, bc_41b, bc_41c, bc_41d⟩ := hx_37.cells
    have bc_41h := hx_37.heap
    have bc_41l := hx_37.lt
    obtain ⟨bc_42a, bc_42b, bc_42c, bc_42d⟩ := hx_38.cells
    have bc_42h := hx_38.heap
    have bc_42l := hx_38.lt
    have HB0 : Hid (Below w.heap.size w w8) := hb0_33
    clear hb0_33 hbA_34 ho_35 ho_36 hx_37 hx_38
    go_region_with (first | (go_at_call 41; refine (GT_p.out _ (by first | exact HB0.out | exact HB0.out.drew | exact HB0.out.drew.drew | exact HB0.out.drew.drew.drew)).mono ?_; rintro e wn ⟨c_, rfl, hnew, hstep⟩; have HS : Hid (Below w8.heap.size w8 wn) := (by first | exact hstep | exact (Below.refl _ _).drew.trans hstep | exact (Below.refl _ _).drew.drew.trans hstep); have hcr := HN_p.out _ _ _ _ hnew; obtain ⟨zsa, zsn, zsc, zca, zcn, zcc, rfl⟩ := hcr.shape; have HC : Hid (AtProg wn (.agg #[.int .i64 p.1, .int .i64 p.2.1, .slice zsa zsn zsc, .slice zca zcn zcc]) p) := hcr; have yx := HH_xp.out _ HS.out; have yxh := yx.heap; obtain ⟨yx0, yx1, yx2, yx3⟩ := yx.cells; have yxl := yx.lt; clear hstep hnew hcr yx) | (go_at_call 44; refine (GE_p.out _ _ _ (HXA.out _ (by first | exact HS.out | exact HS.out.drew | exact HS.out.drew.drew | exact HS.out.drew.drew.drew)) (by first | exact HC.out | exact HC.out.below (Below.refl _ _).drew | exact HC.out.below (Below.refl _ _).drew.drew)).mono ?_; rintro e wm ⟨rfl, hstep⟩; have HS2 : Hid (Below w8.heap.size w8 wm) := (by first | exact HS.out.trans (hstep.mono HS.out.size) | exact HS.out.drew.trans (hstep.mono HS.out.size) | exact HS.out.drew.drew.trans (hstep.mono HS.out.size)); clear hstep))
    all_goals
      go_wp2_with fail
      go_meet
      case rel => exact ⟨rfl, by first | exact HS2 | exact HS2.out.drew | exact HS2.out.drew.drew⟩
  obtain ⟨rfl, HCUT⟩ := hcut
  have hstep := HCUT.out
  clear HCUT HXA HH_a_p HH_xp
  have hb0_43 := Below.step hb0_33 hb0_33.size hstep
  clear hb0_33
  have hbA_44 := Below.step hbA_34 hbA_34.size hstep
  clear hbA_34
  have ho_45 := ho_35.same hstep.size (fun i _ h2 => hstep.block i (Nat.lt_of_lt_of_le h2 ho_35.hi))
  clear ho_35
  have ho_46 := ho_36.same hstep.size (fun i _ h2 => hstep.block i (Nat.lt_of_lt_of_le h2 ho_36.hi))
  clear ho_36
  have hx_47 := hx_37.below hstep hx_37.lt
  clear hx_37
  have hx_48 := hx_38.below hstep hx_38.lt
  clear hx_38
  have hsz_wc_49 := hstep.size
  clear hstep
  obtain ⟨bc_50a, bc_50b, bc_50c, bc_50d⟩ := hx_47.cells
  have bc_50h := hx_47.heap
  have bc_50l := hx_47.lt
  obtain ⟨bc_51a, bc_51b, bc_51c, bc_51d⟩ := hx_48.cells
  have bc_51h := hx_48.heap
  have bc_51l := hx_48.lt
  go_wp2_with fail
  clear bc_50a bc_50b bc_50c bc_50d bc_50h bc_50l bc_51a bc_51b bc_51c bc_51d bc_51h bc_51l
  refine (GM_p.out _ _ _ (1) _ (by omega) (by omega) ho_45).mono ?_
  rintro e w10 ⟨rfl, hmk, htc⟩
  have hb0_52 := Touch.below hb0_43 (by omega) hb0_43.size htc
  clear hb0_43
  have hbA_53 := Touch.below hbA_44 (by omega) hbA_44.size htc
  clear hbA_44
  have ho_54 := ho_46.same htc.size (fun i h1 h2 => htc.block i (Nat.lt_of_lt_of_le h2 ho_46.hi) (by omega))
  clear ho_46
  have hx_55 : Box4 w10 (w.heap.size) 69 (.int .i64 p.1) (.int .i64 p.2.1) (.slice psa psn psc) (.slice pca pcn pcc) := ⟨by rw [htc.block _ hx_47.lt (by omega)]; exact hx_47.heap⟩
  clear hx_47
  have hx_56 : Box4 w10 (w5.heap.size) 27 (.int .i64 p.1) (.int .i64 p.2.1) (.slice xpsa xpsn xpsc) (.slice xpca xpcn xpcc) := ⟨by rw [htc.block _ hx_48.lt (by omega)]; exact hx_48.heap⟩
  clear hx_48
  have hsz_w10 := htc.size
  have ho_57 := hmk
  clear hmk htc ho_45
  clear ho_57
  obtain ⟨bc_58a, bc_58b, bc_58c, bc_58d⟩ := hx_55.cells
  have bc_58h := hx_55.heap
  have bc_58l := hx_55.lt
  obtain ⟨bc_59a, bc_59b, bc_59c, bc_59d⟩ := hx_56.cells
  have bc_59h := hx_56.heap
  have bc_59l := hx_56.lt
  go_wp2_with fail
  clear bc_58a bc_58b bc_58c bc_58d bc_58h bc_58l bc_59a bc_59b bc_59c bc_59d bc_59h bc_59l
  refine (GE_R0.out _ _ _ (HN_R0.out _ _ _ _ ho_54) (HU0.out _ hbA_53)).mono ?_
  rintro e w11 ⟨rfl, hstep⟩
  have hb0_60 := Below.step hb0_52 hb0_52.size hstep
  clear hb0_52
  have hbA_61 := Below.step hbA_53 hbA_53.size hstep
  clear hbA_53
  have ho_62 := ho_54.same hstep.size (fun i _ h2 => hstep.block i (Nat.lt_of_lt_of_le h2 ho_54.hi))
  clear ho_54
  have hx_63 := hx_55.below hstep hx_55.lt
  clear hx_55
  have hx_64 := hx_56.below hstep hx_56.lt
  clear hx_56
  have hsz_w11 := hstep.size
  clear hstep
  obtain ⟨bc_65a, bc_65b, bc_65c, bc_65d⟩ := hx_63.cells
  have bc_65h := hx_63.heap
  have bc_65l := hx_63.lt
  obtain ⟨bc_66a, bc_66b, bc_66c, bc_66d⟩ := hx_64.cells
  have bc_66h := hx_64.heap
  have bc_66l := hx_64.lt
  go_wp2_with fail
  clear bc_65a bc_65b bc_65c bc_65d bc_65h bc_65l bc_66a bc_66b bc_66c bc_66d bc_66h bc_66l
  refine (GM_R0.out _ _ _ (1) _ (by omega) (by omega) ho_62).mono ?_
  rintro e w12 ⟨rfl, hmk, htc⟩
  have hb0_67 := Touch.below hb0_60 (by omega) hb0_60.size htc
  clear hb0_60
  have hbA_68 := Touch.below hbA_61 (by omega) hbA_61.size htc
  clear hbA_61
  have hx_69 : Box4 w12 (w.heap.size) 69 (.int .i64 p.1) (.int .i64 p.2.1) (.slice psa psn psc) (.slice pca pcn pcc) := ⟨by rw [htc.block _ hx_63.lt (by omega)]; exact hx_63.heap⟩
  clear hx_63
  have hx_70 : Box4 w12 (w5.heap.size) 27 (.int .i64 p.1) (.int .i64 p.2.1) (.slice xpsa xpsn xpsc) (.slice xpca xpcn xpcc) := ⟨by rw [htc.block _ hx_64.lt (by omega)]; exact hx_64.heap⟩
  clear hx_64
  have hsz_w12 := htc.size
  have ho_71 := hmk
  clear hmk htc ho_62
  obtain ⟨bc_72a, bc_72b, bc_72c, bc_72d⟩ := hx_69.cells
  have bc_72h := hx_69.heap
  have bc_72l := hx_69.lt
  obtain ⟨bc_73a, bc_73b, bc_73c, bc_73d⟩ := hx_70.cells
  have bc_73h := hx_70.heap
  have bc_73l := hx_70.lt
  go_wp2_with fail
  clear bc_72a bc_72b bc_72c bc_72d bc_72h bc_72l bc_73a bc_73b bc_73c bc_73d bc_73h bc_73l
  refine (GH_R0.out _ _ _ (1) _ (by omega) (by omega) ho_71).mono ?_
  rintro e w13 ⟨rfl, hstep⟩
  have hb0_74 := Below.step hb0_67 hb0_67.size hstep
  clear hb0_67
  have hbA_75 := Below.step hbA_68 hbA_68.size hstep
  clear hbA_68
  have ho_76 := ho_71.same hstep.size (fun i _ h2 => hstep.block i (Nat.lt_of_lt_of_le h2 ho_71.hi))
  clear ho_71
  have hx_77 := hx_69.below hstep hx_69.lt
  clear hx_69
  have hx_78 := hx_70.below hstep hx_70.lt
  clear hx_70
  have hsz_w13 := hstep.size
  clear hstep
  obtain ⟨bc_79a, bc_79b, bc_79c, bc_79d⟩ := hx_77.cells
  have bc_79h := hx_77.heap
  have bc_79l := hx_77.lt
  obtain ⟨bc_80a, bc_80b, bc_80c, bc_80d⟩ := hx_78.cells
  have bc_80h := hx_78.heap
  have bc_80l := hx_78.lt
  go_wp2_with fail
  clear bc_79a bc_79b bc_79c bc_79d bc_79h bc_79l bc_80a bc_80b bc_80c bc_80d bc_80h bc_80l
  refine (GT_p.out _ hb0_74).mono ?_
  rintro e w14 ⟨tp, rfl, hnew, hstep⟩
  have hb0_81 := Below.step hb0_74 hb0_74.size hstep
  clear hb0_74
  have hbA_82 := Below.step hbA_75 hbA_75.size hstep
  clear hbA_75
  have ho_83 := ho_76.same hstep.size (fun i _ h2 => hstep.block i (Nat.lt_of_lt_of_le h2 ho_76.hi))
  clear ho_76
  have hx_84 := hx_77.below hstep hx_77.lt
  clear hx_77
  have hx_85 := hx_78.below hstep hx_78.lt
  clear hx_78
  have hsz_w14 := hstep.size
  clear hstep
  have ho_86 := hnew
  clear hnew
  obtain ⟨tpsa, tpsn, tpsc, tpca, tpcn, tpcc, rfl⟩ := ho_86.shape
  obtain ⟨bc_87a, bc_87b, bc_87c, bc_87d⟩ := hx_84.cells
  have bc_87h := hx_84.heap
  have bc_87l := hx_84.lt
  obtain ⟨bc_88a, bc_88b, bc_88c, bc_88d⟩ := hx_85.cells
  have bc_88h := hx_85.heap
  have bc_88l := hx_85.lt
  go_wp2_with fail
  clear bc_87a bc_87b bc_87c bc_87d bc_87h bc_87l bc_88a bc_88b bc_88c bc_88d bc_88h bc_88l
  refine (GI.out _ _ hb0_81 (HC_p.out _ _ _ _ ho_86)).mono ?_
  rintro e w15 ⟨h0, rfl, hn0, hstep⟩
  have hb0_89 := Below.step hb0_81 hb0_81.size hstep
  clear hb0_81
  have hbA_90 := Below.step hbA_82 hbA_82.size hstep
  clear hbA_82
  have ho_91 := ho_83.same hstep.size (fun i _ h2 => hstep.block i (Nat.lt_of_lt_of_le h2 ho_83.hi))
  clear ho_83
  have ho_92 := ho_86.same hstep.size (fun i _ h2 => hstep.block i (Nat.lt_of_lt_of_le h2 ho_86.hi))
  clear ho_86
  have hx_93 := hx_84.below hstep hx_84.lt
  clear hx_84
  have hx_94 := hx_85.below hstep hx_85.lt
  clear hx_85
  have hsz_w15 := hstep.size
  clear hstep
  have ho_95 := hn0
  clear hn0
  obtain ⟨h0a, h0n, h0cap, rfl⟩ := ho_95.shape
  clear ho_92
  obtain ⟨bc_96a, bc_96b, bc_96c, bc_96d⟩ := hx_93.cells
  have bc_96h := hx_93.heap
  have bc_96l := hx_93.lt
  obtain ⟨bc_97a, bc_97b, bc_97c, bc_97d⟩ := hx_94.cells
  have bc_97h := hx_94.heap
  have bc_97l := hx_94.lt
  go_wp2_with fail
  clear bc_96a bc_96b bc_96c bc_96d bc_96h bc_96l bc_97a bc_97b bc_97c bc_97d bc_97h bc_97l
  refine (GE_R0.out _ _ _ (HN_R0.out _ _ _ _ ho_95) (HU0.out _ hbA_90)).mono ?_
  rintro e w16 ⟨rfl, hstep⟩
  have hb0_98 := Below.step hb0_89 hb0_89.size hstep
  clear hb0_89
  have hbA_99 := Below.step hbA_90 hbA_90.size hstep
  clear hbA_90
  have ho_100 := ho_91.same hstep.size (fun i _ h2 => hstep.block i (Nat.lt_of_lt_of_le h2 ho_91.hi))
  clear ho_91
  have ho_101 := ho_95.same hstep.size (fun i _ h2 => hstep.block i (Nat.lt_of_lt_of_le h2 ho_95.hi))
  clear ho_95
  have hx_102 := hx_93.below hstep hx_93.lt
  clear hx_93
  have hx_103 := hx_94.below hstep hx_94.lt
  clear hx_94
  have hsz_w16 := hstep.size
  clear hstep
  clear ho_101
  obtain ⟨bc_104a, bc_104b, bc_104c, bc_104d⟩ := hx_102.cells
  have bc_104h := hx_102.heap
  have bc_104l := hx_102.lt
  obtain ⟨bc_105a, bc_105b, bc_105c, bc_105d⟩ := hx_103.cells
  have bc_105h := hx_103.heap
  have bc_105l := hx_103.lt
  go_wp2_with fail
  clear bc_104a bc_104b bc_104c bc_104d bc_104h bc_104l bc_105a bc_105b bc_105c bc_105d bc_105h bc_105l
  refine (GH_R0.out _ _ _ (1) _ (by omega) (by omega) ho_100).mono ?_
  rintro e w17 ⟨rfl, hstep⟩
  have hb0_106 := Below.step hb0_98 hb0_98.size hstep
  clear hb0_98
  have hbA_107 := Below.step hbA_99 hbA_99.size hstep
  clear hbA_99
  have ho_108 := ho_100.same hstep.size (fun i _ h2 => hstep.block i (Nat.lt_of_lt_of_le h2 ho_100.hi))
  clear ho_100
  have hx_109 := hx_102.below hstep hx_102.lt
  clear hx_102
  have hx_110 := hx_103.below hstep hx_103.lt
  clear hx_103
  have hsz_w17 := hstep.size
  clear hstep
  have HB : Hid (Below w.heap.size w w17) := hb0_106
  clear ho_108
  obtain ⟨bc_111a, bc_111b, bc_111c, bc_111d⟩ := hx_109.cells
  have bc_111h := hx_109.heap
  have bc_111l := hx_109.lt
  obtain ⟨bc_112a, bc_112b, bc_112c, bc_112d⟩ := hx_110.cells
  have bc_112h := hx_110.heap
  have bc_112l := hx_110.lt
  go_wp2_with fail
  go_ret
  exact ⟨rfl, HB.out⟩
set_option maxRecDepth 100000 in
set_option maxHeartbeats 2000000 in
theorem starts_big0 (p : Pg) (pv : Value)  (hz : 1048576 < sPg p) (w : World) (h_p : AtProg w pv p) :
    Calls Tryd.prog 6 #[pv] w fun e w' => e = .returned (.bool true) ∧ Below w.heap.size w w' := by
  have Z : Hid (∀ w1 : World, Below w.heap.size w w1 → Calls Tryd.prog 39 #[pv, .int .i64 1048576] w1 fun e w' => e = .returned (.int .i64 (-1)) ∧ Below w1.heap.size w1 w') := fun w1 hb => szProgram_big pv p hz w1 (h_p.below hb)
  obtain ⟨psa, psn, psc, pca, pcn, pcc, rfl⟩ := h_p.shape
  clear hz
  clear h_p
  have HB0 : Hid (Below w.heap.size w (w.alloc (.cells #[.int .i64 p.1, .int .i64 p.2.1, .slice psa psn psc, .slice pca pcn pcc] 69))) := (Below.refl _ _).alloc (Nat.le_refl _) _
  go_enter Tryd.func6, Tryd.ntmps6
  go_wp2_with fail
  refine (Z.out _ HB0.out).mono ?_
  rintro e w1 ⟨rfl, hstep⟩
  have HB1 : Hid (Below w.heap.size w w1) := Below.step HB0.out HB0.out.size hstep
  clear hstep Z
  go_wp2_with fail
  go_ret
  exact ⟨rfl, HB1.out⟩
theorem starts_law (p : Pg) (pv : Value)  (R0 : List Int) (R1 : Bool) (hR0 : PgOk p → sPg p ≤ 1048576 → R0.length ≤ 1048576) (w : World) (h_p : AtProg w pv p) (GS0 : PgOk p → sPg p ≤ 1048576 → ∀ (p1 : Value) (w1 : World), Below w.heap.size w w1 → AtProg w1 p1 p → Calls Tryd.prog 40 #[p1] w1 fun e w' => ∃ r0, e = .returned (.tuple #[r0, .bool R1]) ∧ OwnIS w' w1.heap.size w'.heap.size r0 R0 ∧ Below w1.heap.size w1 w') (GI0 : PgOk p → sPg p ≤ 1048576 → ∀ (p1 : Value) (w1 : World), Below w.heap.size w w1 → AtProg w1 p1 p → Calls Tryd.prog 42 #[p1] w1 fun e w' => ∃ r0, e = .returned (.tuple #[r0, .bool R1]) ∧ OwnIS w' w1.heap.size w'.heap.size r0 R0 ∧ Below w1.heap.size w1 w') :
    Calls Tryd.prog 6 #[pv] w fun e w' => e = .returned (.bool true) ∧ Below w.heap.size w w' := by
  by_cases hs_p : sPg p ≤ 1048576
  case neg => exact starts_big0 p pv  (by omega) w h_p
  have hok_p : PgOk p := h_p.ok (by omega)
  exact starts_small p pv R0 R1 (hR0 hok_p hs_p) hok_p hs_p w h_p (GS0 hok_p hs_p) (GI0 hok_p hs_p)
end Go.Proofs.YtmhpnkfibecnmaaDoor
