/-
  The walk of the exact law of HoldsIn, out of what the model's and the program's function do.
-/
import Derived.Test.YtpgojamabmpjnaaDoorKP121
import Derived.Test.YtpgojamabmpjnaaDoorOwn5
namespace Go.Proofs.YtpgojamabmpjnaaDoor
open Go Go.RowKit
open M
set_option linter.unusedVariables false

set_option maxRecDepth 100000 in
set_option maxHeartbeats 8000000 in
theorem holdsIn_small (p : Pg) (pv : Value) (t : List Nd) (tv : Value) (no : Int) (hf_no : Fit no) (R0 : Bool) (R1 : Bool) (hok_p : PgOk p) (hok_t : NsOk t) (htot_p : sPg p ≤ 1048576) (htot_t : (t.length : Int) ≤ (1048576 - (sPg p : Int))) (w : World) (h_p : AtProg w pv p) (h_t : NodesAt w tv t) (GS0 : ∀ (p1 t1 : Value) (w1 : World), Below w.heap.size w w1 → AtProg w1 p1 p → AtNS w1 t1 t → Calls Tryd.prog 15 #[p1, t1, .int .i64 no] w1 fun e w' => e = .returned (.tuple #[.bool R0, .bool R1]) ∧ Below w1.heap.size w1 w') (GI0 : ∀ (p1 t1 : Value) (w1 : World), Below w.heap.size w w1 → AtProg w1 p1 p → AtNS w1 t1 t → Calls Tryd.prog 17 #[p1, t1, .int .i64 no] w1 fun e w' => e = .returned (.tuple #[.bool R0, .bool R1]) ∧ Below w1.heap.size w1 w') :
    Calls Tryd.prog 4 #[pv, tv, .int .i64 no] w fun e w' => e = .returned (.bool true) ∧ Below w.heap.size w w' := by
  have GS : Hid (∀ (p1 t1 : Value) (w1 : World), Below w.heap.size w w1 → AtProg w1 p1 p → AtNS w1 t1 t → Calls Tryd.prog 15 #[p1, t1, .int .i64 no] w1 fun e w' => e = .returned (.tuple #[.bool R0, .bool R1]) ∧ Below w1.heap.size w1 w') := GS0
  have GI : Hid (∀ (p1 t1 : Value) (w1 : World), Below w.heap.size w w1 → AtProg w1 p1 p → AtNS w1 t1 t → Calls Tryd.prog 17 #[p1, t1, .int .i64 no] w1 fun e w' => e = .returned (.tuple #[.bool R0, .bool R1]) ∧ Below w1.heap.size w1 w') := GI0
  clear GS0 GI0
  have Z : Hid (∀ w1 : World, Below w.heap.size w w1 → Calls Tryd.prog 5 #[pv, .int .i64 1048576] w1 fun e w' => e = .returned (.int .i64 (1048576 - (sPg p : Int))) ∧ Below w1.heap.size w1 w') := fun w1 hb => szProgram_small pv p htot_p w1 (h_p.below hb)
  obtain ⟨n0, hn0⟩ : ∃ n0 : Int, (1048576 - (sPg p : Int)) = n0 := ⟨_, rfl⟩
  have hn1 : 0 ≤ n0 := by omega
  rw [hn0] at Z
  rw [hn0] at htot_t
  obtain ⟨n1, hn1e⟩ : ∃ n1 : Int, n0 - (t.length : Int) = n1 := ⟨_, rfl⟩
  have hn1n : 0 ≤ n1 := by omega
  have hn0m : n0 ≤ 1048576 := by omega
  have Z2 : Hid (∀ w1 : World, Below w.heap.size w w1 → Calls Tryd.prog 14 #[tv, .int .i64 n0] w1 fun e w' => e = .returned (.int .i64 n1) ∧ Below w1.heap.size w1 w') := fun w1 hb => by
    have g := szNS_left tv t n0 hn1 (by omega) htot_t w1 (h_t.below hb)
    rw [hn1e] at g
    exact g
  clear hn1e
  have GT_p : Hid (∀ w1 : World, Below w.heap.size w w1 → Calls Tryd.prog 7 #[pv] w1 fun e w' => ∃ v', e = .returned v' ∧ OwnProg w' w1.heap.size w'.heap.size v' p ∧ Below w1.heap.size w1 w') := fun w1 hb => toProgram_any pv p hok_p w1 (h_p.below hb)
  have GE_p : Hid (∀ (u v : Value) (w1 : World), AtProg w1 u p → AtProg w1 v p → Calls Tryd.prog 10 #[u, v] w1 fun e w' => e = .returned (.bool true) ∧ Below w1.heap.size w1 w') := fun u v w1 h1 h2 => eqProgram_same u v p w1 h1 h2
  have HN_p : Hid (∀ (w1 : World) (lo hi : Nat) (v1 : Value), OwnProg w1 lo hi v1 p → AtProg w1 v1 p) := fun w1 lo hi v1 ho => ho.reads hok_p
  have GT_t : Hid (∀ w1 : World, Below w.heap.size w w1 → Calls Tryd.prog 16 #[tv] w1 fun e w' => ∃ v', e = .returned v' ∧ OwnNS w' w1.heap.size w'.heap.size v' t ∧ Below w1.heap.size w1 w') := fun w1 hb => toNS_any tv t hok_t w1 (h_t.below hb)
  have GE_t : Hid (∀ (u v : Value) (w1 : World), NodesAt w1 u t → NodesAt w1 v t → Calls Tryd.prog 18 #[u, v] w1 fun e w' => e = .returned (.bool true) ∧ Below w1.heap.size w1 w') := fun u v w1 h1 h2 => by
    have g := eqNodeS_any u v t t w1 h1 h2
    rw [decide_eq_true rfl] at g
    exact g
  have HN_t : Hid (∀ (w1 : World) (lo hi : Nat) (v1 : Value), OwnNS w1 lo hi v1 t → NodesAt w1 v1 t) := fun w1 lo hi v1 ho => ho.reads hok_t
  have HC_p : Hid (∀ (w1 : World) (lo hi : Nat) (v1 : Value), OwnProg w1 lo hi v1 p → AtProg w1 v1 p) := fun w1 lo hi v1 ho => ho.hands hok_p
  have HC_t : Hid (∀ (w1 : World) (lo hi : Nat) (v1 : Value), OwnNS w1 lo hi v1 t → AtNS w1 v1 t) := fun w1 lo hi v1 ho => ho.hands hok_t
  obtain ⟨psa, psn, psc, pca, pcn, pcc, rfl⟩ := h_p.shape
  obtain ⟨ta, tcap, rfl⟩ := h_t.shape
  have hlx_t : (t.length : Int) ≤ 1048576 := by have := hok_t.2; omega
  obtain ⟨tn, hn_t⟩ : ∃ m : Nat, t.length = m := ⟨_, rfl⟩
  rw [hn_t] at GT_t hlx_t Z2
  try rw [hn_t]
  clear hn_t
  clear hn0 htot_p htot_t
  clear h_p h_t hok_p hok_t 
  go_enter Tryd.func4, Tryd.ntmps4
  have hb0_0 := Below.refl w.heap.size w
  go_wp2_with fail
  have hb0_1 := hb0_0.alloc hb0_0.size (.cells #[.int .i64 p.1, .int .i64 p.2.1, .slice psa psn psc, .slice pca pcn pcc] 25)
  clear hb0_0
  have hal := (Below.refl w.heap.size w).alloc (Nat.le_refl _) (.cells #[.int .i64 p.1, .int .i64 p.2.1, .slice psa psn psc, .slice pca pcn pcc] 25)
  have hx_2 := box4_alloc w 25 (.int .i64 p.1) (.int .i64 p.2.1) (.slice psa psn psc) (.slice pca pcn pcc)
  have hbl_a_p := hx_2.lt
  have hsz_w1 := hal.size
  clear hal
  generalize (w.alloc (.cells #[.int .i64 p.1, .int .i64 p.2.1, .slice psa psn psc, .slice pca pcn pcc] 25)) = w1 at *
  refine (Z.out _ hb0_1).mono ?_
  rintro e w2 ⟨rfl, hstep⟩
  have hb0_3 := Below.step hb0_1 hb0_1.size hstep
  clear hb0_1
  have hx_4 := hx_2.below hstep hx_2.lt
  clear hx_2
  have hsz_w2 := hstep.size
  clear hstep
  clear Z
  obtain ⟨bc_5a, bc_5b, bc_5c, bc_5d⟩ := hx_4.cells
  have bc_5h := hx_4.heap
  have bc_5l := hx_4.lt
  go_wp2_with fail
  clear bc_5a bc_5b bc_5c bc_5d bc_5h bc_5l
  refine (Z2.out _ hb0_3).mono ?_
  rintro e w3 ⟨rfl, hstep⟩
  have hb0_6 := Below.step hb0_3 hb0_3.size hstep
  clear hb0_3
  have hx_7 := hx_4.below hstep hx_4.lt
  clear hx_4
  have hsz_w3 := hstep.size
  clear hstep
  clear Z2
  obtain ⟨bc_8a, bc_8b, bc_8c, bc_8d⟩ := hx_7.cells
  have bc_8h := hx_7.heap
  have bc_8l := hx_7.lt
  go_wp2_with fail
  clear bc_8a bc_8b bc_8c bc_8d bc_8h bc_8l
  refine (GT_p.out _ hb0_6).mono ?_
  rintro e w4 ⟨sp, rfl, hnew, hstep⟩
  have hb0_9 := Below.step hb0_6 hb0_6.size hstep
  clear hb0_6
  have hx_10 := hx_7.below hstep hx_7.lt
  clear hx_7
  have hsz_w4 := hstep.size
  clear hstep
  have ho_11 := hnew
  clear hnew
  obtain ⟨spsa, spsn, spsc, spca, spcn, spcc, rfl⟩ := ho_11.shape
  obtain ⟨bc_12a, bc_12b, bc_12c, bc_12d⟩ := hx_10.cells
  have bc_12h := hx_10.heap
  have bc_12l := hx_10.lt
  go_wp2_with fail
  clear bc_12a bc_12b bc_12c bc_12d bc_12h bc_12l
  refine (GT_t.out _ hb0_9).mono ?_
  rintro e w5 ⟨st, rfl, hnew, hstep⟩
  have hb0_13 := Below.step hb0_9 hb0_9.size hstep
  clear hb0_9
  have ho_14 := ho_11.same hstep.size (fun i _ h2 => hstep.block i (Nat.lt_of_lt_of_le h2 ho_11.hi))
  clear ho_11
  have hx_15 := hx_10.below hstep hx_10.lt
  clear hx_10
  have hsz_w5 := hstep.size
  clear hstep
  have ho_16 := hnew
  clear hnew
  obtain ⟨sta, stn, stcap, rfl⟩ := ho_16.shape
  obtain ⟨bc_17a, bc_17b, bc_17c, bc_17d⟩ := hx_15.cells
  have bc_17h := hx_15.heap
  have bc_17l := hx_15.lt
  go_wp2_with fail
  clear bc_17a bc_17b bc_17c bc_17d bc_17h bc_17l
  refine (GS.out _ _ _ hb0_13 (HC_p.out _ _ _ _ ho_14) (HC_t.out _ _ _ _ ho_16)).mono ?_
  rintro e w6 ⟨rfl, hstep⟩
  have hb0_18 := Below.step hb0_13 hb0_13.size hstep
  clear hb0_13
  have ho_19 := ho_14.same hstep.size (fun i _ h2 => hstep.block i (Nat.lt_of_lt_of_le h2 ho_14.hi))
  clear ho_14
  have ho_20 := ho_16.same hstep.size (fun i _ h2 => hstep.block i (Nat.lt_of_lt_of_le h2 ho_16.hi))
  clear ho_16
  have hx_21 := hx_15.below hstep hx_15.lt
  clear hx_15
  have hsz_w6 := hstep.size
  clear hstep
  clear GS
  clear ho_19
  clear ho_20
  obtain ⟨bc_22a, bc_22b, bc_22c, bc_22d⟩ := hx_21.cells
  have bc_22h := hx_21.heap
  have bc_22l := hx_21.lt
  go_wp2_with fail
  clear bc_22a bc_22b bc_22c bc_22d bc_22h bc_22l
  refine (GT_p.out _ hb0_18).mono ?_
  rintro e w7 ⟨xp, rfl, hnew, hstep⟩
  have hb0_23 := Below.step hb0_18 hb0_18.size hstep
  clear hb0_18
  have hx_24 := hx_21.below hstep hx_21.lt
  clear hx_21
  have hsz_w7 := hstep.size
  clear hstep
  have ho_25 := hnew
  clear hnew
  obtain ⟨xpsa, xpsn, xpsc, xpca, xpcn, xpcc, rfl⟩ := ho_25.shape
  obtain ⟨bc_26a, bc_26b, bc_26c, bc_26d⟩ := hx_24.cells
  have bc_26h := hx_24.heap
  have bc_26l := hx_24.lt
  go_wp2_with fail
  clear bc_26a bc_26b bc_26c bc_26d bc_26h bc_26l
  have hb0_27 := hb0_23.alloc hb0_23.size (.cells #[.int .i64 p.1, .int .i64 p.2.1, .slice xpsa xpsn xpsc, .slice xpca xpcn xpcc] 33)
  clear hb0_23
  have hal := (Below.refl w7.heap.size w7).alloc (Nat.le_refl _) (.cells #[.int .i64 p.1, .int .i64 p.2.1, .slice xpsa xpsn xpsc, .slice xpca xpcn xpcc] 33)
  have ho_28 := ho_25.same hal.size (fun i _ h2 => hal.block i (Nat.lt_of_lt_of_le h2 ho_25.hi))
  clear ho_25
  have hx_29 := hx_24.alloc (.cells #[.int .i64 p.1, .int .i64 p.2.1, .slice xpsa xpsn xpsc, .slice xpca xpcn xpcc] 33)
  clear hx_24
  have hx_30 := box4_alloc w7 33 (.int .i64 p.1) (.int .i64 p.2.1) (.slice xpsa xpsn xpsc) (.slice xpca xpcn xpcc)
  have hbl_xp := hx_30.lt
  have hsz_w8 := hal.size
  clear hal
  generalize (w7.alloc (.cells #[.int .i64 p.1, .int .i64 p.2.1, .slice xpsa xpsn xpsc, .slice xpca xpcn xpcc] 33)) = w8 at *
  refine (GT_t.out _ hb0_27).mono ?_
  rintro e w9 ⟨xt, rfl, hnew, hstep⟩
  have hb0_31 := Below.step hb0_27 hb0_27.size hstep
  clear hb0_27
  have ho_32 := ho_28.same hstep.size (fun i _ h2 => hstep.block i (Nat.lt_of_lt_of_le h2 ho_28.hi))
  clear ho_28
  have hx_33 := hx_29.below hstep hx_29.lt
  clear hx_29
  have hx_34 := hx_30.below hstep hx_30.lt
  clear hx_30
  have hsz_w9 := hstep.size
  clear hstep
  have ho_35 := hnew
  clear hnew
  obtain ⟨xta, xtn, xtcap, rfl⟩ := ho_35.shape
  obtain ⟨bc_36a, bc_36b, bc_36c, bc_36d⟩ := hx_33.cells
  have bc_36h := hx_33.heap
  have bc_36l := hx_33.lt
  obtain ⟨bc_37a, bc_37b, bc_37c, bc_37d⟩ := hx_34.cells
  have bc_37h := hx_34.heap
  have bc_37l := hx_34.lt
  go_wp2_with fail
  clear bc_36a bc_36b bc_36c bc_36d bc_36h bc_36l bc_37a bc_37b bc_37c bc_37d bc_37h bc_37l
  refine (GI.out _ _ _ hb0_31 (HC_p.out _ _ _ _ ho_32) (HC_t.out _ _ _ _ ho_35)).mono ?_
  rintro e w10 ⟨rfl, hstep⟩
  have hb0_38 := Below.step hb0_31 hb0_31.size hstep
  clear hb0_31
  have ho_39 := ho_32.same hstep.size (fun i _ h2 => hstep.block i (Nat.lt_of_lt_of_le h2 ho_32.hi))
  clear ho_32
  have ho_40 := ho_35.same hstep.size (fun i _ h2 => hstep.block i (Nat.lt_of_lt_of_le h2 ho_35.hi))
  clear ho_35
  have hx_41 := hx_33.below hstep hx_33.lt
  clear hx_33
  have hx_42 := hx_34.below hstep hx_34.lt
  clear hx_34
  have hsz_w10 := hstep.size
  clear hstep
  obtain ⟨bc_43a, bc_43b, bc_43c, bc_43d⟩ := hx_41.cells
  have bc_43h := hx_41.heap
  have bc_43l := hx_41.lt
  obtain ⟨bc_44a, bc_44b, bc_44c, bc_44d⟩ := hx_42.cells
  have bc_44h := hx_42.heap
  have bc_44l := hx_42.lt
  go_wp2_with fail
  clear bc_43a bc_43b bc_43c bc_43d bc_43h bc_43l bc_44a bc_44b bc_44c bc_44d bc_44h bc_44l
  have HXA : Hid (∀ w_ : World, Below w10.heap.size w10 w_ → AtProg w_ (.agg #[.int .i64 p.1, .int .i64 p.2.1, .slice xpsa xpsn xpsc, .slice xpca xpcn xpcc]) p) := fun w_ hb => (HN_p.out _ _ _ _ ho_39).below hb
  have HH_a_p : Hid (∀ w_ : World, Below w10.heap.size w10 w_ → Box4 w_ (w.heap.size) 25 (.int .i64 p.1) (.int .i64 p.2.1) (.slice psa psn psc) (.slice pca pcn pcc)) := fun w_ hb => hx_41.below hb hx_41.lt
  have HH_xp : Hid (∀ w_ : World, Below w10.heap.size w10 w_ → Box4 w_ (w7.heap.size) 33 (.int .i64 p.1) (.int .i64 p.2.1) (.slice xpsa xpsn xpsc) (.slice xpca xpcn xpcc)) := fun w_ hb => hx_42.below hb hx_42.lt
  go_cut [56] from 52 to 56 (fun s wx => s = .bool false ∧ Hid (Below w10.heap.size w10 wx))
  case first =>
    obtain ⟨bc_45a, bc_45b, bc_45c, bc_45d⟩ := hx_41.cells
    have bc_45h := hx_41.heap
    have bc_45l := hx_41.lt
    obtain ⟨bc_46a, bc_46b, bc_46c, bc_46d⟩ := hx_42.cells
    have bc_46h := hx_42.heap
    have bc_46l := hx_42.lt
    have HB0 : Hid (Below w.heap.size w w10) := hb0_38
    clear hb0_38 ho_39 ho_40 hx_41 hx_42
    go_region_with (first | (go_at_call 7; refine (GT_p.out _ (by first | exact HB0.out | exact HB0.out.drew | exact HB0.out.drew.drew | exact HB0.out.drew.drew.drew)).mono ?_; rintro e wn ⟨c_, rfl, hnew, hstep⟩; have HS : Hid (Below w10.heap.size w10 wn) := (by first | exact hstep | exact (Below.refl _ _).drew.trans hstep | exact (Below.refl _ _).drew.drew.trans hstep); have hcr := HN_p.out _ _ _ _ hnew; obtain ⟨zsa, zsn, zsc, zca, zcn, zcc, rfl⟩ := hcr.shape; have HC : Hid (AtProg wn (.agg #[.int .i64 p.1, .int .i64 p.2.1, .slice zsa zsn zsc, .slice zca zcn zcc]) p) := hcr; have yx := HH_xp.out _ HS.out; have yxh := yx.heap; obtain ⟨yx0, yx1, yx2, yx3⟩ := yx.cells; have yxl := yx.lt; clear hstep hnew hcr yx) | (go_at_call 10; refine (GE_p.out _ _ _ (HXA.out _ (by first | exact HS.out | exact HS.out.drew | exact HS.out.drew.drew | exact HS.out.drew.drew.drew)) (by first | exact HC.out | exact HC.out.below (Below.refl _ _).drew | exact HC.out.below (Below.refl _ _).drew.drew)).mono ?_; rintro e wm ⟨rfl, hstep⟩; have HS2 : Hid (Below w10.heap.size w10 wm) := (by first | exact HS.out.trans (hstep.mono HS.out.size) | exact HS.out.drew.trans (hstep.mono HS.out.size) | exact HS.out.drew.drew.trans (hstep.mono HS.out.size)); clear hstep))
    all_goals
      go_wp2_with fail
      go_meet
      case rel => exact ⟨rfl, by first | exact HS2 | exact HS2.out.drew | exact HS2.out.drew.drew⟩
  obtain ⟨rfl, HCUT⟩ := hcut
  have hstep := HCUT.out
  clear HCUT HXA HH_a_p HH_xp
  have hb0_47 := Below.step hb0_38 hb0_38.size hstep
  clear hb0_38
  have ho_48 := ho_39.same hstep.size (fun i _ h2 => hstep.block i (Nat.lt_of_lt_of_le h2 ho_39.hi))
  clear ho_39
  have ho_49 := ho_40.same hstep.size (fun i _ h2 => hstep.block i (Nat.lt_of_lt_of_le h2 ho_40.hi))
  clear ho_40
  have hx_50 := hx_41.below hstep hx_41.lt
  clear hx_41
  have hx_51 := hx_42.below hstep hx_42.lt
  clear hx_42
  have hsz_wc_52 := hstep.size
  clear hstep
  obtain ⟨bc_53a, bc_53b, bc_53c, bc_53d⟩ := hx_50.cells
  have bc_53h := hx_50.heap
  have bc_53l := hx_50.lt
  obtain ⟨bc_54a, bc_54b, bc_54c, bc_54d⟩ := hx_51.cells
  have bc_54h := hx_51.heap
  have bc_54l := hx_51.lt
  go_wp2_with fail
  clear bc_53a bc_53b bc_53c bc_53d bc_53h bc_53l bc_54a bc_54b bc_54c bc_54d bc_54h bc_54l
  refine (GT_t.out _ hb0_47).mono ?_
  rintro e w12 ⟨c_, rfl, hnew, hstep⟩
  have hb0_55 := Below.step hb0_47 hb0_47.size hstep
  clear hb0_47
  have ho_56 := ho_48.same hstep.size (fun i _ h2 => hstep.block i (Nat.lt_of_lt_of_le h2 ho_48.hi))
  clear ho_48
  have ho_57 := ho_49.same hstep.size (fun i _ h2 => hstep.block i (Nat.lt_of_lt_of_le h2 ho_49.hi))
  clear ho_49
  have hx_58 := hx_50.below hstep hx_50.lt
  clear hx_50
  have hx_59 := hx_51.below hstep hx_51.lt
  clear hx_51
  have hsz_w12 := hstep.size
  clear hstep
  have hcr := HN_t.out _ _ _ _ hnew
  clear hnew
  obtain ⟨za, zcap, rfl⟩ := hcr.shape
  obtain ⟨bc_60a, bc_60b, bc_60c, bc_60d⟩ := hx_58.cells
  have bc_60h := hx_58.heap
  have bc_60l := hx_58.lt
  obtain ⟨bc_61a, bc_61b, bc_61c, bc_61d⟩ := hx_59.cells
  have bc_61h := hx_59.heap
  have bc_61l := hx_59.lt
  go_wp2_with fail
  clear bc_60a bc_60b bc_60c bc_60d bc_60h bc_60l bc_61a bc_61b bc_61c bc_61d bc_61h bc_61l
  refine (GE_t.out _ _ _ (HN_t.out _ _ _ _ ho_57) hcr).mono ?_
  clear hcr
  rintro e w13 ⟨rfl, hstep⟩
  have hb0_62 := Below.step hb0_55 hb0_55.size hstep
  clear hb0_55
  have ho_63 := ho_56.same hstep.size (fun i _ h2 => hstep.block i (Nat.lt_of_lt_of_le h2 ho_56.hi))
  clear ho_56
  have ho_64 := ho_57.same hstep.size (fun i _ h2 => hstep.block i (Nat.lt_of_lt_of_le h2 ho_57.hi))
  clear ho_57
  have hx_65 := hx_58.below hstep hx_58.lt
  clear hx_58
  have hx_66 := hx_59.below hstep hx_59.lt
  clear hx_59
  have hsz_w13 := hstep.size
  clear hstep
  have HB : Hid (Below w.heap.size w w13) := hb0_62
  clear ho_63
  clear ho_64
  obtain ⟨bc_67a, bc_67b, bc_67c, bc_67d⟩ := hx_65.cells
  have bc_67h := hx_65.heap
  have bc_67l := hx_65.lt
  obtain ⟨bc_68a, bc_68b, bc_68c, bc_68d⟩ := hx_66.cells
  have bc_68h := hx_66.heap
  have bc_68l := hx_66.lt
  go_wp2_with fail
  go_ret
  exact ⟨rfl, HB.out⟩
set_option maxRecDepth 100000 in
set_option maxHeartbeats 2000000 in
theorem holdsIn_big0 (p : Pg) (pv : Value) (t : List Nd) (tv : Value) (no : Int)  (hz : 1048576 < sPg p) (w : World) (h_p : AtProg w pv p) (h_t : NodesAt w tv t) :
    Calls Tryd.prog 4 #[pv, tv, .int .i64 no] w fun e w' => e = .returned (.bool true) ∧ Below w.heap.size w w' := by
  have Z : Hid (∀ w1 : World, Below w.heap.size w w1 → Calls Tryd.prog 5 #[pv, .int .i64 1048576] w1 fun e w' => e = .returned (.int .i64 (-1)) ∧ Below w1.heap.size w1 w') := fun w1 hb => szProgram_big pv p hz w1 (h_p.below hb)
  obtain ⟨psa, psn, psc, pca, pcn, pcc, rfl⟩ := h_p.shape
  obtain ⟨ta, tcap, rfl⟩ := h_t.shape
  clear hz
  generalize t.length = tn at *
  clear h_p h_t
  have HB0 : Hid (Below w.heap.size w (w.alloc (.cells #[.int .i64 p.1, .int .i64 p.2.1, .slice psa psn psc, .slice pca pcn pcc] 25))) := (Below.refl _ _).alloc (Nat.le_refl _) _
  go_enter Tryd.func4, Tryd.ntmps4
  go_wp2_with fail
  refine (Z.out _ HB0.out).mono ?_
  rintro e w1 ⟨rfl, hstep⟩
  have HB1 : Hid (Below w.heap.size w w1) := Below.step HB0.out HB0.out.size hstep
  clear hstep Z
  go_wp2_with fail
  go_ret
  exact ⟨rfl, HB1.out⟩
set_option maxRecDepth 100000 in
set_option maxHeartbeats 2000000 in
theorem holdsIn_bigB (p : Pg) (pv : Value) (t : List Nd) (tv : Value) (no : Int) (hz0 : sPg p ≤ 1048576) (hz : (1048576 - (sPg p : Int)) < (t.length : Int)) (w : World) (h_p : AtProg w pv p) (h_t : NodesAt w tv t) :
    Calls Tryd.prog 4 #[pv, tv, .int .i64 no] w fun e w' => e = .returned (.bool true) ∧ Below w.heap.size w w' := by
  have Z : Hid (∀ w1 : World, Below w.heap.size w w1 → Calls Tryd.prog 5 #[pv, .int .i64 1048576] w1 fun e w' => e = .returned (.int .i64 (1048576 - (sPg p : Int))) ∧ Below w1.heap.size w1 w') := fun w1 hb => szProgram_small pv p hz0 w1 (h_p.below hb)
  obtain ⟨n0, hn0⟩ : ∃ n0 : Int, (1048576 - (sPg p : Int)) = n0 := ⟨_, rfl⟩
  have hn1 : 0 ≤ n0 := by omega
  have hn0m : n0 ≤ 1048576 := by omega
  rw [hn0] at Z hz
  have Z2 : Hid (∀ w1 : World, Below w.heap.size w w1 → Calls Tryd.prog 14 #[tv, .int .i64 n0] w1 fun e w' => e = .returned (.int .i64 (-1)) ∧ Below w1.heap.size w1 w') := fun w1 hb => szNS_over tv t n0 hn1 (by omega) hz w1 (h_t.below hb)
  clear hn0 hz hz0
  obtain ⟨psa, psn, psc, pca, pcn, pcc, rfl⟩ := h_p.shape
  obtain ⟨ta, tcap, rfl⟩ := h_t.shape
  generalize t.length = tn at *
  clear h_p h_t
  have HB0 : Hid (Below w.heap.size w (w.alloc (.cells #[.int .i64 p.1, .int .i64 p.2.1, .slice psa psn psc, .slice pca pcn pcc] 25))) := (Below.refl _ _).alloc (Nat.le_refl _) _
  have x0 := box4_alloc w 25 (.int .i64 p.1) (.int .i64 p.2.1) (.slice psa psn psc) (.slice pca pcn pcc)
  have HX0 : Hid _ := x0
  clear x0
  go_enter Tryd.func4, Tryd.ntmps4
  go_wp2_with fail
  refine (Z.out _ HB0.out).mono ?_
  rintro e w1 ⟨rfl, hstep⟩
  have HB1 : Hid (Below w.heap.size w w1) := Below.step HB0.out HB0.out.size hstep
  clear hstep Z HX0
  go_wp2_with fail
  refine (Z2.out _ HB1.out).mono ?_
  rintro e w2 ⟨rfl, hstep⟩
  have HB2 : Hid (Below w.heap.size w w2) := Below.step HB1.out HB1.out.size hstep
  clear hstep Z2
  go_wp2_with fail
  go_ret
  exact ⟨rfl, HB2.out⟩
theorem holdsIn_law (p : Pg) (pv : Value) (t : List Nd) (tv : Value) (no : Int) (hf_no : Fit no) (R0 : Bool) (R1 : Bool)  (w : World) (h_p : AtProg w pv p) (h_t : NodesAt w tv t) (GS0 : PgOk p → NsOk t → sPg p ≤ 1048576 → (t.length : Int) ≤ (1048576 - (sPg p : Int)) → ∀ (p1 t1 : Value) (w1 : World), Below w.heap.size w w1 → AtProg w1 p1 p → AtNS w1 t1 t → Calls Tryd.prog 15 #[p1, t1, .int .i64 no] w1 fun e w' => e = .returned (.tuple #[.bool R0, .bool R1]) ∧ Below w1.heap.size w1 w') (GI0 : PgOk p → NsOk t → sPg p ≤ 1048576 → (t.length : Int) ≤ (1048576 - (sPg p : Int)) → ∀ (p1 t1 : Value) (w1 : World), Below w.heap.size w w1 → AtProg w1 p1 p → AtNS w1 t1 t → Calls Tryd.prog 17 #[p1, t1, .int .i64 no] w1 fun e w' => e = .returned (.tuple #[.bool R0, .bool R1]) ∧ Below w1.heap.size w1 w') :
    Calls Tryd.prog 4 #[pv, tv, .int .i64 no] w fun e w' => e = .returned (.bool true) ∧ Below w.heap.size w w' := by
  by_cases hs_p : sPg p ≤ 1048576
  case neg => exact holdsIn_big0 p pv t tv no  (by omega) w h_p h_t
  by_cases hs_t : (t.length : Int) ≤ (1048576 - (sPg p : Int))
  case neg => exact holdsIn_bigB p pv t tv no hs_p (by omega) w h_p h_t
  have hok_p : PgOk p := h_p.ok (by omega)
  have hok_t : NsOk t := ⟨h_t.1, by omega⟩
  exact holdsIn_small p pv t tv no hf_no R0 R1  hok_p hok_t hs_p hs_t w h_p h_t (GS0 hok_p hok_t hs_p hs_t) (GI0 hok_p hok_t hs_p hs_t)
end Go.Proofs.YtpgojamabmpjnaaDoor
