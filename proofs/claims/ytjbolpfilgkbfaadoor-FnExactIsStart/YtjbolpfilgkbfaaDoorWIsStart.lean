/-
  The walk of the exact law of IsStart, out of what the model's and the program's function do.
-/
import Derived.Test.YtjbolpfilgkbfaaDoorKP81
import Derived.Test.YtjbolpfilgkbfaaDoorOwn5
namespace Go.Proofs.YtjbolpfilgkbfaaDoor
open Go Go.RowKit
open M
set_option linter.unusedVariables false

set_option maxRecDepth 100000 in
set_option maxHeartbeats 8000000 in
theorem isStart_small (p : Pg) (pv : Value) (s : List Int) (sv : Value) (R0 : Bool) (R1 : Bool) (hok_p : PgOk p) (hok_s : WsOk s) (htot_p : sPg p ≤ 1048576) (w : World) (h_p : AtProg w pv p) (h_s : WordsAt w sv s) (GS0 : ∀ (p1 s1 : Value) (w1 : World), Below w.heap.size w w1 → AtProg w1 p1 p → AtUS w1 s1 s → Calls Tryd.prog 28 #[p1, s1] w1 fun e w' => e = .returned (.tuple #[.bool R0, .bool R1]) ∧ Below w1.heap.size w1 w') (GI0 : ∀ (p1 s1 : Value) (w1 : World), Below w.heap.size w w1 → AtProg w1 p1 p → AtUS w1 s1 s → Calls Tryd.prog 27 #[p1, s1] w1 fun e w' => e = .returned (.tuple #[.bool R0, .bool R1]) ∧ Below w1.heap.size w1 w') :
    Calls Tryd.prog 6 #[pv, sv] w fun e w' => e = .returned (.bool true) ∧ Below w.heap.size w w' := by
  have GS : Hid (∀ (p1 s1 : Value) (w1 : World), Below w.heap.size w w1 → AtProg w1 p1 p → AtUS w1 s1 s → Calls Tryd.prog 28 #[p1, s1] w1 fun e w' => e = .returned (.tuple #[.bool R0, .bool R1]) ∧ Below w1.heap.size w1 w') := GS0
  have GI : Hid (∀ (p1 s1 : Value) (w1 : World), Below w.heap.size w w1 → AtProg w1 p1 p → AtUS w1 s1 s → Calls Tryd.prog 27 #[p1, s1] w1 fun e w' => e = .returned (.tuple #[.bool R0, .bool R1]) ∧ Below w1.heap.size w1 w') := GI0
  clear GS0 GI0
  have Z : Hid (∀ w1 : World, Below w.heap.size w w1 → Calls Tryd.prog 45 #[pv, .int .i64 1048576] w1 fun e w' => e = .returned (.int .i64 (1048576 - (sPg p : Int))) ∧ Below w1.heap.size w1 w') := fun w1 hb => szProgram_small pv p htot_p w1 (h_p.below hb)
  obtain ⟨n0, hn0⟩ : ∃ n0 : Int, (1048576 - (sPg p : Int)) = n0 := ⟨_, rfl⟩
  have hn1 : 0 ≤ n0 := by omega
  rw [hn0] at Z
  have GT_p : Hid (∀ w1 : World, Below w.heap.size w w1 → Calls Tryd.prog 46 #[pv] w1 fun e w' => ∃ v', e = .returned v' ∧ OwnProg w' w1.heap.size w'.heap.size v' p ∧ Below w1.heap.size w1 w') := fun w1 hb => toProgram_any pv p hok_p w1 (h_p.below hb)
  have GE_p : Hid (∀ (u v : Value) (w1 : World), AtProg w1 u p → AtProg w1 v p → Calls Tryd.prog 48 #[u, v] w1 fun e w' => e = .returned (.bool true) ∧ Below w1.heap.size w1 w') := fun u v w1 h1 h2 => eqProgram_same u v p w1 h1 h2
  have HN_p : Hid (∀ (w1 : World) (lo hi : Nat) (v1 : Value), OwnProg w1 lo hi v1 p → AtProg w1 v1 p) := fun w1 lo hi v1 ho => ho.reads hok_p
  have GT_s : Hid (∀ w1 : World, Below w.heap.size w w1 → Calls Tryd.prog 47 #[sv] w1 fun e w' => ∃ v', e = .returned v' ∧ OwnUS w' w1.heap.size w'.heap.size v' s ∧ Below w1.heap.size w1 w') := fun w1 hb => toUS_any sv s hok_s w1 (h_s.below hb)
  have GE_s : Hid (∀ (u v : Value) (w1 : World), WordsAt w1 u s → WordsAt w1 v s → Calls Tryd.prog 49 #[u, v] w1 fun e w' => e = .returned (.bool true) ∧ Below w1.heap.size w1 w') := fun u v w1 h1 h2 => by
    have g := eqUS_any u v s s w1 h1 h2
    rw [decide_eq_true rfl] at g
    exact g
  have HN_s : Hid (∀ (w1 : World) (lo hi : Nat) (v1 : Value), OwnUS w1 lo hi v1 s → WordsAt w1 v1 s) := fun w1 lo hi v1 ho => ho.reads hok_s
  have HC_p : Hid (∀ (w1 : World) (lo hi : Nat) (v1 : Value), OwnProg w1 lo hi v1 p → AtProg w1 v1 p) := fun w1 lo hi v1 ho => ho.hands hok_p
  have HC_s : Hid (∀ (w1 : World) (lo hi : Nat) (v1 : Value), OwnUS w1 lo hi v1 s → AtUS w1 v1 s) := fun w1 lo hi v1 ho => ho.hands hok_s
  obtain ⟨psa, psn, psc, pca, pcn, pcc, rfl⟩ := h_p.shape
  obtain ⟨sa, scap, rfl⟩ := h_s.shape
  have hlx_s : (s.length : Int) ≤ 1048576 := by have := hok_s.2; omega
  obtain ⟨sn, hn_s⟩ : ∃ m : Nat, s.length = m := ⟨_, rfl⟩
  rw [hn_s] at GT_s hlx_s
  try rw [hn_s]
  clear hn_s
  clear hn0 htot_p
  clear h_p h_s hok_p hok_s 
  go_enter Tryd.func6, Tryd.ntmps6
  have hb0_0 := Below.refl w.heap.size w
  go_wp2_with fail
  have hb0_1 := hb0_0.alloc hb0_0.size (.cells #[.int .i64 p.1, .int .i64 p.2.1, .slice psa psn psc, .slice pca pcn pcc] 69)
  clear hb0_0
  have hal := (Below.refl w.heap.size w).alloc (Nat.le_refl _) (.cells #[.int .i64 p.1, .int .i64 p.2.1, .slice psa psn psc, .slice pca pcn pcc] 69)
  have hx_2 := box4_alloc w 69 (.int .i64 p.1) (.int .i64 p.2.1) (.slice psa psn psc) (.slice pca pcn pcc)
  have hbl_a_p := hx_2.lt
  have hsz_w1 := hal.size
  clear hal
  generalize (w.alloc (.cells #[.int .i64 p.1, .int .i64 p.2.1, .slice psa psn psc, .slice pca pcn pcc] 69)) = w1 at *
  refine (Z.out _ hb0_1).mono ?_
  rintro e w2 ⟨rfl, hstep⟩
  have hb0_3 := Below.step hb0_1 hb0_1.size hstep
  clear hb0_1
  have hx_4 := hx_2.below hstep hx_2.lt
  clear hx_2
  have hsz_w2 := hstep.size
  clear hstep
  clear Z
  obtain ⟨bc_5a, bc_5b, bc_5c, bc_5d⟩ := hx_4.cells
  have bc_5h := hx_4.heap
  have bc_5l := hx_4.lt
  go_wp2_with fail
  clear bc_5a bc_5b bc_5c bc_5d bc_5h bc_5l
  refine (GT_p.out _ hb0_3).mono ?_
  rintro e w3 ⟨sp, rfl, hnew, hstep⟩
  have hb0_6 := Below.step hb0_3 hb0_3.size hstep
  clear hb0_3
  have hx_7 := hx_4.below hstep hx_4.lt
  clear hx_4
  have hsz_w3 := hstep.size
  clear hstep
  have ho_8 := hnew
  clear hnew
  obtain ⟨spsa, spsn, spsc, spca, spcn, spcc, rfl⟩ := ho_8.shape
  obtain ⟨bc_9a, bc_9b, bc_9c, bc_9d⟩ := hx_7.cells
  have bc_9h := hx_7.heap
  have bc_9l := hx_7.lt
  go_wp2_with fail
  clear bc_9a bc_9b bc_9c bc_9d bc_9h bc_9l
  refine (GT_s.out _ hb0_6).mono ?_
  rintro e w4 ⟨ss, rfl, hnew, hstep⟩
  have hb0_10 := Below.step hb0_6 hb0_6.size hstep
  clear hb0_6
  have ho_11 := ho_8.same hstep.size (fun i _ h2 => hstep.block i (Nat.lt_of_lt_of_le h2 ho_8.hi))
  clear ho_8
  have hx_12 := hx_7.below hstep hx_7.lt
  clear hx_7
  have hsz_w4 := hstep.size
  clear hstep
  have ho_13 := hnew
  clear hnew
  obtain ⟨ssa, ssn, sscap, rfl⟩ := ho_13.shape
  obtain ⟨bc_14a, bc_14b, bc_14c, bc_14d⟩ := hx_12.cells
  have bc_14h := hx_12.heap
  have bc_14l := hx_12.lt
  go_wp2_with fail
  clear bc_14a bc_14b bc_14c bc_14d bc_14h bc_14l
  refine (GS.out _ _ _ hb0_10 (HC_p.out _ _ _ _ ho_11) (HC_s.out _ _ _ _ ho_13)).mono ?_
  rintro e w5 ⟨rfl, hstep⟩
  have hb0_15 := Below.step hb0_10 hb0_10.size hstep
  clear hb0_10
  have ho_16 := ho_11.same hstep.size (fun i _ h2 => hstep.block i (Nat.lt_of_lt_of_le h2 ho_11.hi))
  clear ho_11
  have ho_17 := ho_13.same hstep.size (fun i _ h2 => hstep.block i (Nat.lt_of_lt_of_le h2 ho_13.hi))
  clear ho_13
  have hx_18 := hx_12.below hstep hx_12.lt
  clear hx_12
  have hsz_w5 := hstep.size
  clear hstep
  clear GS
  clear ho_16
  clear ho_17
  obtain ⟨bc_19a, bc_19b, bc_19c, bc_19d⟩ := hx_18.cells
  have bc_19h := hx_18.heap
  have bc_19l := hx_18.lt
  go_wp2_with fail
  clear bc_19a bc_19b bc_19c bc_19d bc_19h bc_19l
  refine (GT_p.out _ hb0_15).mono ?_
  rintro e w6 ⟨xp, rfl, hnew, hstep⟩
  have hb0_20 := Below.step hb0_15 hb0_15.size hstep
  clear hb0_15
  have hx_21 := hx_18.below hstep hx_18.lt
  clear hx_18
  have hsz_w6 := hstep.size
  clear hstep
  have ho_22 := hnew
  clear hnew
  obtain ⟨xpsa, xpsn, xpsc, xpca, xpcn, xpcc, rfl⟩ := ho_22.shape
  obtain ⟨bc_23a, bc_23b, bc_23c, bc_23d⟩ := hx_21.cells
  have bc_23h := hx_21.heap
  have bc_23l := hx_21.lt
  go_wp2_with fail
  clear bc_23a bc_23b bc_23c bc_23d bc_23h bc_23l
  have hb0_24 := hb0_20.alloc hb0_20.size (.cells #[.int .i64 p.1, .int .i64 p.2.1, .slice xpsa xpsn xpsc, .slice xpca xpcn xpcc] 27)
  clear hb0_20
  have hal := (Below.refl w6.heap.size w6).alloc (Nat.le_refl _) (.cells #[.int .i64 p.1, .int .i64 p.2.1, .slice xpsa xpsn xpsc, .slice xpca xpcn xpcc] 27)
  have ho_25 := ho_22.same hal.size (fun i _ h2 => hal.block i (Nat.lt_of_lt_of_le h2 ho_22.hi))
  clear ho_22
  have hx_26 := hx_21.alloc (.cells #[.int .i64 p.1, .int .i64 p.2.1, .slice xpsa xpsn xpsc, .slice xpca xpcn xpcc] 27)
  clear hx_21
  have hx_27 := box4_alloc w6 27 (.int .i64 p.1) (.int .i64 p.2.1) (.slice xpsa xpsn xpsc) (.slice xpca xpcn xpcc)
  have hbl_xp := hx_27.lt
  have hsz_w7 := hal.size
  clear hal
  generalize (w6.alloc (.cells #[.int .i64 p.1, .int .i64 p.2.1, .slice xpsa xpsn xpsc, .slice xpca xpcn xpcc] 27)) = w7 at *
  refine (GT_s.out _ hb0_24).mono ?_
  rintro e w8 ⟨xs, rfl, hnew, hstep⟩
  have hb0_28 := Below.step hb0_24 hb0_24.size hstep
  clear hb0_24
  have ho_29 := ho_25.same hstep.size (fun i _ h2 => hstep.block i (Nat.lt_of_lt_of_le h2 ho_25.hi))
  clear ho_25
  have hx_30 := hx_26.below hstep hx_26.lt
  clear hx_26
  have hx_31 := hx_27.below hstep hx_27.lt
  clear hx_27
  have hsz_w8 := hstep.size
  clear hstep
  have ho_32 := hnew
  clear hnew
  obtain ⟨xsa, xsn, xscap, rfl⟩ := ho_32.shape
  obtain ⟨bc_33a, bc_33b, bc_33c, bc_33d⟩ := hx_30.cells
  have bc_33h := hx_30.heap
  have bc_33l := hx_30.lt
  obtain ⟨bc_34a, bc_34b, bc_34c, bc_34d⟩ := hx_31.cells
  have bc_34h := hx_31.heap
  have bc_34l := hx_31.lt
  go_wp2_with fail
  clear bc_33a bc_33b bc_33c bc_33d bc_33h bc_33l bc_34a bc_34b bc_34c bc_34d bc_34h bc_34l
  refine (GI.out _ _ _ hb0_28 (HC_p.out _ _ _ _ ho_29) (HC_s.out _ _ _ _ ho_32)).mono ?_
  rintro e w9 ⟨rfl, hstep⟩
  have hb0_35 := Below.step hb0_28 hb0_28.size hstep
  clear hb0_28
  have ho_36 := ho_29.same hstep.size (fun i _ h2 => hstep.block i (Nat.lt_of_lt_of_le h2 ho_29.hi))
  clear ho_29
  have ho_37 := ho_32.same hstep.size (fun i _ h2 => hstep.block i (Nat.lt_of_lt_of_le h2 ho_32.hi))
  clear ho_32
  have hx_38 := hx_30.below hstep hx_30.lt
  clear hx_30
  have hx_39 := hx_31.below hstep hx_31.lt
  clear hx_31
  have hsz_w9 := hstep.size
  clear hstep
  obtain ⟨bc_40a, bc_40b, bc_40c, bc_40d⟩ := hx_38.cells
  have bc_40h := hx_38.heap
  have bc_40l := hx_38.lt
  obtain ⟨bc_41a, bc_41b, bc_41c, bc_41d⟩ := hx_39.cells
  have bc_41h := hx_39.heap
  have bc_41l := hx_39.lt
  go_wp2_with fail
  clear bc_40a bc_40b bc_40c bc_40d bc_40h bc_40l bc_41a bc_41b bc_41c bc_41d bc_41h bc_41l
  have HXA : Hid (∀ w_ : World, Below w9.heap.size w9 w_ → AtProg w_ (.agg #[.int .i64 p.1, .int .i64 p.2.1, .slice xpsa xpsn xpsc, .slice xpca xpcn xpcc]) p) := fun w_ hb => (HN_p.out _ _ _ _ ho_36).below hb
  have HH_a_p : Hid (∀ w_ : World, Below w9.heap.size w9 w_ → Box4 w_ (w.heap.size) 69 (.int .i64 p.1) (.int .i64 p.2.1) (.slice psa psn psc) (.slice pca pcn pcc)) := fun w_ hb => hx_38.below hb hx_38.lt
  have HH_xp : Hid (∀ w_ : World, Below w9.heap.size w9 w_ → Box4 w_ (w6.heap.size) 27 (.int .i64 p.1) (.int .i64 p.2.1) (.slice xpsa xpsn xpsc) (.slice xpca xpcn xpcc)) := fun w_ hb => hx_39.below hb hx_39.lt
  go_cut [50] from 46 to 50 (fun s wx => s = .bool false ∧ Hid (Below w9.heap.size w9 wx))
  case first =>
    obtain ⟨bc_42a, bc_42b, bc_42c, bc_42d⟩ := hx_38.cells
    have bc_42h := hx_38.heap
    have bc_42l := hx_38.lt
    obtain ⟨bc_43a, bc_43b, bc_43c, bc_43d⟩ := hx_39.cells
    have bc_43h := hx_39.heap
    have bc_43l := hx_39.lt
    have HB0 : Hid (Below w.heap.size w w9) := hb0_35
    clear hb0_35 ho_36 ho_37 hx_38 hx_39
    go_region_with (first | (go_at_call 46; refine (GT_p.out _ (by first | exact HB0.out | exact HB0.out.drew | exact HB0.out.drew.drew | exact HB0.out.drew.drew.drew)).mono ?_; rintro e wn ⟨c_, rfl, hnew, hstep⟩; have HS : Hid (Below w9.heap.size w9 wn) := (by first | exact hstep | exact (Below.refl _ _).drew.trans hstep | exact (Below.refl _ _).drew.drew.trans hstep); have hcr := HN_p.out _ _ _ _ hnew; obtain ⟨zsa, zsn, zsc, zca, zcn, zcc, rfl⟩ := hcr.shape; have HC : Hid (AtProg wn (.agg #[.int .i64 p.1, .int .i64 p.2.1, .slice zsa zsn zsc, .slice zca zcn zcc]) p) := hcr; have yx := HH_xp.out _ HS.out; have yxh := yx.heap; obtain ⟨yx0, yx1, yx2, yx3⟩ := yx.cells; have yxl := yx.lt; clear hstep hnew hcr yx) | (go_at_call 48; refine (GE_p.out _ _ _ (HXA.out _ (by first | exact HS.out | exact HS.out.drew | exact HS.out.drew.drew | exact HS.out.drew.drew.drew)) (by first | exact HC.out | exact HC.out.below (Below.refl _ _).drew | exact HC.out.below (Below.refl _ _).drew.drew)).mono ?_; rintro e wm ⟨rfl, hstep⟩; have HS2 : Hid (Below w9.heap.size w9 wm) := (by first | exact HS.out.trans (hstep.mono HS.out.size) | exact HS.out.drew.trans (hstep.mono HS.out.size) | exact HS.out.drew.drew.trans (hstep.mono HS.out.size)); clear hstep))
    all_goals
      go_wp2_with fail
      go_meet
      case rel => exact ⟨rfl, by first | exact HS2 | exact HS2.out.drew | exact HS2.out.drew.drew⟩
  obtain ⟨rfl, HCUT⟩ := hcut
  have hstep := HCUT.out
  clear HCUT HXA HH_a_p HH_xp
  have hb0_44 := Below.step hb0_35 hb0_35.size hstep
  clear hb0_35
  have ho_45 := ho_36.same hstep.size (fun i _ h2 => hstep.block i (Nat.lt_of_lt_of_le h2 ho_36.hi))
  clear ho_36
  have ho_46 := ho_37.same hstep.size (fun i _ h2 => hstep.block i (Nat.lt_of_lt_of_le h2 ho_37.hi))
  clear ho_37
  have hx_47 := hx_38.below hstep hx_38.lt
  clear hx_38
  have hx_48 := hx_39.below hstep hx_39.lt
  clear hx_39
  have hsz_wc_49 := hstep.size
  clear hstep
  obtain ⟨bc_50a, bc_50b, bc_50c, bc_50d⟩ := hx_47.cells
  have bc_50h := hx_47.heap
  have bc_50l := hx_47.lt
  obtain ⟨bc_51a, bc_51b, bc_51c, bc_51d⟩ := hx_48.cells
  have bc_51h := hx_48.heap
  have bc_51l := hx_48.lt
  go_wp2_with fail
  clear bc_50a bc_50b bc_50c bc_50d bc_50h bc_50l bc_51a bc_51b bc_51c bc_51d bc_51h bc_51l
  refine (GT_s.out _ hb0_44).mono ?_
  rintro e w11 ⟨c_, rfl, hnew, hstep⟩
  have hb0_52 := Below.step hb0_44 hb0_44.size hstep
  clear hb0_44
  have ho_53 := ho_45.same hstep.size (fun i _ h2 => hstep.block i (Nat.lt_of_lt_of_le h2 ho_45.hi))
  clear ho_45
  have ho_54 := ho_46.same hstep.size (fun i _ h2 => hstep.block i (Nat.lt_of_lt_of_le h2 ho_46.hi))
  clear ho_46
  have hx_55 := hx_47.below hstep hx_47.lt
  clear hx_47
  have hx_56 := hx_48.below hstep hx_48.lt
  clear hx_48
  have hsz_w11 := hstep.size
  clear hstep
  have hcr := HN_s.out _ _ _ _ hnew
  clear hnew
  obtain ⟨za, zcap, rfl⟩ := hcr.shape
  obtain ⟨bc_57a, bc_57b, bc_57c, bc_57d⟩ := hx_55.cells
  have bc_57h := hx_55.heap
  have bc_57l := hx_55.lt
  obtain ⟨bc_58a, bc_58b, bc_58c, bc_58d⟩ := hx_56.cells
  have bc_58h := hx_56.heap
  have bc_58l := hx_56.lt
  go_wp2_with fail
  clear bc_57a bc_57b bc_57c bc_57d bc_57h bc_57l bc_58a bc_58b bc_58c bc_58d bc_58h bc_58l
  refine (GE_s.out _ _ _ (HN_s.out _ _ _ _ ho_54) hcr).mono ?_
  clear hcr
  rintro e w12 ⟨rfl, hstep⟩
  have hb0_59 := Below.step hb0_52 hb0_52.size hstep
  clear hb0_52
  have ho_60 := ho_53.same hstep.size (fun i _ h2 => hstep.block i (Nat.lt_of_lt_of_le h2 ho_53.hi))
  clear ho_53
  have ho_61 := ho_54.same hstep.size (fun i _ h2 => hstep.block i (Nat.lt_of_lt_of_le h2 ho_54.hi))
  clear ho_54
  have hx_62 := hx_55.below hstep hx_55.lt
  clear hx_55
  have hx_63 := hx_56.below hstep hx_56.lt
  clear hx_56
  have hsz_w12 := hstep.size
  clear hstep
  have HB : Hid (Below w.heap.size w w12) := hb0_59
  clear ho_60
  clear ho_61
  obtain ⟨bc_64a, bc_64b, bc_64c, bc_64d⟩ := hx_62.cells
  have bc_64h := hx_62.heap
  have bc_64l := hx_62.lt
  obtain ⟨bc_65a, bc_65b, bc_65c, bc_65d⟩ := hx_63.cells
  have bc_65h := hx_63.heap
  have bc_65l := hx_63.lt
  go_wp2_with fail
  go_ret
  exact ⟨rfl, HB.out⟩
set_option maxRecDepth 100000 in
set_option maxHeartbeats 2000000 in
theorem isStart_big0 (p : Pg) (pv : Value) (s : List Int) (sv : Value)  (hz : 1048576 < s.length) (w : World) (h_p : AtProg w pv p) (h_s : WordsAt w sv s) :
    Calls Tryd.prog 6 #[pv, sv] w fun e w' => e = .returned (.bool true) ∧ Below w.heap.size w w' := by
  have hm_s := h_s.2.1
  obtain ⟨sa, scap, rfl⟩ := h_s.shape
  obtain ⟨psa, psn, psc, pca, pcn, pcc, rfl⟩ := h_p.shape
  generalize s.length = sn at *
  clear h_p h_s
  have HB0 : Hid (Below w.heap.size w (w.alloc (.cells #[.int .i64 p.1, .int .i64 p.2.1, .slice psa psn psc, .slice pca pcn pcc] 69))) := (Below.refl _ _).alloc (Nat.le_refl _) _
  go_enter Tryd.func6, Tryd.ntmps6
  go_wp2_with fail
  go_ret
  exact ⟨rfl, HB0.out⟩
set_option maxRecDepth 100000 in
set_option maxHeartbeats 2000000 in
theorem isStart_big1 (p : Pg) (pv : Value) (s : List Int) (sv : Value) (hl_s : s.length ≤ 1048576) (hz : 1048576 < sPg p) (w : World) (h_p : AtProg w pv p) (h_s : WordsAt w sv s) :
    Calls Tryd.prog 6 #[pv, sv] w fun e w' => e = .returned (.bool true) ∧ Below w.heap.size w w' := by
  have Z : Hid (∀ w1 : World, Below w.heap.size w w1 → Calls Tryd.prog 45 #[pv, .int .i64 1048576] w1 fun e w' => e = .returned (.int .i64 (-1)) ∧ Below w1.heap.size w1 w') := fun w1 hb => szProgram_big pv p hz w1 (h_p.below hb)
  have hm_s := h_s.2.1
  obtain ⟨sa, scap, rfl⟩ := h_s.shape
  obtain ⟨psa, psn, psc, pca, pcn, pcc, rfl⟩ := h_p.shape
  clear hz
  generalize s.length = sn at *
  clear h_p h_s
  have HB0 : Hid (Below w.heap.size w (w.alloc (.cells #[.int .i64 p.1, .int .i64 p.2.1, .slice psa psn psc, .slice pca pcn pcc] 69))) := (Below.refl _ _).alloc (Nat.le_refl _) _
  go_enter Tryd.func6, Tryd.ntmps6
  go_wp2_with fail
  refine (Z.out _ HB0.out).mono ?_
  rintro e w1 ⟨rfl, hstep⟩
  have HB1 : Hid (Below w.heap.size w w1) := Below.step HB0.out HB0.out.size hstep
  clear hstep Z
  go_wp2_with fail
  go_ret
  exact ⟨rfl, HB1.out⟩
theorem isStart_law (p : Pg) (pv : Value) (s : List Int) (sv : Value)  (R0 : Bool) (R1 : Bool)  (w : World) (h_p : AtProg w pv p) (h_s : WordsAt w sv s) (GS0 : PgOk p → WsOk s → sPg p ≤ 1048576 → ∀ (p1 s1 : Value) (w1 : World), Below w.heap.size w w1 → AtProg w1 p1 p → AtUS w1 s1 s → Calls Tryd.prog 28 #[p1, s1] w1 fun e w' => e = .returned (.tuple #[.bool R0, .bool R1]) ∧ Below w1.heap.size w1 w') (GI0 : PgOk p → WsOk s → sPg p ≤ 1048576 → ∀ (p1 s1 : Value) (w1 : World), Below w.heap.size w w1 → AtProg w1 p1 p → AtUS w1 s1 s → Calls Tryd.prog 27 #[p1, s1] w1 fun e w' => e = .returned (.tuple #[.bool R0, .bool R1]) ∧ Below w1.heap.size w1 w') :
    Calls Tryd.prog 6 #[pv, sv] w fun e w' => e = .returned (.bool true) ∧ Below w.heap.size w w' := by
  by_cases hl_s : s.length ≤ 1048576
  case neg => exact isStart_big0 p pv s sv  (by omega) w h_p h_s
  by_cases hs_p : sPg p ≤ 1048576
  case neg => exact isStart_big1 p pv s sv hl_s (by omega) w h_p h_s
  have hok_p : PgOk p := h_p.ok (by omega)
  have hok_s : WsOk s := ⟨h_s.1, by omega⟩
  exact isStart_small p pv s sv R0 R1  hok_p hok_s hs_p w h_p h_s (GS0 hok_p hok_s hs_p) (GI0 hok_p hok_s hs_p)
end Go.Proofs.YtjbolpfilgkbfaaDoor
