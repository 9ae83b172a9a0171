/-
  The walk of the exact law of Meets, out of what the model's and the program's function do.
-/
import Derived.Test.YtmjeaceabjinfaaCnf
import Derived.Test.YtmjeaceabjinfaaCutT
import Derived.Test.YtmjeaceabjinfaaBoolS
import Derived.Test.YtmjeaceabjinfaaOwn5
namespace Go.Proofs.Ytmjeaceabjinfaa
open Go Go.RowKit
open M
set_option linter.unusedVariables false

set_option maxRecDepth 100000 in
set_option maxHeartbeats 8000000 in
theorem meets_small (c : Cn) (cv : Value) (values : List Bool) (valuesv : Value) (R0 : Bool) (R1 : Bool) (hok_c : CnOk c) (hok_values : values.length ≤ 1048576) (htot_c : c.2.length + sumI c.2 ≤ 1048576) (w : World) (h_c : AtCnf w cv c) (h_values : BoolsAt w valuesv values) (GS0 : ∀ (c1 values1 : Value) (w1 : World), Below w.heap.size w w1 → AtCnf w1 c1 c → AtBC w1 values1 values → Calls Try.prog 45 #[c1, values1] w1 fun e w' => e = .returned (.tuple #[.bool R0, .bool R1]) ∧ Below w1.heap.size w1 w') (GI0 : ∀ (c1 values1 : Value) (w1 : World), Below w.heap.size w w1 → AtCnf w1 c1 c → AtBC w1 values1 values → Calls Try.prog 41 #[c1, values1] w1 fun e w' => e = .returned (.tuple #[.bool R0, .bool R1]) ∧ Below w1.heap.size w1 w') :
    Calls Try.prog 10 #[cv, valuesv] w fun e w' => e = .returned (.bool true) ∧ Below w.heap.size w w' := by
  have GS : Hid (∀ (c1 values1 : Value) (w1 : World), Below w.heap.size w w1 → AtCnf w1 c1 c → AtBC w1 values1 values → Calls Try.prog 45 #[c1, values1] w1 fun e w' => e = .returned (.tuple #[.bool R0, .bool R1]) ∧ Below w1.heap.size w1 w') := GS0
  have GI : Hid (∀ (c1 values1 : Value) (w1 : World), Below w.heap.size w w1 → AtCnf w1 c1 c → AtBC w1 values1 values → Calls Try.prog 41 #[c1, values1] w1 fun e w' => e = .returned (.tuple #[.bool R0, .bool R1]) ∧ Below w1.heap.size w1 w') := GI0
  clear GS0 GI0
  have Z : Hid (∀ w1 : World, Below w.heap.size w w1 → Calls Try.prog 58 #[cv, .int .i64 1048576] w1 fun e w' => e = .returned (.int .i64 (1048576 - (c.2.length : Int) - (sumI c.2 : Int))) ∧ Below w1.heap.size w1 w') := fun w1 hb => szCnf_small cv c htot_c w1 (h_c.below hb)
  obtain ⟨n0, hn0⟩ : ∃ n0 : Int, (1048576 - (c.2.length : Int) - (sumI c.2 : Int)) = n0 := ⟨_, rfl⟩
  have hn1 : 0 ≤ n0 := by omega
  rw [hn0] at Z
  have GT_c : Hid (∀ w1 : World, Below w.heap.size w w1 → Calls Try.prog 59 #[cv] w1 fun e w' => ∃ v', e = .returned v' ∧ OwnCnf w' w1.heap.size w'.heap.size v' c ∧ Below w1.heap.size w1 w') := fun w1 hb => toCnf_any cv c hok_c w1 (h_c.below hb)
  have GE_c : Hid (∀ (u v : Value) (w1 : World), AtCnf w1 u c → AtCnf w1 v c → Calls Try.prog 60 #[u, v] w1 fun e w' => e = .returned (.bool true) ∧ Below w1.heap.size w1 w') := fun u v w1 h1 h2 => eqCnf_same u v c w1 h1 h2
  have HN_c : Hid (∀ (w1 : World) (lo hi : Nat) (v1 : Value), OwnCnf w1 lo hi v1 c → AtCnf w1 v1 c) := fun w1 lo hi v1 ho => ho.reads hok_c
  have GT_values : Hid (∀ w1 : World, Below w.heap.size w w1 → Calls Try.prog 61 #[valuesv] w1 fun e w' => ∃ v', e = .returned v' ∧ OwnBS w' w1.heap.size w'.heap.size v' values ∧ Below w1.heap.size w1 w') := fun w1 hb => toBS_any valuesv values hok_values w1 (h_values.below hb)
  have GE_values : Hid (∀ (u v : Value) (w1 : World), BoolsAt w1 u values → BoolsAt w1 v values → Calls Try.prog 62 #[u, v] w1 fun e w' => e = .returned (.bool true) ∧ Below w1.heap.size w1 w') := fun u v w1 h1 h2 => by
    have g := eqBoolS_any u v values values w1 h1 h2
    rw [decide_eq_true rfl] at g
    exact g
  have HN_values : Hid (∀ (w1 : World) (lo hi : Nat) (v1 : Value), OwnBS w1 lo hi v1 values → BoolsAt w1 v1 values) := fun w1 lo hi v1 ho => ho.reads hok_values
  have HC_c : Hid (∀ (w1 : World) (lo hi : Nat) (v1 : Value), OwnCnf w1 lo hi v1 c → AtCnf w1 v1 c) := fun w1 lo hi v1 ho => ho.hands hok_c
  have HC_values : Hid (∀ (w1 : World) (lo hi : Nat) (v1 : Value), OwnBS w1 lo hi v1 values → AtBC w1 v1 values) := fun w1 lo hi v1 ho => ho.handsC hok_values
  obtain ⟨csa, csn, csc, rfl⟩ := h_c.shape
  obtain ⟨valuesa, valuescap, rfl⟩ := h_values.shape
  have hlx_values : (values.length : Int) ≤ 1048576 := by omega
  obtain ⟨valuesn, hn_values⟩ : ∃ m : Nat, values.length = m := ⟨_, rfl⟩
  rw [hn_values] at GT_values hlx_values
  try rw [hn_values]
  clear hn_values
  clear hn0 htot_c
  clear h_c h_values hok_c hok_values 
  go_enter Try.func10, Try.ntmps10
  have hb0_0 := Below.refl w.heap.size w
  go_wp2_with fail
  have hb0_1 := hb0_0.alloc hb0_0.size (.cells #[.int .i64 c.1, .slice csa csn csc] 74)
  clear hb0_0
  have hal := (Below.refl w.heap.size w).alloc (Nat.le_refl _) (.cells #[.int .i64 c.1, .slice csa csn csc] 74)
  have hx_2 := box2_alloc w 74 (.int .i64 c.1) (.slice csa csn csc)
  have hbl_a_c := hx_2.lt
  have hsz_w1 := hal.size
  clear hal
  generalize (w.alloc (.cells #[.int .i64 c.1, .slice csa csn csc] 74)) = w1 at *
  refine (Z.out _ hb0_1).mono ?_
  rintro e w2 ⟨rfl, hstep⟩
  have hb0_3 := Below.step hb0_1 hb0_1.size hstep
  clear hb0_1
  have hx_4 := hx_2.below hstep hx_2.lt
  clear hx_2
  have hsz_w2 := hstep.size
  clear hstep
  clear Z
  obtain ⟨bc_5a, bc_5b⟩ := hx_4.cells
  have bc_5h := hx_4.heap
  have bc_5l := hx_4.lt
  go_wp2_with fail
  clear bc_5a bc_5b bc_5h bc_5l
  refine (GT_c.out _ hb0_3).mono ?_
  rintro e w3 ⟨sc, rfl, hnew, hstep⟩
  have hb0_6 := Below.step hb0_3 hb0_3.size hstep
  clear hb0_3
  have hx_7 := hx_4.below hstep hx_4.lt
  clear hx_4
  have hsz_w3 := hstep.size
  clear hstep
  have ho_8 := hnew
  clear hnew
  obtain ⟨scsa, scsn, scsc, rfl⟩ := ho_8.shape
  obtain ⟨bc_9a, bc_9b⟩ := hx_7.cells
  have bc_9h := hx_7.heap
  have bc_9l := hx_7.lt
  go_wp2_with fail
  clear bc_9a bc_9b bc_9h bc_9l
  refine (GT_values.out _ hb0_6).mono ?_
  rintro e w4 ⟨svalues, rfl, hnew, hstep⟩
  have hb0_10 := Below.step hb0_6 hb0_6.size hstep
  clear hb0_6
  have ho_11 := ho_8.same hstep.size (fun i _ h2 => hstep.block i (Nat.lt_of_lt_of_le h2 ho_8.hi))
  clear ho_8
  have hx_12 := hx_7.below hstep hx_7.lt
  clear hx_7
  have hsz_w4 := hstep.size
  clear hstep
  have ho_13 := hnew
  clear hnew
  obtain ⟨svaluesa, svaluesn, svaluescap, rfl⟩ := ho_13.shape
  obtain ⟨bc_14a, bc_14b⟩ := hx_12.cells
  have bc_14h := hx_12.heap
  have bc_14l := hx_12.lt
  go_wp2_with fail
  clear bc_14a bc_14b bc_14h bc_14l
  refine (GS.out _ _ _ hb0_10 (HC_c.out _ _ _ _ ho_11) (HC_values.out _ _ _ _ ho_13)).mono ?_
  rintro e w5 ⟨rfl, hstep⟩
  have hb0_15 := Below.step hb0_10 hb0_10.size hstep
  clear hb0_10
  have ho_16 := ho_11.same hstep.size (fun i _ h2 => hstep.block i (Nat.lt_of_lt_of_le h2 ho_11.hi))
  clear ho_11
  have ho_17 := ho_13.same hstep.size (fun i _ h2 => hstep.block i (Nat.lt_of_lt_of_le h2 ho_13.hi))
  clear ho_13
  have hx_18 := hx_12.below hstep hx_12.lt
  clear hx_12
  have hsz_w5 := hstep.size
  clear hstep
  clear GS
  clear ho_16
  clear ho_17
  obtain ⟨bc_19a, bc_19b⟩ := hx_18.cells
  have bc_19h := hx_18.heap
  have bc_19l := hx_18.lt
  go_wp2_with fail
  clear bc_19a bc_19b bc_19h bc_19l
  refine (GT_c.out _ hb0_15).mono ?_
  rintro e w6 ⟨xc, rfl, hnew, hstep⟩
  have hb0_20 := Below.step hb0_15 hb0_15.size hstep
  clear hb0_15
  have hx_21 := hx_18.below hstep hx_18.lt
  clear hx_18
  have hsz_w6 := hstep.size
  clear hstep
  have ho_22 := hnew
  clear hnew
  obtain ⟨xcsa, xcsn, xcsc, rfl⟩ := ho_22.shape
  obtain ⟨bc_23a, bc_23b⟩ := hx_21.cells
  have bc_23h := hx_21.heap
  have bc_23l := hx_21.lt
  go_wp2_with fail
  clear bc_23a bc_23b bc_23h bc_23l
  have hb0_24 := hb0_20.alloc hb0_20.size (.cells #[.int .i64 c.1, .slice xcsa xcsn xcsc] 51)
  clear hb0_20
  have hal := (Below.refl w6.heap.size w6).alloc (Nat.le_refl _) (.cells #[.int .i64 c.1, .slice xcsa xcsn xcsc] 51)
  have ho_25 := ho_22.same hal.size (fun i _ h2 => hal.block i (Nat.lt_of_lt_of_le h2 ho_22.hi))
  clear ho_22
  have hx_26 := hx_21.alloc (.cells #[.int .i64 c.1, .slice xcsa xcsn xcsc] 51)
  clear hx_21
  have hx_27 := box2_alloc w6 51 (.int .i64 c.1) (.slice xcsa xcsn xcsc)
  have hbl_xc := hx_27.lt
  have hsz_w7 := hal.size
  clear hal
  generalize (w6.alloc (.cells #[.int .i64 c.1, .slice xcsa xcsn xcsc] 51)) = w7 at *
  refine (GT_values.out _ hb0_24).mono ?_
  rintro e w8 ⟨xvalues, rfl, hnew, hstep⟩
  have hb0_28 := Below.step hb0_24 hb0_24.size hstep
  clear hb0_24
  have ho_29 := ho_25.same hstep.size (fun i _ h2 => hstep.block i (Nat.lt_of_lt_of_le h2 ho_25.hi))
  clear ho_25
  have hx_30 := hx_26.below hstep hx_26.lt
  clear hx_26
  have hx_31 := hx_27.below hstep hx_27.lt
  clear hx_27
  have hsz_w8 := hstep.size
  clear hstep
  have ho_32 := hnew
  clear hnew
  obtain ⟨xvaluesa, xvaluesn, xvaluescap, rfl⟩ := ho_32.shape
  obtain ⟨bc_33a, bc_33b⟩ := hx_30.cells
  have bc_33h := hx_30.heap
  have bc_33l := hx_30.lt
  obtain ⟨bc_34a, bc_34b⟩ := hx_31.cells
  have bc_34h := hx_31.heap
  have bc_34l := hx_31.lt
  go_wp2_with fail
  clear bc_33a bc_33b bc_33h bc_33l bc_34a bc_34b bc_34h bc_34l
  refine (GI.out _ _ _ hb0_28 (HC_c.out _ _ _ _ ho_29) (HC_values.out _ _ _ _ ho_32)).mono ?_
  rintro e w9 ⟨rfl, hstep⟩
  have hb0_35 := Below.step hb0_28 hb0_28.size hstep
  clear hb0_28
  have ho_36 := ho_29.same hstep.size (fun i _ h2 => hstep.block i (Nat.lt_of_lt_of_le h2 ho_29.hi))
  clear ho_29
  have ho_37 := ho_32.same hstep.size (fun i _ h2 => hstep.block i (Nat.lt_of_lt_of_le h2 ho_32.hi))
  clear ho_32
  have hx_38 := hx_30.below hstep hx_30.lt
  clear hx_30
  have hx_39 := hx_31.below hstep hx_31.lt
  clear hx_31
  have hsz_w9 := hstep.size
  clear hstep
  obtain ⟨bc_40a, bc_40b⟩ := hx_38.cells
  have bc_40h := hx_38.heap
  have bc_40l := hx_38.lt
  obtain ⟨bc_41a, bc_41b⟩ := hx_39.cells
  have bc_41h := hx_39.heap
  have bc_41l := hx_39.lt
  go_wp2_with fail
  clear bc_40a bc_40b bc_40h bc_40l bc_41a bc_41b bc_41h bc_41l
  have HXA : Hid (∀ w_ : World, Below w9.heap.size w9 w_ → AtCnf w_ (.agg #[.int .i64 c.1, .slice xcsa xcsn xcsc]) c) := fun w_ hb => (HN_c.out _ _ _ _ ho_36).below hb
  have HH_a_c : Hid (∀ w_ : World, Below w9.heap.size w9 w_ → Box2 w_ (w.heap.size) 74 (.int .i64 c.1) (.slice csa csn csc)) := fun w_ hb => hx_38.below hb hx_38.lt
  have HH_xc : Hid (∀ w_ : World, Below w9.heap.size w9 w_ → Box2 w_ (w6.heap.size) 51 (.int .i64 c.1) (.slice xcsa xcsn xcsc)) := fun w_ hb => hx_39.below hb hx_39.lt
  go_cut [50] from 46 to 50 (fun s wx => s = .bool false ∧ Hid (Below w9.heap.size w9 wx))
  case first =>
    obtain ⟨bc_42a, bc_42b⟩ := hx_38.cells
    have bc_42h := hx_38.heap
    have bc_42l := hx_38.lt
    obtain ⟨bc_43a, bc_43b⟩ := hx_39.cells
    have bc_43h := hx_39.heap
    have bc_43l := hx_39.lt
    have HB0 : Hid (Below w.heap.size w w9) := hb0_35
    clear hb0_35 ho_36 ho_37 hx_38 hx_39
    go_region_with (first | (go_at_call 59; refine (GT_c.out _ (by first | exact HB0.out | exact HB0.out.drew | exact HB0.out.drew.drew | exact HB0.out.drew.drew.drew)).mono ?_; rintro e wn ⟨c_, rfl, hnew, hstep⟩; have HS : Hid (Below w9.heap.size w9 wn) := (by first | exact hstep | exact (Below.refl _ _).drew.trans hstep | exact (Below.refl _ _).drew.drew.trans hstep); have hcr := HN_c.out _ _ _ _ hnew; obtain ⟨zsa, zsn, zsc, rfl⟩ := hcr.shape; have HC : Hid (AtCnf wn (.agg #[.int .i64 c.1, .slice zsa zsn zsc]) c) := hcr; have yx := HH_xc.out _ HS.out; have yxh := yx.heap; obtain ⟨yx0, yx1⟩ := yx.cells; have yxl := yx.lt; clear hstep hnew hcr yx) | (go_at_call 60; refine (GE_c.out _ _ _ (HXA.out _ (by first | exact HS.out | exact HS.out.drew | exact HS.out.drew.drew | exact HS.out.drew.drew.drew)) (by first | exact HC.out | exact HC.out.below (Below.refl _ _).drew | exact HC.out.below (Below.refl _ _).drew.drew)).mono ?_; rintro e wm ⟨rfl, hstep⟩; have HS2 : Hid (Below w9.heap.size w9 wm) := (by first | exact HS.out.trans (hstep.mono HS.out.size) | exact HS.out.drew.trans (hstep.mono HS.out.size) | exact HS.out.drew.drew.trans (hstep.mono HS.out.size)); clear hstep))
    all_goals
      go_wp2_with fail
      go_meet
      case rel => exact ⟨rfl, by first | exact HS2 | exact HS2.out.drew | exact HS2.out.drew.drew⟩
  obtain ⟨rfl, HCUT⟩ := hcut
  have hstep := HCUT.out
  clear HCUT HXA HH_a_c HH_xc
  have hb0_44 := Below.step hb0_35 hb0_35.size hstep
  clear hb0_35
  have ho_45 := ho_36.same hstep.size (fun i _ h2 => hstep.block i (Nat.lt_of_lt_of_le h2 ho_36.hi))
  clear ho_36
  have ho_46 := ho_37.same hstep.size (fun i _ h2 => hstep.block i (Nat.lt_of_lt_of_le h2 ho_37.hi))
  clear ho_37
  have hx_47 := hx_38.below hstep hx_38.lt
  clear hx_38
  have hx_48 := hx_39.below hstep hx_39.lt
  clear hx_39
  have hsz_wc_49 := hstep.size
  clear hstep
  obtain ⟨bc_50a, bc_50b⟩ := hx_47.cells
  have bc_50h := hx_47.heap
  have bc_50l := hx_47.lt
  obtain ⟨bc_51a, bc_51b⟩ := hx_48.cells
  have bc_51h := hx_48.heap
  have bc_51l := hx_48.lt
  go_wp2_with fail
  clear bc_50a bc_50b bc_50h bc_50l bc_51a bc_51b bc_51h bc_51l
  refine (GT_values.out _ hb0_44).mono ?_
  rintro e w11 ⟨c_, rfl, hnew, hstep⟩
  have hb0_52 := Below.step hb0_44 hb0_44.size hstep
  clear hb0_44
  have ho_53 := ho_45.same hstep.size (fun i _ h2 => hstep.block i (Nat.lt_of_lt_of_le h2 ho_45.hi))
  clear ho_45
  have ho_54 := ho_46.same hstep.size (fun i _ h2 => hstep.block i (Nat.lt_of_lt_of_le h2 ho_46.hi))
  clear ho_46
  have hx_55 := hx_47.below hstep hx_47.lt
  clear hx_47
  have hx_56 := hx_48.below hstep hx_48.lt
  clear hx_48
  have hsz_w11 := hstep.size
  clear hstep
  have hcr := HN_values.out _ _ _ _ hnew
  clear hnew
  obtain ⟨za, zcap, rfl⟩ := hcr.shape
  obtain ⟨bc_57a, bc_57b⟩ := hx_55.cells
  have bc_57h := hx_55.heap
  have bc_57l := hx_55.lt
  obtain ⟨bc_58a, bc_58b⟩ := hx_56.cells
  have bc_58h := hx_56.heap
  have bc_58l := hx_56.lt
  go_wp2_with fail
  clear bc_57a bc_57b bc_57h bc_57l bc_58a bc_58b bc_58h bc_58l
  refine (GE_values.out _ _ _ (HN_values.out _ _ _ _ ho_54) hcr).mono ?_
  clear hcr
  rintro e w12 ⟨rfl, hstep⟩
  have hb0_59 := Below.step hb0_52 hb0_52.size hstep
  clear hb0_52
  have ho_60 := ho_53.same hstep.size (fun i _ h2 => hstep.block i (Nat.lt_of_lt_of_le h2 ho_53.hi))
  clear ho_53
  have ho_61 := ho_54.same hstep.size (fun i _ h2 => hstep.block i (Nat.lt_of_lt_of_le h2 ho_54.hi))
  clear ho_54
  have hx_62 := hx_55.below hstep hx_55.lt
  clear hx_55
  have hx_63 := hx_56.below hstep hx_56.lt
  clear hx_56
  have hsz_w12 := hstep.size
  clear hstep
  have HB : Hid (Below w.heap.size w w12) := hb0_59
  clear ho_60
  clear ho_61
  obtain ⟨bc_64a, bc_64b⟩ := hx_62.cells
  have bc_64h := hx_62.heap
  have bc_64l := hx_62.lt
  obtain ⟨bc_65a, bc_65b⟩ := hx_63.cells
  have bc_65h := hx_63.heap
  have bc_65l := hx_63.lt
  go_wp2_with fail
  go_ret
  exact ⟨rfl, HB.out⟩
set_option maxRecDepth 100000 in
set_option maxHeartbeats 2000000 in
theorem meets_big0 (c : Cn) (cv : Value) (values : List Bool) (valuesv : Value)  (hz : 1048576 < values.length) (w : World) (h_c : AtCnf w cv c) (h_values : BoolsAt w valuesv values) :
    Calls Try.prog 10 #[cv, valuesv] w fun e w' => e = .returned (.bool true) ∧ Below w.heap.size w w' := by
  have hm_values := h_values.1
  obtain ⟨valuesa, valuescap, rfl⟩ := h_values.shape
  obtain ⟨csa, csn, csc, rfl⟩ := h_c.shape
  generalize values.length = valuesn at *
  clear h_c h_values
  have HB0 : Hid (Below w.heap.size w (w.alloc (.cells #[.int .i64 c.1, .slice csa csn csc] 74))) := (Below.refl _ _).alloc (Nat.le_refl _) _
  go_enter Try.func10, Try.ntmps10
  go_wp2_with fail
  go_ret
  exact ⟨rfl, HB0.out⟩
set_option maxRecDepth 100000 in
set_option maxHeartbeats 2000000 in
theorem meets_big1 (c : Cn) (cv : Value) (values : List Bool) (valuesv : Value) (hl_values : values.length ≤ 1048576) (hz : 1048576 < c.2.length + sumI c.2) (w : World) (h_c : AtCnf w cv c) (h_values : BoolsAt w valuesv values) :
    Calls Try.prog 10 #[cv, valuesv] w fun e w' => e = .returned (.bool true) ∧ Below w.heap.size w w' := by
  have Z : Hid (∀ w1 : World, Below w.heap.size w w1 → Calls Try.prog 58 #[cv, .int .i64 1048576] w1 fun e w' => e = .returned (.int .i64 (-1)) ∧ Below w1.heap.size w1 w') := fun w1 hb => szCnf_big cv c hz w1 (h_c.below hb)
  have hm_values := h_values.1
  obtain ⟨valuesa, valuescap, rfl⟩ := h_values.shape
  obtain ⟨csa, csn, csc, rfl⟩ := h_c.shape
  clear hz
  generalize values.length = valuesn at *
  clear h_c h_values
  have HB0 : Hid (Below w.heap.size w (w.alloc (.cells #[.int .i64 c.1, .slice csa csn csc] 74))) := (Below.refl _ _).alloc (Nat.le_refl _) _
  go_enter Try.func10, Try.ntmps10
  go_wp2_with fail
  refine (Z.out _ HB0.out).mono ?_
  rintro e w1 ⟨rfl, hstep⟩
  have HB1 : Hid (Below w.heap.size w w1) := Below.step HB0.out HB0.out.size hstep
  clear hstep Z
  go_wp2_with fail
  go_ret
  exact ⟨rfl, HB1.out⟩
theorem meets_law (c : Cn) (cv : Value) (values : List Bool) (valuesv : Value)  (R0 : Bool) (R1 : Bool)  (w : World) (h_c : AtCnf w cv c) (h_values : BoolsAt w valuesv values) (GS0 : CnOk c → values.length ≤ 1048576 → c.2.length + sumI c.2 ≤ 1048576 → ∀ (c1 values1 : Value) (w1 : World), Below w.heap.size w w1 → AtCnf w1 c1 c → AtBC w1 values1 values → Calls Try.prog 45 #[c1, values1] w1 fun e w' => e = .returned (.tuple #[.bool R0, .bool R1]) ∧ Below w1.heap.size w1 w') (GI0 : CnOk c → values.length ≤ 1048576 → c.2.length + sumI c.2 ≤ 1048576 → ∀ (c1 values1 : Value) (w1 : World), Below w.heap.size w w1 → AtCnf w1 c1 c → AtBC w1 values1 values → Calls Try.prog 41 #[c1, values1] w1 fun e w' => e = .returned (.tuple #[.bool R0, .bool R1]) ∧ Below w1.heap.size w1 w') :
    Calls Try.prog 10 #[cv, valuesv] w fun e w' => e = .returned (.bool true) ∧ Below w.heap.size w w' := by
  by_cases hl_values : values.length ≤ 1048576
  case neg => exact meets_big0 c cv values valuesv  (by omega) w h_c h_values
  by_cases hs_c : c.2.length + sumI c.2 ≤ 1048576
  case neg => exact meets_big1 c cv values valuesv hl_values (by omega) w h_c h_values
  have hok_c : CnOk c := by
    obtain ⟨h0, s, _, h1⟩ := h_c
    exact ⟨h0, by omega, fun b hb => by have := sumI_mem c.2 b hb; omega⟩
  have hok_values : values.length ≤ 1048576 := by omega
  exact meets_small c cv values valuesv R0 R1  hok_c hok_values hs_c w h_c h_values (GS0 hok_c hok_values hs_c) (GI0 hok_c hok_values hs_c)
end Go.Proofs.Ytmjeaceabjinfaa
