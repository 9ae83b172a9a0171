/-
  The walk of the exact law of StutterAt, out of what the model's and the program's function do.
-/
import Derived.Test.YthamdefkcjfjpaaLasso
import Derived.Test.YthamdefkcjfjpaaCutT
import Derived.Test.YthamdefkcjfjpaaOwn5
namespace Go.Proofs.Ythamdefkcjfjpaa
open Go Go.RowKit
open M
set_option linter.unusedVariables false

set_option maxRecDepth 100000 in
set_option maxHeartbeats 8000000 in
theorem stutterAt_small (l : La) (lv : Value) (k : Int) (hf_k : Fit k) (R0 : La) (R1 : Bool) (hR0 : LaOk R0) (hok_l : LaOk l) (htot_l : l.1.length + l.2.length ≤ 1048576) (w : World) (h_l : AtLa w lv l) (GS0 : ∀ (l1 : Value) (w1 : World), Below w.heap.size w w1 → AtLS w1 l1 l → Calls Try.prog 26 #[l1, .int .i64 k] w1 fun e w' => ∃ r0, e = .returned (.tuple #[r0, .bool R1]) ∧ OwnLa w' w1.heap.size w'.heap.size r0 R0 ∧ Below w1.heap.size w1 w') (GI0 : ∀ (l1 : Value) (w1 : World), Below w.heap.size w w1 → AtLS w1 l1 l → Calls Try.prog 25 #[l1, .int .i64 k] w1 fun e w' => ∃ r0, e = .returned (.tuple #[r0, .bool R1]) ∧ OwnLa w' w1.heap.size w'.heap.size r0 R0 ∧ Below w1.heap.size w1 w') :
    Calls Try.prog 12 #[lv, .int .i64 k] w fun e w' => e = .returned (.bool true) ∧ Below w.heap.size w w' := by
  have GS : Hid (∀ (l1 : Value) (w1 : World), Below w.heap.size w w1 → AtLS w1 l1 l → Calls Try.prog 26 #[l1, .int .i64 k] w1 fun e w' => ∃ r0, e = .returned (.tuple #[r0, .bool R1]) ∧ OwnLa w' w1.heap.size w'.heap.size r0 R0 ∧ Below w1.heap.size w1 w') := GS0
  have GI : Hid (∀ (l1 : Value) (w1 : World), Below w.heap.size w w1 → AtLS w1 l1 l → Calls Try.prog 25 #[l1, .int .i64 k] w1 fun e w' => ∃ r0, e = .returned (.tuple #[r0, .bool R1]) ∧ OwnLa w' w1.heap.size w'.heap.size r0 R0 ∧ Below w1.heap.size w1 w') := GI0
  clear GS0 GI0
  have Z : Hid (∀ w1 : World, Below w.heap.size w w1 → Calls Try.prog 36 #[lv, .int .i64 1048576] w1 fun e w' => e = .returned (.int .i64 (1048576 - (l.1.length : Int) - (l.2.length : Int))) ∧ Below w1.heap.size w1 w') := fun w1 hb => szLasso_small lv l htot_l w1 (h_l.below hb)
  obtain ⟨n0, hn0⟩ : ∃ n0 : Int, (1048576 - (l.1.length : Int) - (l.2.length : Int)) = n0 := ⟨_, rfl⟩
  have hn1 : 0 ≤ n0 := by omega
  rw [hn0] at Z
  have GT_l : Hid (∀ w1 : World, Below w.heap.size w w1 → Calls Try.prog 37 #[lv] w1 fun e w' => ∃ v', e = .returned v' ∧ OwnLa w' w1.heap.size w'.heap.size v' l ∧ Below w1.heap.size w1 w') := fun w1 hb => toLasso_any lv l hok_l w1 (h_l.below hb)
  have GE_l : Hid (∀ (u v : Value) (w1 : World), AtLa w1 u l → AtLa w1 v l → Calls Try.prog 38 #[u, v] w1 fun e w' => e = .returned (.bool true) ∧ Below w1.heap.size w1 w') := fun u v w1 h1 h2 => eqLasso_same u v l w1 h1 h2
  have HN_l : Hid (∀ (w1 : World) (lo hi : Nat) (v1 : Value), OwnLa w1 lo hi v1 l → AtLa w1 v1 l) := fun w1 lo hi v1 ho => ho.reads hok_l
  have HC_l : Hid (∀ (w1 : World) (lo hi : Nat) (v1 : Value), OwnLa w1 lo hi v1 l → AtLS w1 v1 l) := fun w1 lo hi v1 ho => ho.hands hok_l
  have GE_R0 : Hid (∀ (u v : Value) (w1 : World), AtLa w1 u R0 → AtLa w1 v R0 → Calls Try.prog 38 #[u, v] w1 fun e w' => e = .returned (.bool true) ∧ Below w1.heap.size w1 w') := fun u v w1 h1 h2 => eqLasso_same u v R0 w1 h1 h2
  have HN_R0 : Hid (∀ (w1 : World) (lo hi : Nat) (v1 : Value), OwnLa w1 lo hi v1 R0 → AtLa w1 v1 R0) := fun w1 lo hi v1 ho => ho.reads hR0
  have GM_l : Hid (∀ (v : Value) (lo hi : Nat) (k : Int) (w1 : World), 0 ≤ k → k ≤ 100000000000 → OwnLa w1 lo hi v l → Calls Try.prog 40 #[v, .int .i64 k] w1 fun e w' => e = .returned (.int .i64 (k + lenLa l)) ∧ MarkLa w' lo hi v l k ∧ Touch lo hi w1 w') := fun v lo hi k w1 h0 h1 ho => markLasso_any v l lo hi k hok_l h0 h1 w1 ho
  have hle_l : 0 ≤ lenLa l ∧ lenLa l ≤ 4194304 := by have := hok_l.1; have := hok_l.2; unfold lenLa; omega
  obtain ⟨Ll, hLl⟩ : ∃ L : Int, lenLa l = L := ⟨_, rfl⟩
  rw [hLl] at GM_l hle_l
  clear hLl
  obtain ⟨hle0_l, hle1_l⟩ := hle_l
  have GM_R0 : Hid (∀ (v : Value) (lo hi : Nat) (k : Int) (w1 : World), 0 ≤ k → k ≤ 100000000000 → OwnLa w1 lo hi v R0 → Calls Try.prog 40 #[v, .int .i64 k] w1 fun e w' => e = .returned (.int .i64 (k + lenLa R0)) ∧ MarkLa w' lo hi v R0 k ∧ Touch lo hi w1 w') := fun v lo hi k w1 h0 h1 ho => markLasso_any v R0 lo hi k hR0 h0 h1 w1 ho
  have GH_R0 : Hid (∀ (v : Value) (lo hi : Nat) (k : Int) (w1 : World), 0 ≤ k → k ≤ 100000000000 → MarkLa w1 lo hi v R0 k → Calls Try.prog 43 #[v, .int .i64 k] w1 fun e w' => e = .returned (.int .i64 (k + lenLa R0)) ∧ Below w1.heap.size w1 w') := fun v lo hi k w1 h0 h1 ho => heldLasso_any v R0 lo hi k hR0 h0 h1 w1 ho
  have hle_R0 : 0 ≤ lenLa R0 ∧ lenLa R0 ≤ 4194304 := by have := hR0.1; have := hR0.2; unfold lenLa; omega
  obtain ⟨LR0, hLR0⟩ : ∃ L : Int, lenLa R0 = L := ⟨_, rfl⟩
  rw [hLR0] at GM_R0 hle_R0 GH_R0
  clear hLR0
  obtain ⟨hle0_R0, hle1_R0⟩ := hle_R0
  obtain ⟨lsa, lsn, lsc, loa, lon, loc, rfl⟩ := h_l.shape
  clear hn0 htot_l
  clear h_l hok_l hR0
  go_enter Try.func12, Try.ntmps12
  have hb0_0 := Below.refl w.heap.size w
  go_wp2_with fail
  have hb0_1 := hb0_0.alloc hb0_0.size (.cells #[.slice lsa lsn lsc, .slice loa lon loc] 44)
  clear hb0_0
  have hal := (Below.refl w.heap.size w).alloc (Nat.le_refl _) (.cells #[.slice lsa lsn lsc, .slice loa lon loc] 44)
  have hx_2 := box2_alloc w 44 (.slice lsa lsn lsc) (.slice loa lon loc)
  have hbl_a_l := hx_2.lt
  have hsz_w1 := hal.size
  clear hal
  generalize (w.alloc (.cells #[.slice lsa lsn lsc, .slice loa lon loc] 44)) = w1 at *
  refine (Z.out _ hb0_1).mono ?_
  rintro e w2 ⟨rfl, hstep⟩
  have hb0_3 := Below.step hb0_1 hb0_1.size hstep
  clear hb0_1
  have hx_4 := hx_2.below hstep hx_2.lt
  clear hx_2
  have hsz_w2 := hstep.size
  clear hstep
  clear Z
  obtain ⟨bc_5a, bc_5b⟩ := hx_4.cells
  have bc_5h := hx_4.heap
  have bc_5l := hx_4.lt
  go_wp2_with fail
  clear bc_5a bc_5b bc_5h bc_5l
  refine (GT_l.out _ hb0_3).mono ?_
  rintro e w3 ⟨sl, rfl, hnew, hstep⟩
  have hb0_6 := Below.step hb0_3 hb0_3.size hstep
  clear hb0_3
  have hx_7 := hx_4.below hstep hx_4.lt
  clear hx_4
  have hsz_w3 := hstep.size
  clear hstep
  have ho_8 := hnew
  clear hnew
  obtain ⟨slsa, slsn, slsc, sloa, slon, sloc, rfl⟩ := ho_8.shape
  obtain ⟨bc_9a, bc_9b⟩ := hx_7.cells
  have bc_9h := hx_7.heap
  have bc_9l := hx_7.lt
  go_wp2_with fail
  clear bc_9a bc_9b bc_9h bc_9l
  refine (GS.out _ _ hb0_6 (HC_l.out _ _ _ _ ho_8)).mono ?_
  rintro e w4 ⟨u0, rfl, hu0, hstep⟩
  have hb0_10 := Below.step hb0_6 hb0_6.size hstep
  clear hb0_6
  have ho_11 := ho_8.same hstep.size (fun i _ h2 => hstep.block i (Nat.lt_of_lt_of_le h2 ho_8.hi))
  clear ho_8
  have hx_12 := hx_7.below hstep hx_7.lt
  clear hx_7
  have hsz_w4 := hstep.size
  clear hstep
  clear GS
  clear ho_11
  obtain ⟨u0sa, u0sn, u0sc, u0oa, u0on, u0oc, rfl⟩ := hu0.shape
  have HU0 : Hid (∀ w_ : World, Below w4.heap.size w4 w_ → AtLa w_ (.agg #[.slice u0sa u0sn u0sc, .slice u0oa u0on u0oc]) R0) := fun w_ hb => (HN_R0.out _ _ _ _ hu0).below hb
  clear hu0
  have hbA_13 := Below.refl w4.heap.size w4
  obtain ⟨bc_14a, bc_14b⟩ := hx_12.cells
  have bc_14h := hx_12.heap
  have bc_14l := hx_12.lt
  go_wp2_with fail
  clear bc_14a bc_14b bc_14h bc_14l
  have hb0_15 := hb0_10.alloc hb0_10.size (.cells #[.slice u0sa u0sn u0sc, .slice u0oa u0on u0oc] 26)
  clear hb0_10
  have hbA_16 := hbA_13.alloc hbA_13.size (.cells #[.slice u0sa u0sn u0sc, .slice u0oa u0on u0oc] 26)
  clear hbA_13
  have hal := (Below.refl w4.heap.size w4).alloc (Nat.le_refl _) (.cells #[.slice u0sa u0sn u0sc, .slice u0oa u0on u0oc] 26)
  have hx_17 := hx_12.alloc (.cells #[.slice u0sa u0sn u0sc, .slice u0oa u0on u0oc] 26)
  clear hx_12
  have hx_18 := box2_alloc w4 26 (.slice u0sa u0sn u0sc) (.slice u0oa u0on u0oc)
  have hbl_u0 := hx_18.lt
  have hsz_w5 := hal.size
  clear hal
  generalize (w4.alloc (.cells #[.slice u0sa u0sn u0sc, .slice u0oa u0on u0oc] 26)) = w5 at *
  refine (GT_l.out _ hb0_15).mono ?_
  rintro e w6 ⟨xl, rfl, hnew, hstep⟩
  have hb0_19 := Below.step hb0_15 hb0_15.size hstep
  clear hb0_15
  have hbA_20 := Below.step hbA_16 hbA_16.size hstep
  clear hbA_16
  have hx_21 := hx_17.below hstep hx_17.lt
  clear hx_17
  have hx_22 := hx_18.below hstep hx_18.lt
  clear hx_18
  have hsz_w6 := hstep.size
  clear hstep
  have ho_23 := hnew
  clear hnew
  obtain ⟨xlsa, xlsn, xlsc, xloa, xlon, xloc, rfl⟩ := ho_23.shape
  obtain ⟨bc_24a, bc_24b⟩ := hx_21.cells
  have bc_24h := hx_21.heap
  have bc_24l := hx_21.lt
  obtain ⟨bc_25a, bc_25b⟩ := hx_22.cells
  have bc_25h := hx_22.heap
  have bc_25l := hx_22.lt
  go_wp2_with fail
  clear bc_24a bc_24b bc_24h bc_24l bc_25a bc_25b bc_25h bc_25l
  have hb0_26 := hb0_19.alloc hb0_19.size (.cells #[.slice xlsa xlsn xlsc, .slice xloa xlon xloc] 26)
  clear hb0_19
  have hbA_27 := hbA_20.alloc hbA_20.size (.cells #[.slice xlsa xlsn xlsc, .slice xloa xlon xloc] 26)
  clear hbA_20
  have hal := (Below.refl w6.heap.size w6).alloc (Nat.le_refl _) (.cells #[.slice xlsa xlsn xlsc, .slice xloa xlon xloc] 26)
  have ho_28 := ho_23.same hal.size (fun i _ h2 => hal.block i (Nat.lt_of_lt_of_le h2 ho_23.hi))
  clear ho_23
  have hx_29 := hx_21.alloc (.cells #[.slice xlsa xlsn xlsc, .slice xloa xlon xloc] 26)
  clear hx_21
  have hx_30 := hx_22.alloc (.cells #[.slice xlsa xlsn xlsc, .slice xloa xlon xloc] 26)
  clear hx_22
  have hx_31 := box2_alloc w6 26 (.slice xlsa xlsn xlsc) (.slice xloa xlon xloc)
  have hbl_xl := hx_31.lt
  have hsz_w7 := hal.size
  clear hal
  generalize (w6.alloc (.cells #[.slice xlsa xlsn xlsc, .slice xloa xlon xloc] 26)) = w7 at *
  refine (GI.out _ _ hb0_26 (HC_l.out _ _ _ _ ho_28)).mono ?_
  rintro e w8 ⟨y0, rfl, hn0, hstep⟩
  have hb0_32 := Below.step hb0_26 hb0_26.size hstep
  clear hb0_26
  have hbA_33 := Below.step hbA_27 hbA_27.size hstep
  clear hbA_27
  have ho_34 := ho_28.same hstep.size (fun i _ h2 => hstep.block i (Nat.lt_of_lt_of_le h2 ho_28.hi))
  clear ho_28
  have hx_35 := hx_29.below hstep hx_29.lt
  clear hx_29
  have hx_36 := hx_30.below hstep hx_30.lt
  clear hx_30
  have hx_37 := hx_31.below hstep hx_31.lt
  clear hx_31
  have hsz_w8 := hstep.size
  clear hstep
  have ho_38 := hn0
  clear hn0
  obtain ⟨y0sa, y0sn, y0sc, y0oa, y0on, y0oc, rfl⟩ := ho_38.shape
  obtain ⟨bc_39a, bc_39b⟩ := hx_35.cells
  have bc_39h := hx_35.heap
  have bc_39l := hx_35.lt
  obtain ⟨bc_40a, bc_40b⟩ := hx_36.cells
  have bc_40h := hx_36.heap
  have bc_40l := hx_36.lt
  obtain ⟨bc_41a, bc_41b⟩ := hx_37.cells
  have bc_41h := hx_37.heap
  have bc_41l := hx_37.lt
  go_wp2_with fail
  clear bc_39a bc_39b bc_39h bc_39l bc_40a bc_40b bc_40h bc_40l bc_41a bc_41b bc_41h bc_41l
  have hb0_42 := hb0_32.alloc hb0_32.size (.cells #[.slice y0sa y0sn y0sc, .slice y0oa y0on y0oc] 26)
  clear hb0_32
  have hbA_43 := hbA_33.alloc hbA_33.size (.cells #[.slice y0sa y0sn y0sc, .slice y0oa y0on y0oc] 26)
  clear hbA_33
  have hal := (Below.refl w8.heap.size w8).alloc (Nat.le_refl _) (.cells #[.slice y0sa y0sn y0sc, .slice y0oa y0on y0oc] 26)
  have ho_44 := ho_34.same hal.size (fun i _ h2 => hal.block i (Nat.lt_of_lt_of_le h2 ho_34.hi))
  clear ho_34
  have ho_45 := ho_38.same hal.size (fun i _ h2 => hal.block i (Nat.lt_of_lt_of_le h2 ho_38.hi))
  clear ho_38
  have hx_46 := hx_35.alloc (.cells #[.slice y0sa y0sn y0sc, .slice y0oa y0on y0oc] 26)
  clear hx_35
  have hx_47 := hx_36.alloc (.cells #[.slice y0sa y0sn y0sc, .slice y0oa y0on y0oc] 26)
  clear hx_36
  have hx_48 := hx_37.alloc (.cells #[.slice y0sa y0sn y0sc, .slice y0oa y0on y0oc] 26)
  clear hx_37
  have hx_49 := box2_alloc w8 26 (.slice y0sa y0sn y0sc) (.slice y0oa y0on y0oc)
  have hbl_y0 := hx_49.lt
  have hsz_w9 := hal.size
  clear hal
  generalize (w8.alloc (.cells #[.slice y0sa y0sn y0sc, .slice y0oa y0on y0oc] 26)) = w9 at *
  refine (GE_R0.out _ _ _ (HN_R0.out _ _ _ _ ho_45) (HU0.out _ hbA_43)).mono ?_
  rintro e w10 ⟨rfl, hstep⟩
  have hb0_50 := Below.step hb0_42 hb0_42.size hstep
  clear hb0_42
  have hbA_51 := Below.step hbA_43 hbA_43.size hstep
  clear hbA_43
  have ho_52 := ho_44.same hstep.size (fun i _ h2 => hstep.block i (Nat.lt_of_lt_of_le h2 ho_44.hi))
  clear ho_44
  have ho_53 := ho_45.same hstep.size (fun i _ h2 => hstep.block i (Nat.lt_of_lt_of_le h2 ho_45.hi))
  clear ho_45
  have hx_54 := hx_46.below hstep hx_46.lt
  clear hx_46
  have hx_55 := hx_47.below hstep hx_47.lt
  clear hx_47
  have hx_56 := hx_48.below hstep hx_48.lt
  clear hx_48
  have hx_57 := hx_49.below hstep hx_49.lt
  clear hx_49
  have hsz_w10 := hstep.size
  clear hstep
  obtain ⟨bc_58a, bc_58b⟩ := hx_54.cells
  have bc_58h := hx_54.heap
  have bc_58l := hx_54.lt
  obtain ⟨bc_59a, bc_59b⟩ := hx_55.cells
  have bc_59h := hx_55.heap
  have bc_59l := hx_55.lt
  obtain ⟨bc_60a, bc_60b⟩ := hx_56.cells
  have bc_60h := hx_56.heap
  have bc_60l := hx_56.lt
  obtain ⟨bc_61a, bc_61b⟩ := hx_57.cells
  have bc_61h := hx_57.heap
  have bc_61l := hx_57.lt
  go_wp2_with fail
  clear bc_58a bc_58b bc_58h bc_58l bc_59a bc_59b bc_59h bc_59l bc_60a bc_60b bc_60h bc_60l bc_61a bc_61b bc_61h bc_61l
  have HXA : Hid (∀ w_ : World, Below w10.heap.size w10 w_ → AtLa w_ (.agg #[.slice xlsa xlsn xlsc, .slice xloa xlon xloc]) l) := fun w_ hb => (HN_l.out _ _ _ _ ho_52).below hb
  have HH_a_l : Hid (∀ w_ : World, Below w10.heap.size w10 w_ → Box2 w_ (w.heap.size) 44 (.slice lsa lsn lsc) (.slice loa lon loc)) := fun w_ hb => hx_54.below hb hx_54.lt
  have HH_xl : Hid (∀ w_ : World, Below w10.heap.size w10 w_ → Box2 w_ (w6.heap.size) 26 (.slice xlsa xlsn xlsc) (.slice xloa xlon xloc)) := fun w_ hb => hx_56.below hb hx_56.lt
  go_cut [49] from 45 to 49 (fun s wx => s = .bool false ∧ Hid (Below w10.heap.size w10 wx))
  case first =>
    obtain ⟨bc_62a, bc_62b⟩ := hx_54.cells
    have bc_62h := hx_54.heap
    have bc_62l := hx_54.lt
    obtain ⟨bc_63a, bc_63b⟩ := hx_55.cells
    have bc_63h := hx_55.heap
    have bc_63l := hx_55.lt
    obtain ⟨bc_64a, bc_64b⟩ := hx_56.cells
    have bc_64h := hx_56.heap
    have bc_64l := hx_56.lt
    obtain ⟨bc_65a, bc_65b⟩ := hx_57.cells
    have bc_65h := hx_57.heap
    have bc_65l := hx_57.lt
    have HB0 : Hid (Below w.heap.size w w10) := hb0_50
    clear hb0_50 hbA_51 ho_52 ho_53 hx_54 hx_55 hx_56 hx_57
    go_region_with (first | (go_at_call 37; refine (GT_l.out _ (by first | exact HB0.out | exact HB0.out.drew | exact HB0.out.drew.drew | exact HB0.out.drew.drew.drew)).mono ?_; rintro e wn ⟨c_, rfl, hnew, hstep⟩; have HS : Hid (Below w10.heap.size w10 wn) := (by first | exact hstep | exact (Below.refl _ _).drew.trans hstep | exact (Below.refl _ _).drew.drew.trans hstep); have hcr := HN_l.out _ _ _ _ hnew; obtain ⟨zsa, zsn, zsc, zoa, zon, zoc, rfl⟩ := hcr.shape; have HC : Hid (AtLa wn (.agg #[.slice zsa zsn zsc, .slice zoa zon zoc]) l) := hcr; have yx := HH_xl.out _ HS.out; have yxh := yx.heap; obtain ⟨yx0, yx1⟩ := yx.cells; have yxl := yx.lt; clear hstep hnew hcr yx) | (go_at_call 38; refine (GE_l.out _ _ _ (HXA.out _ (by first | exact HS.out | exact HS.out.drew | exact HS.out.drew.drew | exact HS.out.drew.drew.drew)) (by first | exact HC.out | exact HC.out.below (Below.refl _ _).drew | exact HC.out.below (Below.refl _ _).drew.drew)).mono ?_; rintro e wm ⟨rfl, hstep⟩; have HS2 : Hid (Below w10.heap.size w10 wm) := (by first | exact HS.out.trans (hstep.mono HS.out.size) | exact HS.out.drew.trans (hstep.mono HS.out.size) | exact HS.out.drew.drew.trans (hstep.mono HS.out.size)); clear hstep))
    all_goals
      go_wp2_with fail
      go_meet
      case rel => exact ⟨rfl, by first | exact HS2 | exact HS2.out.drew | exact HS2.out.drew.drew⟩
  obtain ⟨rfl, HCUT⟩ := hcut
  have hstep := HCUT.out
  clear HCUT HXA HH_a_l HH_xl
  have hb0_66 := Below.step hb0_50 hb0_50.size hstep
  clear hb0_50
  have hbA_67 := Below.step hbA_51 hbA_51.size hstep
  clear hbA_51
  have ho_68 := ho_52.same hstep.size (fun i _ h2 => hstep.block i (Nat.lt_of_lt_of_le h2 ho_52.hi))
  clear ho_52
  have ho_69 := ho_53.same hstep.size (fun i _ h2 => hstep.block i (Nat.lt_of_lt_of_le h2 ho_53.hi))
  clear ho_53
  have hx_70 := hx_54.below hstep hx_54.lt
  clear hx_54
  have hx_71 := hx_55.below hstep hx_55.lt
  clear hx_55
  have hx_72 := hx_56.below hstep hx_56.lt
  clear hx_56
  have hx_73 := hx_57.below hstep hx_57.lt
  clear hx_57
  have hsz_wc_74 := hstep.size
  clear hstep
  obtain ⟨bc_75a, bc_75b⟩ := hx_70.cells
  have bc_75h := hx_70.heap
  have bc_75l := hx_70.lt
  obtain ⟨bc_76a, bc_76b⟩ := hx_71.cells
  have bc_76h := hx_71.heap
  have bc_76l := hx_71.lt
  obtain ⟨bc_77a, bc_77b⟩ := hx_72.cells
  have bc_77h := hx_72.heap
  have bc_77l := hx_72.lt
  obtain ⟨bc_78a, bc_78b⟩ := hx_73.cells
  have bc_78h := hx_73.heap
  have bc_78l := hx_73.lt
  go_wp2_with fail
  clear bc_75a bc_75b bc_75h bc_75l bc_76a bc_76b bc_76h bc_76l bc_77a bc_77b bc_77h bc_77l bc_78a bc_78b bc_78h bc_78l
  refine (GM_l.out _ _ _ (1) _ (by omega) (by omega) ho_68).mono ?_
  rintro e w12 ⟨rfl, hmk, htc⟩
  have hb0_79 := Touch.below hb0_66 (by omega) hb0_66.size htc
  clear hb0_66
  have hbA_80 := Touch.below hbA_67 (by omega) hbA_67.size htc
  clear hbA_67
  have ho_81 := ho_69.same htc.size (fun i h1 h2 => htc.block i (Nat.lt_of_lt_of_le h2 ho_69.hi) (by omega))
  clear ho_69
  have hx_82 : Box2 w12 (w.heap.size) 44 (.slice lsa lsn lsc) (.slice loa lon loc) := ⟨by rw [htc.block _ hx_70.lt (by omega)]; exact hx_70.heap⟩
  clear hx_70
  have hx_83 : Box2 w12 (w4.heap.size) 26 (.slice u0sa u0sn u0sc) (.slice u0oa u0on u0oc) := ⟨by rw [htc.block _ hx_71.lt (by omega)]; exact hx_71.heap⟩
  clear hx_71
  have hx_84 : Box2 w12 (w6.heap.size) 26 (.slice xlsa xlsn xlsc) (.slice xloa xlon xloc) := ⟨by rw [htc.block _ hx_72.lt (by omega)]; exact hx_72.heap⟩
  clear hx_72
  have hx_85 : Box2 w12 (w8.heap.size) 26 (.slice y0sa y0sn y0sc) (.slice y0oa y0on y0oc) := ⟨by rw [htc.block _ hx_73.lt (by omega)]; exact hx_73.heap⟩
  clear hx_73
  have hsz_w12 := htc.size
  have ho_86 := hmk
  clear hmk htc ho_68
  clear ho_86
  obtain ⟨bc_87a, bc_87b⟩ := hx_82.cells
  have bc_87h := hx_82.heap
  have bc_87l := hx_82.lt
  obtain ⟨bc_88a, bc_88b⟩ := hx_83.cells
  have bc_88h := hx_83.heap
  have bc_88l := hx_83.lt
  obtain ⟨bc_89a, bc_89b⟩ := hx_84.cells
  have bc_89h := hx_84.heap
  have bc_89l := hx_84.lt
  obtain ⟨bc_90a, bc_90b⟩ := hx_85.cells
  have bc_90h := hx_85.heap
  have bc_90l := hx_85.lt
  go_wp2_with fail
  clear bc_87a bc_87b bc_87h bc_87l bc_88a bc_88b bc_88h bc_88l bc_89a bc_89b bc_89h bc_89l bc_90a bc_90b bc_90h bc_90l
  refine (GE_R0.out _ _ _ (HN_R0.out _ _ _ _ ho_81) (HU0.out _ hbA_80)).mono ?_
  rintro e w13 ⟨rfl, hstep⟩
  have hb0_91 := Below.step hb0_79 hb0_79.size hstep
  clear hb0_79
  have hbA_92 := Below.step hbA_80 hbA_80.size hstep
  clear hbA_80
  have ho_93 := ho_81.same hstep.size (fun i _ h2 => hstep.block i (Nat.lt_of_lt_of_le h2 ho_81.hi))
  clear ho_81
  have hx_94 := hx_82.below hstep hx_82.lt
  clear hx_82
  have hx_95 := hx_83.below hstep hx_83.lt
  clear hx_83
  have hx_96 := hx_84.below hstep hx_84.lt
  clear hx_84
  have hx_97 := hx_85.below hstep hx_85.lt
  clear hx_85
  have hsz_w13 := hstep.size
  clear hstep
  obtain ⟨bc_98a, bc_98b⟩ := hx_94.cells
  have bc_98h := hx_94.heap
  have bc_98l := hx_94.lt
  obtain ⟨bc_99a, bc_99b⟩ := hx_95.cells
  have bc_99h := hx_95.heap
  have bc_99l := hx_95.lt
  obtain ⟨bc_100a, bc_100b⟩ := hx_96.cells
  have bc_100h := hx_96.heap
  have bc_100l := hx_96.lt
  obtain ⟨bc_101a, bc_101b⟩ := hx_97.cells
  have bc_101h := hx_97.heap
  have bc_101l := hx_97.lt
  go_wp2_with fail
  clear bc_98a bc_98b bc_98h bc_98l bc_99a bc_99b bc_99h bc_99l bc_100a bc_100b bc_100h bc_100l bc_101a bc_101b bc_101h bc_101l
  refine (GM_R0.out _ _ _ (1) _ (by omega) (by omega) ho_93).mono ?_
  rintro e w14 ⟨rfl, hmk, htc⟩
  have hb0_102 := Touch.below hb0_91 (by omega) hb0_91.size htc
  clear hb0_91
  have hbA_103 := Touch.below hbA_92 (by omega) hbA_92.size htc
  clear hbA_92
  have hx_104 : Box2 w14 (w.heap.size) 44 (.slice lsa lsn lsc) (.slice loa lon loc) := ⟨by rw [htc.block _ hx_94.lt (by omega)]; exact hx_94.heap⟩
  clear hx_94
  have hx_105 : Box2 w14 (w4.heap.size) 26 (.slice u0sa u0sn u0sc) (.slice u0oa u0on u0oc) := ⟨by rw [htc.block _ hx_95.lt (by omega)]; exact hx_95.heap⟩
  clear hx_95
  have hx_106 : Box2 w14 (w6.heap.size) 26 (.slice xlsa xlsn xlsc) (.slice xloa xlon xloc) := ⟨by rw [htc.block _ hx_96.lt (by omega)]; exact hx_96.heap⟩
  clear hx_96
  have hx_107 : Box2 w14 (w8.heap.size) 26 (.slice y0sa y0sn y0sc) (.slice y0oa y0on y0oc) := ⟨by rw [htc.block _ hx_97.lt (by omega)]; exact hx_97.heap⟩
  clear hx_97
  have hsz_w14 := htc.size
  have ho_108 := hmk
  clear hmk htc ho_93
  obtain ⟨bc_109a, bc_109b⟩ := hx_104.cells
  have bc_109h := hx_104.heap
  have bc_109l := hx_104.lt
  obtain ⟨bc_110a, bc_110b⟩ := hx_105.cells
  have bc_110h := hx_105.heap
  have bc_110l := hx_105.lt
  obtain ⟨bc_111a, bc_111b⟩ := hx_106.cells
  have bc_111h := hx_106.heap
  have bc_111l := hx_106.lt
  obtain ⟨bc_112a, bc_112b⟩ := hx_107.cells
  have bc_112h := hx_107.heap
  have bc_112l := hx_107.lt
  go_wp2_with fail
  clear bc_109a bc_109b bc_109h bc_109l bc_110a bc_110b bc_110h bc_110l bc_111a bc_111b bc_111h bc_111l bc_112a bc_112b bc_112h bc_112l
  refine (GH_R0.out _ _ _ (1) _ (by omega) (by omega) ho_108).mono ?_
  rintro e w15 ⟨rfl, hstep⟩
  have hb0_113 := Below.step hb0_102 hb0_102.size hstep
  clear hb0_102
  have hbA_114 := Below.step hbA_103 hbA_103.size hstep
  clear hbA_103
  have ho_115 := ho_108.same hstep.size (fun i _ h2 => hstep.block i (Nat.lt_of_lt_of_le h2 ho_108.hi))
  clear ho_108
  have hx_116 := hx_104.below hstep hx_104.lt
  clear hx_104
  have hx_117 := hx_105.below hstep hx_105.lt
  clear hx_105
  have hx_118 := hx_106.below hstep hx_106.lt
  clear hx_106
  have hx_119 := hx_107.below hstep hx_107.lt
  clear hx_107
  have hsz_w15 := hstep.size
  clear hstep
  obtain ⟨bc_120a, bc_120b⟩ := hx_116.cells
  have bc_120h := hx_116.heap
  have bc_120l := hx_116.lt
  obtain ⟨bc_121a, bc_121b⟩ := hx_117.cells
  have bc_121h := hx_117.heap
  have bc_121l := hx_117.lt
  obtain ⟨bc_122a, bc_122b⟩ := hx_118.cells
  have bc_122h := hx_118.heap
  have bc_122l := hx_118.lt
  obtain ⟨bc_123a, bc_123b⟩ := hx_119.cells
  have bc_123h := hx_119.heap
  have bc_123l := hx_119.lt
  go_wp2_with fail
  clear bc_120a bc_120b bc_120h bc_120l bc_121a bc_121b bc_121h bc_121l bc_122a bc_122b bc_122h bc_122l bc_123a bc_123b bc_123h bc_123l
  refine (GT_l.out _ hb0_113).mono ?_
  rintro e w16 ⟨tl, rfl, hnew, hstep⟩
  have hb0_124 := Below.step hb0_113 hb0_113.size hstep
  clear hb0_113
  have hbA_125 := Below.step hbA_114 hbA_114.size hstep
  clear hbA_114
  have ho_126 := ho_115.same hstep.size (fun i _ h2 => hstep.block i (Nat.lt_of_lt_of_le h2 ho_115.hi))
  clear ho_115
  have hx_127 := hx_116.below hstep hx_116.lt
  clear hx_116
  have hx_128 := hx_117.below hstep hx_117.lt
  clear hx_117
  have hx_129 := hx_118.below hstep hx_118.lt
  clear hx_118
  have hx_130 := hx_119.below hstep hx_119.lt
  clear hx_119
  have hsz_w16 := hstep.size
  clear hstep
  have ho_131 := hnew
  clear hnew
  obtain ⟨tlsa, tlsn, tlsc, tloa, tlon, tloc, rfl⟩ := ho_131.shape
  obtain ⟨bc_132a, bc_132b⟩ := hx_127.cells
  have bc_132h := hx_127.heap
  have bc_132l := hx_127.lt
  obtain ⟨bc_133a, bc_133b⟩ := hx_128.cells
  have bc_133h := hx_128.heap
  have bc_133l := hx_128.lt
  obtain ⟨bc_134a, bc_134b⟩ := hx_129.cells
  have bc_134h := hx_129.heap
  have bc_134l := hx_129.lt
  obtain ⟨bc_135a, bc_135b⟩ := hx_130.cells
  have bc_135h := hx_130.heap
  have bc_135l := hx_130.lt
  go_wp2_with fail
  clear bc_132a bc_132b bc_132h bc_132l bc_133a bc_133b bc_133h bc_133l bc_134a bc_134b bc_134h bc_134l bc_135a bc_135b bc_135h bc_135l
  refine (GI.out _ _ hb0_124 (HC_l.out _ _ _ _ ho_131)).mono ?_
  rintro e w17 ⟨h0, rfl, hn0, hstep⟩
  have hb0_136 := Below.step hb0_124 hb0_124.size hstep
  clear hb0_124
  have hbA_137 := Below.step hbA_125 hbA_125.size hstep
  clear hbA_125
  have ho_138 := ho_126.same hstep.size (fun i _ h2 => hstep.block i (Nat.lt_of_lt_of_le h2 ho_126.hi))
  clear ho_126
  have ho_139 := ho_131.same hstep.size (fun i _ h2 => hstep.block i (Nat.lt_of_lt_of_le h2 ho_131.hi))
  clear ho_131
  have hx_140 := hx_127.below hstep hx_127.lt
  clear hx_127
  have hx_141 := hx_128.below hstep hx_128.lt
  clear hx_128
  have hx_142 := hx_129.below hstep hx_129.lt
  clear hx_129
  have hx_143 := hx_130.below hstep hx_130.lt
  clear hx_130
  have hsz_w17 := hstep.size
  clear hstep
  have ho_144 := hn0
  clear hn0
  obtain ⟨h0sa, h0sn, h0sc, h0oa, h0on, h0oc, rfl⟩ := ho_144.shape
  clear ho_139
  obtain ⟨bc_145a, bc_145b⟩ := hx_140.cells
  have bc_145h := hx_140.heap
  have bc_145l := hx_140.lt
  obtain ⟨bc_146a, bc_146b⟩ := hx_141.cells
  have bc_146h := hx_141.heap
  have bc_146l := hx_141.lt
  obtain ⟨bc_147a, bc_147b⟩ := hx_142.cells
  have bc_147h := hx_142.heap
  have bc_147l := hx_142.lt
  obtain ⟨bc_148a, bc_148b⟩ := hx_143.cells
  have bc_148h := hx_143.heap
  have bc_148l := hx_143.lt
  go_wp2_with fail
  clear bc_145a bc_145b bc_145h bc_145l bc_146a bc_146b bc_146h bc_146l bc_147a bc_147b bc_147h bc_147l bc_148a bc_148b bc_148h bc_148l
  have hb0_149 := hb0_136.alloc hb0_136.size (.cells #[.slice h0sa h0sn h0sc, .slice h0oa h0on h0oc] 26)
  clear hb0_136
  have hbA_150 := hbA_137.alloc hbA_137.size (.cells #[.slice h0sa h0sn h0sc, .slice h0oa h0on h0oc] 26)
  clear hbA_137
  have hal := (Below.refl w17.heap.size w17).alloc (Nat.le_refl _) (.cells #[.slice h0sa h0sn h0sc, .slice h0oa h0on h0oc] 26)
  have ho_151 := ho_138.same hal.size (fun i _ h2 => hal.block i (Nat.lt_of_lt_of_le h2 ho_138.hi))
  clear ho_138
  have ho_152 := ho_144.same hal.size (fun i _ h2 => hal.block i (Nat.lt_of_lt_of_le h2 ho_144.hi))
  clear ho_144
  have hx_153 := hx_140.alloc (.cells #[.slice h0sa h0sn h0sc, .slice h0oa h0on h0oc] 26)
  clear hx_140
  have hx_154 := hx_141.alloc (.cells #[.slice h0sa h0sn h0sc, .slice h0oa h0on h0oc] 26)
  clear hx_141
  have hx_155 := hx_142.alloc (.cells #[.slice h0sa h0sn h0sc, .slice h0oa h0on h0oc] 26)
  clear hx_142
  have hx_156 := hx_143.alloc (.cells #[.slice h0sa h0sn h0sc, .slice h0oa h0on h0oc] 26)
  clear hx_143
  have hx_157 := box2_alloc w17 26 (.slice h0sa h0sn h0sc) (.slice h0oa h0on h0oc)
  have hbl_h0 := hx_157.lt
  have hsz_w18 := hal.size
  clear hal
  generalize (w17.alloc (.cells #[.slice h0sa h0sn h0sc, .slice h0oa h0on h0oc] 26)) = w18 at *
  refine (GE_R0.out _ _ _ (HN_R0.out _ _ _ _ ho_152) (HU0.out _ hbA_150)).mono ?_
  rintro e w19 ⟨rfl, hstep⟩
  have hb0_158 := Below.step hb0_149 hb0_149.size hstep
  clear hb0_149
  have hbA_159 := Below.step hbA_150 hbA_150.size hstep
  clear hbA_150
  have ho_160 := ho_151.same hstep.size (fun i _ h2 => hstep.block i (Nat.lt_of_lt_of_le h2 ho_151.hi))
  clear ho_151
  have ho_161 := ho_152.same hstep.size (fun i _ h2 => hstep.block i (Nat.lt_of_lt_of_le h2 ho_152.hi))
  clear ho_152
  have hx_162 := hx_153.below hstep hx_153.lt
  clear hx_153
  have hx_163 := hx_154.below hstep hx_154.lt
  clear hx_154
  have hx_164 := hx_155.below hstep hx_155.lt
  clear hx_155
  have hx_165 := hx_156.below hstep hx_156.lt
  clear hx_156
  have hx_166 := hx_157.below hstep hx_157.lt
  clear hx_157
  have hsz_w19 := hstep.size
  clear hstep
  clear ho_161
  obtain ⟨bc_167a, bc_167b⟩ := hx_162.cells
  have bc_167h := hx_162.heap
  have bc_167l := hx_162.lt
  obtain ⟨bc_168a, bc_168b⟩ := hx_163.cells
  have bc_168h := hx_163.heap
  have bc_168l := hx_163.lt
  obtain ⟨bc_169a, bc_169b⟩ := hx_164.cells
  have bc_169h := hx_164.heap
  have bc_169l := hx_164.lt
  obtain ⟨bc_170a, bc_170b⟩ := hx_165.cells
  have bc_170h := hx_165.heap
  have bc_170l := hx_165.lt
  obtain ⟨bc_171a, bc_171b⟩ := hx_166.cells
  have bc_171h := hx_166.heap
  have bc_171l := hx_166.lt
  go_wp2_with fail
  clear bc_167a bc_167b bc_167h bc_167l bc_168a bc_168b bc_168h bc_168l bc_169a bc_169b bc_169h bc_169l bc_170a bc_170b bc_170h bc_170l bc_171a bc_171b bc_171h bc_171l
  refine (GH_R0.out _ _ _ (1) _ (by omega) (by omega) ho_160).mono ?_
  rintro e w20 ⟨rfl, hstep⟩
  have hb0_172 := Below.step hb0_158 hb0_158.size hstep
  clear hb0_158
  have hbA_173 := Below.step hbA_159 hbA_159.size hstep
  clear hbA_159
  have ho_174 := ho_160.same hstep.size (fun i _ h2 => hstep.block i (Nat.lt_of_lt_of_le h2 ho_160.hi))
  clear ho_160
  have hx_175 := hx_162.below hstep hx_162.lt
  clear hx_162
  have hx_176 := hx_163.below hstep hx_163.lt
  clear hx_163
  have hx_177 := hx_164.below hstep hx_164.lt
  clear hx_164
  have hx_178 := hx_165.below hstep hx_165.lt
  clear hx_165
  have hx_179 := hx_166.below hstep hx_166.lt
  clear hx_166
  have hsz_w20 := hstep.size
  clear hstep
  have HB : Hid (Below w.heap.size w w20) := hb0_172
  clear ho_174
  obtain ⟨bc_180a, bc_180b⟩ := hx_175.cells
  have bc_180h := hx_175.heap
  have bc_180l := hx_175.lt
  obtain ⟨bc_181a, bc_181b⟩ := hx_176.cells
  have bc_181h := hx_176.heap
  have bc_181l := hx_176.lt
  obtain ⟨bc_182a, bc_182b⟩ := hx_177.cells
  have bc_182h := hx_177.heap
  have bc_182l := hx_177.lt
  obtain ⟨bc_183a, bc_183b⟩ := hx_178.cells
  have bc_183h := hx_178.heap
  have bc_183l := hx_178.lt
  obtain ⟨bc_184a, bc_184b⟩ := hx_179.cells
  have bc_184h := hx_179.heap
  have bc_184l := hx_179.lt
  go_wp2_with fail
  go_ret
  exact ⟨rfl, HB.out⟩
set_option maxRecDepth 100000 in
set_option maxHeartbeats 2000000 in
theorem stutterAt_big0 (l : La) (lv : Value) (k : Int)  (hz : 1048576 < l.1.length + l.2.length) (w : World) (h_l : AtLa w lv l) :
    Calls Try.prog 12 #[lv, .int .i64 k] w fun e w' => e = .returned (.bool true) ∧ Below w.heap.size w w' := by
  have Z : Hid (∀ w1 : World, Below w.heap.size w w1 → Calls Try.prog 36 #[lv, .int .i64 1048576] w1 fun e w' => e = .returned (.int .i64 (-1)) ∧ Below w1.heap.size w1 w') := fun w1 hb => szLasso_big lv l hz w1 (h_l.below hb)
  obtain ⟨lsa, lsn, lsc, loa, lon, loc, rfl⟩ := h_l.shape
  clear hz
  clear h_l
  have HB0 : Hid (Below w.heap.size w (w.alloc (.cells #[.slice lsa lsn lsc, .slice loa lon loc] 44))) := (Below.refl _ _).alloc (Nat.le_refl _) _
  go_enter Try.func12, Try.ntmps12
  go_wp2_with fail
  refine (Z.out _ HB0.out).mono ?_
  rintro e w1 ⟨rfl, hstep⟩
  have HB1 : Hid (Below w.heap.size w w1) := Below.step HB0.out HB0.out.size hstep
  clear hstep Z
  go_wp2_with fail
  go_ret
  exact ⟨rfl, HB1.out⟩
theorem stutterAt_law (l : La) (lv : Value) (k : Int) (hf_k : Fit k) (R0 : La) (R1 : Bool) (hR0 : LaOk l → l.1.length + l.2.length ≤ 1048576 → LaOk R0) (w : World) (h_l : AtLa w lv l) (GS0 : LaOk l → l.1.length + l.2.length ≤ 1048576 → ∀ (l1 : Value) (w1 : World), Below w.heap.size w w1 → AtLS w1 l1 l → Calls Try.prog 26 #[l1, .int .i64 k] w1 fun e w' => ∃ r0, e = .returned (.tuple #[r0, .bool R1]) ∧ OwnLa w' w1.heap.size w'.heap.size r0 R0 ∧ Below w1.heap.size w1 w') (GI0 : LaOk l → l.1.length + l.2.length ≤ 1048576 → ∀ (l1 : Value) (w1 : World), Below w.heap.size w w1 → AtLS w1 l1 l → Calls Try.prog 25 #[l1, .int .i64 k] w1 fun e w' => ∃ r0, e = .returned (.tuple #[r0, .bool R1]) ∧ OwnLa w' w1.heap.size w'.heap.size r0 R0 ∧ Below w1.heap.size w1 w') :
    Calls Try.prog 12 #[lv, .int .i64 k] w fun e w' => e = .returned (.bool true) ∧ Below w.heap.size w w' := by
  by_cases hs_l : l.1.length + l.2.length ≤ 1048576
  case neg => exact stutterAt_big0 l lv k  (by omega) w h_l
  have hok_l : LaOk l := ⟨by omega, by omega⟩
  exact stutterAt_small l lv k hf_k R0 R1 (hR0 hok_l hs_l) hok_l hs_l w h_l (GS0 hok_l hs_l) (GI0 hok_l hs_l)
end Go.Proofs.Ythamdefkcjfjpaa
