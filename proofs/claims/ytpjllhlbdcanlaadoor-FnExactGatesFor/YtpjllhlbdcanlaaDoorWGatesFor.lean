/-
  The walk of the exact law of GatesFor, out of what the model's and the program's function do.
-/
import Derived.Test.YtpjllhlbdcanlaaDoorOwn5
import Derived.Test.YtpjllhlbdcanlaaDoorShapes
namespace Go.Proofs.YtpjllhlbdcanlaaDoor
open Go Go.RowKit
open M
set_option linter.unusedVariables false

set_option maxRecDepth 100000 in
set_option maxHeartbeats 8000000 in
theorem gatesFor_small (wide : Int) (hf_wide : Fit wide) (vars : Int) (hf_vars : Fit vars) (t : List Nd) (tv : Value) (R0 : Ci) (R1 : Bool) (hR0 : CiOk R0) (hok_t : NsOk t)  (w : World) (h_t : NodesAt w tv t) (GS0 : ∀ (t1 : Value) (w1 : World), Below w.heap.size w w1 → AtNS w1 t1 t → Calls Tryd.prog 18 #[.int .i64 wide, .int .i64 vars, t1] w1 fun e w' => ∃ r0, e = .returned (.tuple #[r0, .bool R1]) ∧ OwnCirc w' w1.heap.size w'.heap.size r0 R0 ∧ Below w1.heap.size w1 w') (GI0 : ∀ (t1 : Value) (w1 : World), Below w.heap.size w w1 → AtNS w1 t1 t → Calls Tryd.prog 20 #[.int .i64 wide, .int .i64 vars, t1] w1 fun e w' => ∃ r0, e = .returned (.tuple #[r0, .bool R1]) ∧ OwnCirc w' w1.heap.size w'.heap.size r0 R0 ∧ Below w1.heap.size w1 w') :
    Calls Tryd.prog 4 #[.int .i64 wide, .int .i64 vars, tv] w fun e w' => e = .returned (.bool true) ∧ Below w.heap.size w w' := by
  have GS : Hid (∀ (t1 : Value) (w1 : World), Below w.heap.size w w1 → AtNS w1 t1 t → Calls Tryd.prog 18 #[.int .i64 wide, .int .i64 vars, t1] w1 fun e w' => ∃ r0, e = .returned (.tuple #[r0, .bool R1]) ∧ OwnCirc w' w1.heap.size w'.heap.size r0 R0 ∧ Below w1.heap.size w1 w') := GS0
  have GI : Hid (∀ (t1 : Value) (w1 : World), Below w.heap.size w w1 → AtNS w1 t1 t → Calls Tryd.prog 20 #[.int .i64 wide, .int .i64 vars, t1] w1 fun e w' => ∃ r0, e = .returned (.tuple #[r0, .bool R1]) ∧ OwnCirc w' w1.heap.size w'.heap.size r0 R0 ∧ Below w1.heap.size w1 w') := GI0
  clear GS0 GI0
  have Z : Hid (∀ w1 : World, Below w.heap.size w w1 → Calls Tryd.prog 17 #[tv, .int .i64 1048576] w1 fun e w' => e = .returned (.int .i64 (1048576 - (t.length : Int))) ∧ Below w1.heap.size w1 w') := fun w1 hb => szNS_small tv t hok_t.2 w1 (h_t.below hb)
  obtain ⟨n0, hn0⟩ : ∃ n0 : Int, (1048576 - (t.length : Int)) = n0 := ⟨_, rfl⟩
  have hn1 : 0 ≤ n0 := by have := hok_t.2; omega
  rw [hn0] at Z
  have GT_t : Hid (∀ w1 : World, Below w.heap.size w w1 → Calls Tryd.prog 19 #[tv] w1 fun e w' => ∃ v', e = .returned v' ∧ OwnNS w' w1.heap.size w'.heap.size v' t ∧ Below w1.heap.size w1 w') := fun w1 hb => toNS_any tv t hok_t w1 (h_t.below hb)
  have GE_t : Hid (∀ (u v : Value) (w1 : World), NodesAt w1 u t → NodesAt w1 v t → Calls Tryd.prog 22 #[u, v] w1 fun e w' => e = .returned (.bool true) ∧ Below w1.heap.size w1 w') := fun u v w1 h1 h2 => by
    have g := eqNodeS_any u v t t w1 h1 h2
    rw [decide_eq_true rfl] at g
    exact g
  have HN_t : Hid (∀ (w1 : World) (lo hi : Nat) (v1 : Value), OwnNS w1 lo hi v1 t → NodesAt w1 v1 t) := fun w1 lo hi v1 ho => ho.reads hok_t
  have HC_t : Hid (∀ (w1 : World) (lo hi : Nat) (v1 : Value), OwnNS w1 lo hi v1 t → AtNS w1 v1 t) := fun w1 lo hi v1 ho => ho.hands hok_t
  have GE_R0 : Hid (∀ (u v : Value) (w1 : World), AtCirc w1 u R0 → AtCirc w1 v R0 → Calls Tryd.prog 21 #[u, v] w1 fun e w' => e = .returned (.bool true) ∧ Below w1.heap.size w1 w') := fun u v w1 h1 h2 => eqCircuit_same u v R0 w1 h1 h2
  have HN_R0 : Hid (∀ (w1 : World) (lo hi : Nat) (v1 : Value), OwnCirc w1 lo hi v1 R0 → AtCirc w1 v1 R0) := fun w1 lo hi v1 ho => ho.reads hR0
  have GM_t : Hid (∀ (v : Value) (lo hi : Nat) (k : Int) (w1 : World), 0 ≤ k → k ≤ 100000000000 → OwnNS w1 lo hi v t → Calls Tryd.prog 23 #[v, .int .i64 k] w1 fun e w' => e = .returned (.int .i64 (k + (2 * (t.length : Int)))) ∧ MarkNS w' lo hi v t k ∧ Touch lo hi w1 w') := fun v lo hi k w1 h0 h1 ho => markNS_any v t lo hi k hok_t h0 h1 w1 ho
  have hle_t : 0 ≤ (2 * (t.length : Int)) ∧ (2 * (t.length : Int)) ≤ 4194304 := by have := hok_t.2; omega
  obtain ⟨Lt, hLt⟩ : ∃ L : Int, (2 * (t.length : Int)) = L := ⟨_, rfl⟩
  rw [hLt] at GM_t hle_t
  clear hLt
  obtain ⟨hle0_t, hle1_t⟩ := hle_t
  have GM_R0 : Hid (∀ (v : Value) (lo hi : Nat) (k : Int) (w1 : World), 0 ≤ k → k ≤ 100000000000 → OwnCirc w1 lo hi v R0 → Calls Tryd.prog 24 #[v, .int .i64 k] w1 fun e w' => e = .returned (.int .i64 (k + lenCirc R0)) ∧ MarkCirc w' lo hi v R0 k ∧ Touch lo hi w1 w') := fun v lo hi k w1 h0 h1 ho => markCircuit_any v R0 lo hi k hR0.2.2.1 hR0.2.2.2 h0 h1 w1 ho
  have GH_R0 : Hid (∀ (v : Value) (lo hi : Nat) (k : Int) (w1 : World), 0 ≤ k → k ≤ 100000000000 → MarkCirc w1 lo hi v R0 k → Calls Tryd.prog 25 #[v, .int .i64 k] w1 fun e w' => e = .returned (.int .i64 (k + lenCirc R0)) ∧ Below w1.heap.size w1 w') := fun v lo hi k w1 h0 h1 ho => heldCircuit_any v R0 lo hi k hR0.2.2.1 hR0.2.2.2 h0 h1 w1 ho
  have hle_R0 : 0 ≤ lenCirc R0 ∧ lenCirc R0 ≤ 4194304 := by have := hR0.2.2.1; have := hR0.2.2.2; unfold lenCirc; omega
  obtain ⟨LR0, hLR0⟩ : ∃ L : Int, lenCirc R0 = L := ⟨_, rfl⟩
  rw [hLR0] at GM_R0 hle_R0 GH_R0
  clear hLR0
  obtain ⟨hle0_R0, hle1_R0⟩ := hle_R0
  obtain ⟨ta, tcap, rfl⟩ := h_t.shape
  have hlx_t : (t.length : Int) ≤ 1048576 := by have := hok_t.2; omega
  obtain ⟨tn, hn_t⟩ : ∃ m : Nat, t.length = m := ⟨_, rfl⟩
  rw [hn_t] at GT_t hlx_t Z
  try rw [hn_t]
  clear hn_t
  clear hn0 
  clear h_t hok_t hR0
  go_enter Tryd.func4, Tryd.ntmps4
  have hb0_0 := Below.refl w.heap.size w
  go_wp2_with fail
  refine (Z.out _ hb0_0).mono ?_
  rintro e w1 ⟨rfl, hstep⟩
  have hb0_1 := Below.step hb0_0 hb0_0.size hstep
  clear hb0_0
  have hsz_w1 := hstep.size
  clear hstep
  clear Z
  go_wp2_with fail
  refine (GT_t.out _ hb0_1).mono ?_
  rintro e w2 ⟨st, rfl, hnew, hstep⟩
  have hb0_2 := Below.step hb0_1 hb0_1.size hstep
  clear hb0_1
  have hsz_w2 := hstep.size
  clear hstep
  have ho_3 := hnew
  clear hnew
  obtain ⟨sta, stn, stcap, rfl⟩ := ho_3.shape
  go_wp2_with fail
  refine (GS.out _ _ hb0_2 (HC_t.out _ _ _ _ ho_3)).mono ?_
  rintro e w3 ⟨u0, rfl, hu0, hstep⟩
  have hb0_4 := Below.step hb0_2 hb0_2.size hstep
  clear hb0_2
  have ho_5 := ho_3.same hstep.size (fun i _ h2 => hstep.block i (Nat.lt_of_lt_of_le h2 ho_3.hi))
  clear ho_3
  have hsz_w3 := hstep.size
  clear hstep
  clear GS
  clear ho_5
  obtain ⟨u0ga, u0gn, u0gc, u0oa, u0on, u0oc, rfl⟩ := hu0.shape
  have HU0 : Hid (∀ w_ : World, Below w3.heap.size w3 w_ → AtCirc w_ (.agg #[.int .i64 R0.1, .slice u0ga u0gn u0gc, .slice u0oa u0on u0oc]) R0) := fun w_ hb => (HN_R0.out _ _ _ _ hu0).below hb
  clear hu0
  have hbA_6 := Below.refl w3.heap.size w3
  go_wp2_with fail
  have hb0_7 := hb0_4.alloc hb0_4.size (.cells #[.int .i64 R0.1, .slice u0ga u0gn u0gc, .slice u0oa u0on u0oc] 41)
  clear hb0_4
  have hbA_8 := hbA_6.alloc hbA_6.size (.cells #[.int .i64 R0.1, .slice u0ga u0gn u0gc, .slice u0oa u0on u0oc] 41)
  clear hbA_6
  have hal := (Below.refl w3.heap.size w3).alloc (Nat.le_refl _) (.cells #[.int .i64 R0.1, .slice u0ga u0gn u0gc, .slice u0oa u0on u0oc] 41)
  have hx_9 := box3_alloc w3 41 (.int .i64 R0.1) (.slice u0ga u0gn u0gc) (.slice u0oa u0on u0oc)
  have hbl_u0 := hx_9.lt
  have hsz_w4 := hal.size
  clear hal
  generalize (w3.alloc (.cells #[.int .i64 R0.1, .slice u0ga u0gn u0gc, .slice u0oa u0on u0oc] 41)) = w4 at *
  refine (GT_t.out _ hb0_7).mono ?_
  rintro e w5 ⟨xt, rfl, hnew, hstep⟩
  have hb0_10 := Below.step hb0_7 hb0_7.size hstep
  clear hb0_7
  have hbA_11 := Below.step hbA_8 hbA_8.size hstep
  clear hbA_8
  have hx_12 := hx_9.below hstep hx_9.lt
  clear hx_9
  have hsz_w5 := hstep.size
  clear hstep
  have ho_13 := hnew
  clear hnew
  obtain ⟨xta, xtn, xtcap, rfl⟩ := ho_13.shape
  obtain ⟨bc_14a, bc_14b, bc_14c⟩ := hx_12.cells
  have bc_14h := hx_12.heap
  have bc_14l := hx_12.lt
  go_wp2_with fail
  clear bc_14a bc_14b bc_14c bc_14h bc_14l
  refine (GI.out _ _ hb0_10 (HC_t.out _ _ _ _ ho_13)).mono ?_
  rintro e w6 ⟨y0, rfl, hn0, hstep⟩
  have hb0_15 := Below.step hb0_10 hb0_10.size hstep
  clear hb0_10
  have hbA_16 := Below.step hbA_11 hbA_11.size hstep
  clear hbA_11
  have ho_17 := ho_13.same hstep.size (fun i _ h2 => hstep.block i (Nat.lt_of_lt_of_le h2 ho_13.hi))
  clear ho_13
  have hx_18 := hx_12.below hstep hx_12.lt
  clear hx_12
  have hsz_w6 := hstep.size
  clear hstep
  have ho_19 := hn0
  clear hn0
  obtain ⟨y0ga, y0gn, y0gc, y0oa, y0on, y0oc, rfl⟩ := ho_19.shape
  obtain ⟨bc_20a, bc_20b, bc_20c⟩ := hx_18.cells
  have bc_20h := hx_18.heap
  have bc_20l := hx_18.lt
  go_wp2_with fail
  clear bc_20a bc_20b bc_20c bc_20h bc_20l
  have hb0_21 := hb0_15.alloc hb0_15.size (.cells #[.int .i64 R0.1, .slice y0ga y0gn y0gc, .slice y0oa y0on y0oc] 41)
  clear hb0_15
  have hbA_22 := hbA_16.alloc hbA_16.size (.cells #[.int .i64 R0.1, .slice y0ga y0gn y0gc, .slice y0oa y0on y0oc] 41)
  clear hbA_16
  have hal := (Below.refl w6.heap.size w6).alloc (Nat.le_refl _) (.cells #[.int .i64 R0.1, .slice y0ga y0gn y0gc, .slice y0oa y0on y0oc] 41)
  have ho_23 := ho_17.same hal.size (fun i _ h2 => hal.block i (Nat.lt_of_lt_of_le h2 ho_17.hi))
  clear ho_17
  have ho_24 := ho_19.same hal.size (fun i _ h2 => hal.block i (Nat.lt_of_lt_of_le h2 ho_19.hi))
  clear ho_19
  have hx_25 := hx_18.alloc (.cells #[.int .i64 R0.1, .slice y0ga y0gn y0gc, .slice y0oa y0on y0oc] 41)
  clear hx_18
  have hx_26 := box3_alloc w6 41 (.int .i64 R0.1) (.slice y0ga y0gn y0gc) (.slice y0oa y0on y0oc)
  have hbl_y0 := hx_26.lt
  have hsz_w7 := hal.size
  clear hal
  generalize (w6.alloc (.cells #[.int .i64 R0.1, .slice y0ga y0gn y0gc, .slice y0oa y0on y0oc] 41)) = w7 at *
  refine (GE_R0.out _ _ _ (HN_R0.out _ _ _ _ ho_24) (HU0.out _ hbA_22)).mono ?_
  rintro e w8 ⟨rfl, hstep⟩
  have hb0_27 := Below.step hb0_21 hb0_21.size hstep
  clear hb0_21
  have hbA_28 := Below.step hbA_22 hbA_22.size hstep
  clear hbA_22
  have ho_29 := ho_23.same hstep.size (fun i _ h2 => hstep.block i (Nat.lt_of_lt_of_le h2 ho_23.hi))
  clear ho_23
  have ho_30 := ho_24.same hstep.size (fun i _ h2 => hstep.block i (Nat.lt_of_lt_of_le h2 ho_24.hi))
  clear ho_24
  have hx_31 := hx_25.below hstep hx_25.lt
  clear hx_25
  have hx_32 := hx_26.below hstep hx_26.lt
  clear hx_26
  have hsz_w8 := hstep.size
  clear hstep
  obtain ⟨bc_33a, bc_33b, bc_33c⟩ := hx_31.cells
  have bc_33h := hx_31.heap
  have bc_33l := hx_31.lt
  obtain ⟨bc_34a, bc_34b, bc_34c⟩ := hx_32.cells
  have bc_34h := hx_32.heap
  have bc_34l := hx_32.lt
  go_wp2_with fail
  clear bc_33a bc_33b bc_33c bc_33h bc_33l bc_34a bc_34b bc_34c bc_34h bc_34l
  refine (GT_t.out _ hb0_27).mono ?_
  rintro e w9 ⟨c_, rfl, hnew, hstep⟩
  have hb0_35 := Below.step hb0_27 hb0_27.size hstep
  clear hb0_27
  have hbA_36 := Below.step hbA_28 hbA_28.size hstep
  clear hbA_28
  have ho_37 := ho_29.same hstep.size (fun i _ h2 => hstep.block i (Nat.lt_of_lt_of_le h2 ho_29.hi))
  clear ho_29
  have ho_38 := ho_30.same hstep.size (fun i _ h2 => hstep.block i (Nat.lt_of_lt_of_le h2 ho_30.hi))
  clear ho_30
  have hx_39 := hx_31.below hstep hx_31.lt
  clear hx_31
  have hx_40 := hx_32.below hstep hx_32.lt
  clear hx_32
  have hsz_w9 := hstep.size
  clear hstep
  have hcr := HN_t.out _ _ _ _ hnew
  clear hnew
  obtain ⟨za, zcap, rfl⟩ := hcr.shape
  obtain ⟨bc_41a, bc_41b, bc_41c⟩ := hx_39.cells
  have bc_41h := hx_39.heap
  have bc_41l := hx_39.lt
  obtain ⟨bc_42a, bc_42b, bc_42c⟩ := hx_40.cells
  have bc_42h := hx_40.heap
  have bc_42l := hx_40.lt
  go_wp2_with fail
  clear bc_41a bc_41b bc_41c bc_41h bc_41l bc_42a bc_42b bc_42c bc_42h bc_42l
  refine (GE_t.out _ _ _ (HN_t.out _ _ _ _ ho_37) hcr).mono ?_
  clear hcr
  rintro e w10 ⟨rfl, hstep⟩
  have hb0_43 := Below.step hb0_35 hb0_35.size hstep
  clear hb0_35
  have hbA_44 := Below.step hbA_36 hbA_36.size hstep
  clear hbA_36
  have ho_45 := ho_37.same hstep.size (fun i _ h2 => hstep.block i (Nat.lt_of_lt_of_le h2 ho_37.hi))
  clear ho_37
  have ho_46 := ho_38.same hstep.size (fun i _ h2 => hstep.block i (Nat.lt_of_lt_of_le h2 ho_38.hi))
  clear ho_38
  have hx_47 := hx_39.below hstep hx_39.lt
  clear hx_39
  have hx_48 := hx_40.below hstep hx_40.lt
  clear hx_40
  have hsz_w10 := hstep.size
  clear hstep
  obtain ⟨bc_49a, bc_49b, bc_49c⟩ := hx_47.cells
  have bc_49h := hx_47.heap
  have bc_49l := hx_47.lt
  obtain ⟨bc_50a, bc_50b, bc_50c⟩ := hx_48.cells
  have bc_50h := hx_48.heap
  have bc_50l := hx_48.lt
  go_wp2_with fail
  clear bc_49a bc_49b bc_49c bc_49h bc_49l bc_50a bc_50b bc_50c bc_50h bc_50l
  refine (GM_t.out _ _ _ (1) _ (by omega) (by omega) ho_45).mono ?_
  rintro e w11 ⟨rfl, hmk, htc⟩
  have hb0_51 := Touch.below hb0_43 (by omega) hb0_43.size htc
  clear hb0_43
  have hbA_52 := Touch.below hbA_44 (by omega) hbA_44.size htc
  clear hbA_44
  have ho_53 := ho_46.same htc.size (fun i h1 h2 => htc.block i (Nat.lt_of_lt_of_le h2 ho_46.hi) (by omega))
  clear ho_46
  have hx_54 : Box3 w11 (w3.heap.size) 41 (.int .i64 R0.1) (.slice u0ga u0gn u0gc) (.slice u0oa u0on u0oc) := ⟨by rw [htc.block _ hx_47.lt (by omega)]; exact hx_47.heap⟩
  clear hx_47
  have hx_55 : Box3 w11 (w6.heap.size) 41 (.int .i64 R0.1) (.slice y0ga y0gn y0gc) (.slice y0oa y0on y0oc) := ⟨by rw [htc.block _ hx_48.lt (by omega)]; exact hx_48.heap⟩
  clear hx_48
  have hsz_w11 := htc.size
  have ho_56 := hmk
  clear hmk htc ho_45
  clear ho_56
  obtain ⟨bc_57a, bc_57b, bc_57c⟩ := hx_54.cells
  have bc_57h := hx_54.heap
  have bc_57l := hx_54.lt
  obtain ⟨bc_58a, bc_58b, bc_58c⟩ := hx_55.cells
  have bc_58h := hx_55.heap
  have bc_58l := hx_55.lt
  go_wp2_with fail
  clear bc_57a bc_57b bc_57c bc_57h bc_57l bc_58a bc_58b bc_58c bc_58h bc_58l
  refine (GE_R0.out _ _ _ (HN_R0.out _ _ _ _ ho_53) (HU0.out _ hbA_52)).mono ?_
  rintro e w12 ⟨rfl, hstep⟩
  have hb0_59 := Below.step hb0_51 hb0_51.size hstep
  clear hb0_51
  have hbA_60 := Below.step hbA_52 hbA_52.size hstep
  clear hbA_52
  have ho_61 := ho_53.same hstep.size (fun i _ h2 => hstep.block i (Nat.lt_of_lt_of_le h2 ho_53.hi))
  clear ho_53
  have hx_62 := hx_54.below hstep hx_54.lt
  clear hx_54
  have hx_63 := hx_55.below hstep hx_55.lt
  clear hx_55
  have hsz_w12 := hstep.size
  clear hstep
  obtain ⟨bc_64a, bc_64b, bc_64c⟩ := hx_62.cells
  have bc_64h := hx_62.heap
  have bc_64l := hx_62.lt
  obtain ⟨bc_65a, bc_65b, bc_65c⟩ := hx_63.cells
  have bc_65h := hx_63.heap
  have bc_65l := hx_63.lt
  go_wp2_with fail
  clear bc_64a bc_64b bc_64c bc_64h bc_64l bc_65a bc_65b bc_65c bc_65h bc_65l
  refine (GM_R0.out _ _ _ (1) _ (by omega) (by omega) ho_61).mono ?_
  rintro e w13 ⟨rfl, hmk, htc⟩
  have hb0_66 := Touch.below hb0_59 (by omega) hb0_59.size htc
  clear hb0_59
  have hbA_67 := Touch.below hbA_60 (by omega) hbA_60.size htc
  clear hbA_60
  have hx_68 : Box3 w13 (w3.heap.size) 41 (.int .i64 R0.1) (.slice u0ga u0gn u0gc) (.slice u0oa u0on u0oc) := ⟨by rw [htc.block _ hx_62.lt (by omega)]; exact hx_62.heap⟩
  clear hx_62
  have hx_69 : Box3 w13 (w6.heap.size) 41 (.int .i64 R0.1) (.slice y0ga y0gn y0gc) (.slice y0oa y0on y0oc) := ⟨by rw [htc.block _ hx_63.lt (by omega)]; exact hx_63.heap⟩
  clear hx_63
  have hsz_w13 := htc.size
  have ho_70 := hmk
  clear hmk htc ho_61
  obtain ⟨bc_71a, bc_71b, bc_71c⟩ := hx_68.cells
  have bc_71h := hx_68.heap
  have bc_71l := hx_68.lt
  obtain ⟨bc_72a, bc_72b, bc_72c⟩ := hx_69.cells
  have bc_72h := hx_69.heap
  have bc_72l := hx_69.lt
  go_wp2_with fail
  clear bc_71a bc_71b bc_71c bc_71h bc_71l bc_72a bc_72b bc_72c bc_72h bc_72l
  refine (GH_R0.out _ _ _ (1) _ (by omega) (by omega) ho_70).mono ?_
  rintro e w14 ⟨rfl, hstep⟩
  have hb0_73 := Below.step hb0_66 hb0_66.size hstep
  clear hb0_66
  have hbA_74 := Below.step hbA_67 hbA_67.size hstep
  clear hbA_67
  have ho_75 := ho_70.same hstep.size (fun i _ h2 => hstep.block i (Nat.lt_of_lt_of_le h2 ho_70.hi))
  clear ho_70
  have hx_76 := hx_68.below hstep hx_68.lt
  clear hx_68
  have hx_77 := hx_69.below hstep hx_69.lt
  clear hx_69
  have hsz_w14 := hstep.size
  clear hstep
  obtain ⟨bc_78a, bc_78b, bc_78c⟩ := hx_76.cells
  have bc_78h := hx_76.heap
  have bc_78l := hx_76.lt
  obtain ⟨bc_79a, bc_79b, bc_79c⟩ := hx_77.cells
  have bc_79h := hx_77.heap
  have bc_79l := hx_77.lt
  go_wp2_with fail
  clear bc_78a bc_78b bc_78c bc_78h bc_78l bc_79a bc_79b bc_79c bc_79h bc_79l
  refine (GT_t.out _ hb0_73).mono ?_
  rintro e w15 ⟨tt, rfl, hnew, hstep⟩
  have hb0_80 := Below.step hb0_73 hb0_73.size hstep
  clear hb0_73
  have hbA_81 := Below.step hbA_74 hbA_74.size hstep
  clear hbA_74
  have ho_82 := ho_75.same hstep.size (fun i _ h2 => hstep.block i (Nat.lt_of_lt_of_le h2 ho_75.hi))
  clear ho_75
  have hx_83 := hx_76.below hstep hx_76.lt
  clear hx_76
  have hx_84 := hx_77.below hstep hx_77.lt
  clear hx_77
  have hsz_w15 := hstep.size
  clear hstep
  have ho_85 := hnew
  clear hnew
  obtain ⟨tta, ttn, ttcap, rfl⟩ := ho_85.shape
  obtain ⟨bc_86a, bc_86b, bc_86c⟩ := hx_83.cells
  have bc_86h := hx_83.heap
  have bc_86l := hx_83.lt
  obtain ⟨bc_87a, bc_87b, bc_87c⟩ := hx_84.cells
  have bc_87h := hx_84.heap
  have bc_87l := hx_84.lt
  go_wp2_with fail
  clear bc_86a bc_86b bc_86c bc_86h bc_86l bc_87a bc_87b bc_87c bc_87h bc_87l
  refine (GI.out _ _ hb0_80 (HC_t.out _ _ _ _ ho_85)).mono ?_
  rintro e w16 ⟨h0, rfl, hn0, hstep⟩
  have hb0_88 := Below.step hb0_80 hb0_80.size hstep
  clear hb0_80
  have hbA_89 := Below.step hbA_81 hbA_81.size hstep
  clear hbA_81
  have ho_90 := ho_82.same hstep.size (fun i _ h2 => hstep.block i (Nat.lt_of_lt_of_le h2 ho_82.hi))
  clear ho_82
  have ho_91 := ho_85.same hstep.size (fun i _ h2 => hstep.block i (Nat.lt_of_lt_of_le h2 ho_85.hi))
  clear ho_85
  have hx_92 := hx_83.below hstep hx_83.lt
  clear hx_83
  have hx_93 := hx_84.below hstep hx_84.lt
  clear hx_84
  have hsz_w16 := hstep.size
  clear hstep
  have ho_94 := hn0
  clear hn0
  obtain ⟨h0ga, h0gn, h0gc, h0oa, h0on, h0oc, rfl⟩ := ho_94.shape
  clear ho_91
  obtain ⟨bc_95a, bc_95b, bc_95c⟩ := hx_92.cells
  have bc_95h := hx_92.heap
  have bc_95l := hx_92.lt
  obtain ⟨bc_96a, bc_96b, bc_96c⟩ := hx_93.cells
  have bc_96h := hx_93.heap
  have bc_96l := hx_93.lt
  go_wp2_with fail
  clear bc_95a bc_95b bc_95c bc_95h bc_95l bc_96a bc_96b bc_96c bc_96h bc_96l
  have hb0_97 := hb0_88.alloc hb0_88.size (.cells #[.int .i64 R0.1, .slice h0ga h0gn h0gc, .slice h0oa h0on h0oc] 41)
  clear hb0_88
  have hbA_98 := hbA_89.alloc hbA_89.size (.cells #[.int .i64 R0.1, .slice h0ga h0gn h0gc, .slice h0oa h0on h0oc] 41)
  clear hbA_89
  have hal := (Below.refl w16.heap.size w16).alloc (Nat.le_refl _) (.cells #[.int .i64 R0.1, .slice h0ga h0gn h0gc, .slice h0oa h0on h0oc] 41)
  have ho_99 := ho_90.same hal.size (fun i _ h2 => hal.block i (Nat.lt_of_lt_of_le h2 ho_90.hi))
  clear ho_90
  have ho_100 := ho_94.same hal.size (fun i _ h2 => hal.block i (Nat.lt_of_lt_of_le h2 ho_94.hi))
  clear ho_94
  have hx_101 := hx_92.alloc (.cells #[.int .i64 R0.1, .slice h0ga h0gn h0gc, .slice h0oa h0on h0oc] 41)
  clear hx_92
  have hx_102 := hx_93.alloc (.cells #[.int .i64 R0.1, .slice h0ga h0gn h0gc, .slice h0oa h0on h0oc] 41)
  clear hx_93
  have hx_103 := box3_alloc w16 41 (.int .i64 R0.1) (.slice h0ga h0gn h0gc) (.slice h0oa h0on h0oc)
  have hbl_h0 := hx_103.lt
  have hsz_w17 := hal.size
  clear hal
  generalize (w16.alloc (.cells #[.int .i64 R0.1, .slice h0ga h0gn h0gc, .slice h0oa h0on h0oc] 41)) = w17 at *
  refine (GE_R0.out _ _ _ (HN_R0.out _ _ _ _ ho_100) (HU0.out _ hbA_98)).mono ?_
  rintro e w18 ⟨rfl, hstep⟩
  have hb0_104 := Below.step hb0_97 hb0_97.size hstep
  clear hb0_97
  have hbA_105 := Below.step hbA_98 hbA_98.size hstep
  clear hbA_98
  have ho_106 := ho_99.same hstep.size (fun i _ h2 => hstep.block i (Nat.lt_of_lt_of_le h2 ho_99.hi))
  clear ho_99
  have ho_107 := ho_100.same hstep.size (fun i _ h2 => hstep.block i (Nat.lt_of_lt_of_le h2 ho_100.hi))
  clear ho_100
  have hx_108 := hx_101.below hstep hx_101.lt
  clear hx_101
  have hx_109 := hx_102.below hstep hx_102.lt
  clear hx_102
  have hx_110 := hx_103.below hstep hx_103.lt
  clear hx_103
  have hsz_w18 := hstep.size
  clear hstep
  clear ho_107
  obtain ⟨bc_111a, bc_111b, bc_111c⟩ := hx_108.cells
  have bc_111h := hx_108.heap
  have bc_111l := hx_108.lt
  obtain ⟨bc_112a, bc_112b, bc_112c⟩ := hx_109.cells
  have bc_112h := hx_109.heap
  have bc_112l := hx_109.lt
  obtain ⟨bc_113a, bc_113b, bc_113c⟩ := hx_110.cells
  have bc_113h := hx_110.heap
  have bc_113l := hx_110.lt
  go_wp2_with fail
  clear bc_111a bc_111b bc_111c bc_111h bc_111l bc_112a bc_112b bc_112c bc_112h bc_112l bc_113a bc_113b bc_113c bc_113h bc_113l
  refine (GH_R0.out _ _ _ (1) _ (by omega) (by omega) ho_106).mono ?_
  rintro e w19 ⟨rfl, hstep⟩
  have hb0_114 := Below.step hb0_104 hb0_104.size hstep
  clear hb0_104
  have hbA_115 := Below.step hbA_105 hbA_105.size hstep
  clear hbA_105
  have ho_116 := ho_106.same hstep.size (fun i _ h2 => hstep.block i (Nat.lt_of_lt_of_le h2 ho_106.hi))
  clear ho_106
  have hx_117 := hx_108.below hstep hx_108.lt
  clear hx_108
  have hx_118 := hx_109.below hstep hx_109.lt
  clear hx_109
  have hx_119 := hx_110.below hstep hx_110.lt
  clear hx_110
  have hsz_w19 := hstep.size
  clear hstep
  have HB : Hid (Below w.heap.size w w19) := hb0_114
  clear ho_116
  obtain ⟨bc_120a, bc_120b, bc_120c⟩ := hx_117.cells
  have bc_120h := hx_117.heap
  have bc_120l := hx_117.lt
  obtain ⟨bc_121a, bc_121b, bc_121c⟩ := hx_118.cells
  have bc_121h := hx_118.heap
  have bc_121l := hx_118.lt
  obtain ⟨bc_122a, bc_122b, bc_122c⟩ := hx_119.cells
  have bc_122h := hx_119.heap
  have bc_122l := hx_119.lt
  go_wp2_with fail
  go_ret
  exact ⟨rfl, HB.out⟩
set_option maxRecDepth 100000 in
set_option maxHeartbeats 2000000 in
theorem gatesFor_big0 (wide : Int) (vars : Int) (t : List Nd) (tv : Value)  (hz : 1048576 < t.length) (w : World) (h_t : NodesAt w tv t) :
    Calls Tryd.prog 4 #[.int .i64 wide, .int .i64 vars, tv] w fun e w' => e = .returned (.bool true) ∧ Below w.heap.size w w' := by
  have Z : Hid (∀ w1 : World, Below w.heap.size w w1 → Calls Tryd.prog 17 #[tv, .int .i64 1048576] w1 fun e w' => e = .returned (.int .i64 (-1)) ∧ Below w1.heap.size w1 w') := fun w1 hb => szNS_big tv t hz w1 (h_t.below hb)
  obtain ⟨ta, tcap, rfl⟩ := h_t.shape
  clear hz
  generalize t.length = tn at *
  clear h_t
  have HB0 : Hid (Below w.heap.size w w) := Below.refl _ _
  go_enter Tryd.func4, Tryd.ntmps4
  go_wp2_with fail
  refine (Z.out _ HB0.out).mono ?_
  rintro e w1 ⟨rfl, hstep⟩
  have HB1 : Hid (Below w.heap.size w w1) := Below.step HB0.out HB0.out.size hstep
  clear hstep Z
  go_wp2_with fail
  go_ret
  exact ⟨rfl, HB1.out⟩
theorem gatesFor_law (wide : Int) (vars : Int) (t : List Nd) (tv : Value) (hf_wide : Fit wide) (hf_vars : Fit vars) (R0 : Ci) (R1 : Bool) (hR0 : NsOk t → CiOk R0) (w : World) (h_t : NodesAt w tv t) (GS0 : NsOk t → ∀ (t1 : Value) (w1 : World), Below w.heap.size w w1 → AtNS w1 t1 t → Calls Tryd.prog 18 #[.int .i64 wide, .int .i64 vars, t1] w1 fun e w' => ∃ r0, e = .returned (.tuple #[r0, .bool R1]) ∧ OwnCirc w' w1.heap.size w'.heap.size r0 R0 ∧ Below w1.heap.size w1 w') (GI0 : NsOk t → ∀ (t1 : Value) (w1 : World), Below w.heap.size w w1 → AtNS w1 t1 t → Calls Tryd.prog 20 #[.int .i64 wide, .int .i64 vars, t1] w1 fun e w' => ∃ r0, e = .returned (.tuple #[r0, .bool R1]) ∧ OwnCirc w' w1.heap.size w'.heap.size r0 R0 ∧ Below w1.heap.size w1 w') :
    Calls Tryd.prog 4 #[.int .i64 wide, .int .i64 vars, tv] w fun e w' => e = .returned (.bool true) ∧ Below w.heap.size w w' := by
  by_cases hs_t : t.length ≤ 1048576
  case neg => exact gatesFor_big0 wide vars t tv  (by omega) w h_t
  have hok_t : NsOk t := ⟨h_t.1, by omega⟩
  exact gatesFor_small wide hf_wide vars hf_vars t tv R0 R1 (hR0 hok_t) hok_t w h_t (GS0 hok_t) (GI0 hok_t)
end Go.Proofs.YtpjllhlbdcanlaaDoor
