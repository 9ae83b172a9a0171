/-
  The walk of the exact law of StepBy, out of what the model's and the program's function do.
-/
import Derived.Test.YtjbolpfilgkbfaaDoorKP91
import Derived.Test.YtjbolpfilgkbfaaDoorOwn5
import Derived.Test.YtjbolpfilgkbfaaDoorOwn3
import Derived.Test.YtjbolpfilgkbfaaDoorStrong
namespace Go.Proofs.YtjbolpfilgkbfaaDoor
open Go Go.RowKit
open M
set_option linter.unusedVariables false

set_option maxRecDepth 100000 in
set_option maxHeartbeats 8000000 in
theorem stepBy_small (p : Pg) (pv : Value) (s : List Int) (sv : Value) (n : Int) (hf_n : Fit n) (R0 : List Int) (R1 : Bool) (hR0 : WsOk R0) (hok_p : PgOk p) (hok_s : WsOk s) (htot_p : sPg p ≤ 1048576) (w : World) (h_p : AtProg w pv p) (h_s : WordsAt w sv s) (GS0 : ∀ (p1 s1 : Value) (w1 : World), Below w.heap.size w w1 → AtProg w1 p1 p → AtUS w1 s1 s → Calls Tryd.prog 55 #[p1, s1, .int .i64 n] w1 fun e w' => ∃ r0, e = .returned (.tuple #[r0, .bool R1]) ∧ OwnUS w' w1.heap.size w'.heap.size r0 R0 ∧ Below w1.heap.size w1 w') (GI0 : ∀ (p1 s1 : Value) (w1 : World), Below w.heap.size w w1 → AtProg w1 p1 p → AtUS w1 s1 s → Calls Tryd.prog 22 #[p1, s1, .int .i64 n] w1 fun e w' => ∃ r0, e = .returned (.tuple #[r0, .bool R1]) ∧ OwnUS w' w1.heap.size w'.heap.size r0 R0 ∧ Below w1.heap.size w1 w') :
    Calls Tryd.prog 8 #[pv, sv, .int .i64 n] w fun e w' => e = .returned (.bool true) ∧ Below w.heap.size w w' := by
  have GS : Hid (∀ (p1 s1 : Value) (w1 : World), Below w.heap.size w w1 → AtProg w1 p1 p → AtUS w1 s1 s → Calls Tryd.prog 55 #[p1, s1, .int .i64 n] w1 fun e w' => ∃ r0, e = .returned (.tuple #[r0, .bool R1]) ∧ OwnUS w' w1.heap.size w'.heap.size r0 R0 ∧ Below w1.heap.size w1 w') := GS0
  have GI : Hid (∀ (p1 s1 : Value) (w1 : World), Below w.heap.size w w1 → AtProg w1 p1 p → AtUS w1 s1 s → Calls Tryd.prog 22 #[p1, s1, .int .i64 n] w1 fun e w' => ∃ r0, e = .returned (.tuple #[r0, .bool R1]) ∧ OwnUS w' w1.heap.size w'.heap.size r0 R0 ∧ Below w1.heap.size w1 w') := GI0
  clear GS0 GI0
  have Z : Hid (∀ w1 : World, Below w.heap.size w w1 → Calls Tryd.prog 45 #[pv, .int .i64 1048576] w1 fun e w' => e = .returned (.int .i64 (1048576 - (sPg p : Int))) ∧ Below w1.heap.size w1 w') := fun w1 hb => szProgram_small pv p htot_p w1 (h_p.below hb)
  obtain ⟨n0, hn0⟩ : ∃ n0 : Int, (1048576 - (sPg p : Int)) = n0 := ⟨_, rfl⟩
  have hn1 : 0 ≤ n0 := by omega
  rw [hn0] at Z
  have GT_p : Hid (∀ w1 : World, Below w.heap.size w w1 → Calls Tryd.prog 46 #[pv] w1 fun e w' => ∃ v', e = .returned v' ∧ OwnProg w' w1.heap.size w'.heap.size v' p ∧ Below w1.heap.size w1 w') := fun w1 hb => toProgram_any pv p hok_p w1 (h_p.below hb)
  have GE_p : Hid (∀ (u v : Value) (w1 : World), AtProg w1 u p → AtProg w1 v p → Calls Tryd.prog 48 #[u, v] w1 fun e w' => e = .returned (.bool true) ∧ Below w1.heap.size w1 w') := fun u v w1 h1 h2 => eqProgram_same u v p w1 h1 h2
  have HN_p : Hid (∀ (w1 : World) (lo hi : Nat) (v1 : Value), OwnProg w1 lo hi v1 p → AtProg w1 v1 p) := fun w1 lo hi v1 ho => ho.reads hok_p
  have GT_s : Hid (∀ w1 : World, Below w.heap.size w w1 → Calls Tryd.prog 47 #[sv] w1 fun e w' => ∃ v', e = .returned v' ∧ OwnUS w' w1.heap.size w'.heap.size v' s ∧ Below w1.heap.size w1 w') := fun w1 hb => toUS_any sv s hok_s w1 (h_s.below hb)
  have GE_s : Hid (∀ (u v : Value) (w1 : World), WordsAt w1 u s → WordsAt w1 v s → Calls Tryd.prog 49 #[u, v] w1 fun e w' => e = .returned (.bool true) ∧ Below w1.heap.size w1 w') := fun u v w1 h1 h2 => by
    have g := eqUS_any u v s s w1 h1 h2
    rw [decide_eq_true rfl] at g
    exact g
  have HN_s : Hid (∀ (w1 : World) (lo hi : Nat) (v1 : Value), OwnUS w1 lo hi v1 s → WordsAt w1 v1 s) := fun w1 lo hi v1 ho => ho.reads hok_s
  have HC_p : Hid (∀ (w1 : World) (lo hi : Nat) (v1 : Value), OwnProg w1 lo hi v1 p → AtProg w1 v1 p) := fun w1 lo hi v1 ho => ho.hands hok_p
  have HC_s : Hid (∀ (w1 : World) (lo hi : Nat) (v1 : Value), OwnUS w1 lo hi v1 s → AtUS w1 v1 s) := fun w1 lo hi v1 ho => ho.hands hok_s
  have GE_R0 : Hid (∀ (u v : Value) (w1 : World), WordsAt w1 u R0 → WordsAt w1 v R0 → Calls Tryd.prog 49 #[u, v] w1 fun e w' => e = .returned (.bool true) ∧ Below w1.heap.size w1 w') := fun u v w1 h1 h2 => by
    have g := eqUS_any u v R0 R0 w1 h1 h2
    rw [decide_eq_true rfl] at g
    exact g
  have HN_R0 : Hid (∀ (w1 : World) (lo hi : Nat) (v1 : Value), OwnUS w1 lo hi v1 R0 → WordsAt w1 v1 R0) := fun w1 lo hi v1 ho => ho.reads hR0
  have GM_p : Hid (∀ (v : Value) (lo hi : Nat) (k : Int) (w1 : World), 0 ≤ k → k ≤ 100000000000 → OwnProg w1 lo hi v p → Calls Tryd.prog 51 #[v, .int .i64 k] w1 fun e w' => e = .returned (.int .i64 (k + (lenPg p : Int))) ∧ MarkProg w' lo hi v p k ∧ Touch lo hi w1 w') := fun v lo hi k w1 h0 h1 ho => markProgram_any v p lo hi k htot_p h0 h1 w1 ho
  have hle_p : 0 ≤ (lenPg p : Int) ∧ (lenPg p : Int) ≤ 4194304 := by have := lenPg_le p; omega
  obtain ⟨Lp, hLp⟩ : ∃ L : Int, (lenPg p : Int) = L := ⟨_, rfl⟩
  rw [hLp] at GM_p hle_p
  clear hLp
  obtain ⟨hle0_p, hle1_p⟩ := hle_p
  have GM_s : Hid (∀ (v : Value) (lo hi : Nat) (k : Int) (w1 : World), 0 ≤ k → k ≤ 100000000000 → OwnUS w1 lo hi v s → Calls Tryd.prog 52 #[v, .int .i64 k] w1 fun e w' => e = .returned (.int .i64 (k + (s.length : Int))) ∧ MarkUS w' lo hi v s k ∧ Touch lo hi w1 w') := fun v lo hi k w1 h0 h1 ho => markUS_any v s lo hi k hok_s h0 h1 w1 ho
  have hle_s : 0 ≤ (s.length : Int) ∧ (s.length : Int) ≤ 4194304 := by have := hok_s.2; omega
  obtain ⟨Ls, hLs⟩ : ∃ L : Int, (s.length : Int) = L := ⟨_, rfl⟩
  rw [hLs] at GM_s hle_s
  clear hLs
  obtain ⟨hle0_s, hle1_s⟩ := hle_s
  have GM_R0 : Hid (∀ (v : Value) (lo hi : Nat) (k : Int) (w1 : World), 0 ≤ k → k ≤ 100000000000 → OwnUS w1 lo hi v R0 → Calls Tryd.prog 52 #[v, .int .i64 k] w1 fun e w' => e = .returned (.int .i64 (k + (R0.length : Int))) ∧ MarkUS w' lo hi v R0 k ∧ Touch lo hi w1 w') := fun v lo hi k w1 h0 h1 ho => markUS_any v R0 lo hi k hR0 h0 h1 w1 ho
  have GH_R0 : Hid (∀ (v : Value) (lo hi : Nat) (k : Int) (w1 : World), 0 ≤ k → k ≤ 100000000000 → MarkUS w1 lo hi v R0 k → Calls Tryd.prog 56 #[v, .int .i64 k] w1 fun e w' => e = .returned (.int .i64 (k + (R0.length : Int))) ∧ Below w1.heap.size w1 w') := fun v lo hi k w1 h0 h1 ho => heldUS_any v R0 lo hi k hR0 h0 h1 w1 ho
  have hle_R0 : 0 ≤ (R0.length : Int) ∧ (R0.length : Int) ≤ 4194304 := by have := hR0.2; omega
  obtain ⟨LR0, hLR0⟩ : ∃ L : Int, (R0.length : Int) = L := ⟨_, rfl⟩
  rw [hLR0] at GM_R0 hle_R0 GH_R0
  clear hLR0
  obtain ⟨hle0_R0, hle1_R0⟩ := hle_R0
  obtain ⟨psa, psn, psc, pca, pcn, pcc, rfl⟩ := h_p.shape
  obtain ⟨sa, scap, rfl⟩ := h_s.shape
  have hlx_s : (s.length : Int) ≤ 1048576 := by have := hok_s.2; omega
  obtain ⟨sn, hn_s⟩ : ∃ m : Nat, s.length = m := ⟨_, rfl⟩
  rw [hn_s] at GT_s hlx_s
  try rw [hn_s]
  clear hn_s
  clear hn0 htot_p
  clear h_p h_s hok_p hok_s hR0
  go_enter Tryd.func8, Tryd.ntmps8
  have hb0_0 := Below.refl w.heap.size w
  go_wp2_with fail
  have hb0_1 := hb0_0.alloc hb0_0.size (.cells #[.int .i64 p.1, .int .i64 p.2.1, .slice psa psn psc, .slice pca pcn pcc] 69)
  clear hb0_0
  have hal := (Below.refl w.heap.size w).alloc (Nat.le_refl _) (.cells #[.int .i64 p.1, .int .i64 p.2.1, .slice psa psn psc, .slice pca pcn pcc] 69)
  have hx_2 := box4_alloc w 69 (.int .i64 p.1) (.int .i64 p.2.1) (.slice psa psn psc) (.slice pca pcn pcc)
  have hbl_a_p := hx_2.lt
  have hsz_w1 := hal.size
  clear hal
  generalize (w.alloc (.cells #[.int .i64 p.1, .int .i64 p.2.1, .slice psa psn psc, .slice pca pcn pcc] 69)) = w1 at *
  refine (Z.out _ hb0_1).mono ?_
  rintro e w2 ⟨rfl, hstep⟩
  have hb0_3 := Below.step hb0_1 hb0_1.size hstep
  clear hb0_1
  have hx_4 := hx_2.below hstep hx_2.lt
  clear hx_2
  have hsz_w2 := hstep.size
  clear hstep
  clear Z
  obtain ⟨bc_5a, bc_5b, bc_5c, bc_5d⟩ := hx_4.cells
  have bc_5h := hx_4.heap
  have bc_5l := hx_4.lt
  go_wp2_with fail
  clear bc_5a bc_5b bc_5c bc_5d bc_5h bc_5l
  refine (GT_p.out _ hb0_3).mono ?_
  rintro e w3 ⟨sp, rfl, hnew, hstep⟩
  have hb0_6 := Below.step hb0_3 hb0_3.size hstep
  clear hb0_3
  have hx_7 := hx_4.below hstep hx_4.lt
  clear hx_4
  have hsz_w3 := hstep.size
  clear hstep
  have ho_8 := hnew
  clear hnew
  obtain ⟨spsa, spsn, spsc, spca, spcn, spcc, rfl⟩ := ho_8.shape
  obtain ⟨bc_9a, bc_9b, bc_9c, bc_9d⟩ := hx_7.cells
  have bc_9h := hx_7.heap
  have bc_9l := hx_7.lt
  go_wp2_with fail
  clear bc_9a bc_9b bc_9c bc_9d bc_9h bc_9l
  refine (GT_s.out _ hb0_6).mono ?_
  rintro e w4 ⟨ss, rfl, hnew, hstep⟩
  have hb0_10 := Below.step hb0_6 hb0_6.size hstep
  clear hb0_6
  have ho_11 := ho_8.same hstep.size (fun i _ h2 => hstep.block i (Nat.lt_of_lt_of_le h2 ho_8.hi))
  clear ho_8
  have hx_12 := hx_7.below hstep hx_7.lt
  clear hx_7
  have hsz_w4 := hstep.size
  clear hstep
  have ho_13 := hnew
  clear hnew
  obtain ⟨ssa, ssn, sscap, rfl⟩ := ho_13.shape
  obtain ⟨bc_14a, bc_14b, bc_14c, bc_14d⟩ := hx_12.cells
  have bc_14h := hx_12.heap
  have bc_14l := hx_12.lt
  go_wp2_with fail
  clear bc_14a bc_14b bc_14c bc_14d bc_14h bc_14l
  refine (GS.out _ _ _ hb0_10 (HC_p.out _ _ _ _ ho_11) (HC_s.out _ _ _ _ ho_13)).mono ?_
  rintro e w5 ⟨u0, rfl, hu0, hstep⟩
  have hb0_15 := Below.step hb0_10 hb0_10.size hstep
  clear hb0_10
  have ho_16 := ho_11.same hstep.size (fun i _ h2 => hstep.block i (Nat.lt_of_lt_of_le h2 ho_11.hi))
  clear ho_11
  have ho_17 := ho_13.same hstep.size (fun i _ h2 => hstep.block i (Nat.lt_of_lt_of_le h2 ho_13.hi))
  clear ho_13
  have hx_18 := hx_12.below hstep hx_12.lt
  clear hx_12
  have hsz_w5 := hstep.size
  clear hstep
  clear GS
  clear ho_16
  clear ho_17
  obtain ⟨u0a, u0n, u0cap, rfl⟩ := hu0.shape
  have HU0 : Hid (∀ w_ : World, Below w5.heap.size w5 w_ → WordsAt w_ (.slice u0a u0n u0cap) R0) := fun w_ hb => (HN_R0.out _ _ _ _ hu0).below hb
  clear hu0
  have hbA_19 := Below.refl w5.heap.size w5
  obtain ⟨bc_20a, bc_20b, bc_20c, bc_20d⟩ := hx_18.cells
  have bc_20h := hx_18.heap
  have bc_20l := hx_18.lt
  go_wp2_with fail
  clear bc_20a bc_20b bc_20c bc_20d bc_20h bc_20l
  refine (GT_p.out _ hb0_15).mono ?_
  rintro e w6 ⟨xp, rfl, hnew, hstep⟩
  have hb0_21 := Below.step hb0_15 hb0_15.size hstep
  clear hb0_15
  have hbA_22 := Below.step hbA_19 hbA_19.size hstep
  clear hbA_19
  have hx_23 := hx_18.below hstep hx_18.lt
  clear hx_18
  have hsz_w6 := hstep.size
  clear hstep
  have ho_24 := hnew
  clear hnew
  obtain ⟨xpsa, xpsn, xpsc, xpca, xpcn, xpcc, rfl⟩ := ho_24.shape
  obtain ⟨bc_25a, bc_25b, bc_25c, bc_25d⟩ := hx_23.cells
  have bc_25h := hx_23.heap
  have bc_25l := hx_23.lt
  go_wp2_with fail
  clear bc_25a bc_25b bc_25c bc_25d bc_25h bc_25l
  have hb0_26 := hb0_21.alloc hb0_21.size (.cells #[.int .i64 p.1, .int .i64 p.2.1, .slice xpsa xpsn xpsc, .slice xpca xpcn xpcc] 27)
  clear hb0_21
  have hbA_27 := hbA_22.alloc hbA_22.size (.cells #[.int .i64 p.1, .int .i64 p.2.1, .slice xpsa xpsn xpsc, .slice xpca xpcn xpcc] 27)
  clear hbA_22
  have hal := (Below.refl w6.heap.size w6).alloc (Nat.le_refl _) (.cells #[.int .i64 p.1, .int .i64 p.2.1, .slice xpsa xpsn xpsc, .slice xpca xpcn xpcc] 27)
  have ho_28 := ho_24.same hal.size (fun i _ h2 => hal.block i (Nat.lt_of_lt_of_le h2 ho_24.hi))
  clear ho_24
  have hx_29 := hx_23.alloc (.cells #[.int .i64 p.1, .int .i64 p.2.1, .slice xpsa xpsn xpsc, .slice xpca xpcn xpcc] 27)
  clear hx_23
  have hx_30 := box4_alloc w6 27 (.int .i64 p.1) (.int .i64 p.2.1) (.slice xpsa xpsn xpsc) (.slice xpca xpcn xpcc)
  have hbl_xp := hx_30.lt
  have hsz_w7 := hal.size
  clear hal
  generalize (w6.alloc (.cells #[.int .i64 p.1, .int .i64 p.2.1, .slice xpsa xpsn xpsc, .slice xpca xpcn xpcc] 27)) = w7 at *
  refine (GT_s.out _ hb0_26).mono ?_
  rintro e w8 ⟨xs, rfl, hnew, hstep⟩
  have hb0_31 := Below.step hb0_26 hb0_26.size hstep
  clear hb0_26
  have hbA_32 := Below.step hbA_27 hbA_27.size hstep
  clear hbA_27
  have ho_33 := ho_28.same hstep.size (fun i _ h2 => hstep.block i (Nat.lt_of_lt_of_le h2 ho_28.hi))
  clear ho_28
  have hx_34 := hx_29.below hstep hx_29.lt
  clear hx_29
  have hx_35 := hx_30.below hstep hx_30.lt
  clear hx_30
  have hsz_w8 := hstep.size
  clear hstep
  have ho_36 := hnew
  clear hnew
  obtain ⟨xsa, xsn, xscap, rfl⟩ := ho_36.shape
  obtain ⟨bc_37a, bc_37b, bc_37c, bc_37d⟩ := hx_34.cells
  have bc_37h := hx_34.heap
  have bc_37l := hx_34.lt
  obtain ⟨bc_38a, bc_38b, bc_38c, bc_38d⟩ := hx_35.cells
  have bc_38h := hx_35.heap
  have bc_38l := hx_35.lt
  go_wp2_with fail
  clear bc_37a bc_37b bc_37c bc_37d bc_37h bc_37l bc_38a bc_38b bc_38c bc_38d bc_38h bc_38l
  refine (GI.out _ _ _ hb0_31 (HC_p.out _ _ _ _ ho_33) (HC_s.out _ _ _ _ ho_36)).mono ?_
  rintro e w9 ⟨y0, rfl, hn0, hstep⟩
  have hb0_39 := Below.step hb0_31 hb0_31.size hstep
  clear hb0_31
  have hbA_40 := Below.step hbA_32 hbA_32.size hstep
  clear hbA_32
  have ho_41 := ho_33.same hstep.size (fun i _ h2 => hstep.block i (Nat.lt_of_lt_of_le h2 ho_33.hi))
  clear ho_33
  have ho_42 := ho_36.same hstep.size (fun i _ h2 => hstep.block i (Nat.lt_of_lt_of_le h2 ho_36.hi))
  clear ho_36
  have hx_43 := hx_34.below hstep hx_34.lt
  clear hx_34
  have hx_44 := hx_35.below hstep hx_35.lt
  clear hx_35
  have hsz_w9 := hstep.size
  clear hstep
  have ho_45 := hn0
  clear hn0
  obtain ⟨y0a, y0n, y0cap, rfl⟩ := ho_45.shape
  obtain ⟨bc_46a, bc_46b, bc_46c, bc_46d⟩ := hx_43.cells
  have bc_46h := hx_43.heap
  have bc_46l := hx_43.lt
  obtain ⟨bc_47a, bc_47b, bc_47c, bc_47d⟩ := hx_44.cells
  have bc_47h := hx_44.heap
  have bc_47l := hx_44.lt
  go_wp2_with fail
  clear bc_46a bc_46b bc_46c bc_46d bc_46h bc_46l bc_47a bc_47b bc_47c bc_47d bc_47h bc_47l
  refine (GE_R0.out _ _ _ (HN_R0.out _ _ _ _ ho_45) (HU0.out _ hbA_40)).mono ?_
  rintro e w10 ⟨rfl, hstep⟩
  have hb0_48 := Below.step hb0_39 hb0_39.size hstep
  clear hb0_39
  have hbA_49 := Below.step hbA_40 hbA_40.size hstep
  clear hbA_40
  have ho_50 := ho_41.same hstep.size (fun i _ h2 => hstep.block i (Nat.lt_of_lt_of_le h2 ho_41.hi))
  clear ho_41
  have ho_51 := ho_42.same hstep.size (fun i _ h2 => hstep.block i (Nat.lt_of_lt_of_le h2 ho_42.hi))
  clear ho_42
  have ho_52 := ho_45.same hstep.size (fun i _ h2 => hstep.block i (Nat.lt_of_lt_of_le h2 ho_45.hi))
  clear ho_45
  have hx_53 := hx_43.below hstep hx_43.lt
  clear hx_43
  have hx_54 := hx_44.below hstep hx_44.lt
  clear hx_44
  have hsz_w10 := hstep.size
  clear hstep
  obtain ⟨bc_55a, bc_55b, bc_55c, bc_55d⟩ := hx_53.cells
  have bc_55h := hx_53.heap
  have bc_55l := hx_53.lt
  obtain ⟨bc_56a, bc_56b, bc_56c, bc_56d⟩ := hx_54.cells
  have bc_56h := hx_54.heap
  have bc_56l := hx_54.lt
  go_wp2_with fail
  clear bc_55a bc_55b bc_55c bc_55d bc_55h bc_55l bc_56a bc_56b bc_56c bc_56d bc_56h bc_56l
  have HXA : Hid (∀ w_ : World, Below w10.heap.size w10 w_ → AtProg w_ (.agg #[.int .i64 p.1, .int .i64 p.2.1, .slice xpsa xpsn xpsc, .slice xpca xpcn xpcc]) p) := fun w_ hb => (HN_p.out _ _ _ _ ho_50).below hb
  have HH_a_p : Hid (∀ w_ : World, Below w10.heap.size w10 w_ → Box4 w_ (w.heap.size) 69 (.int .i64 p.1) (.int .i64 p.2.1) (.slice psa psn psc) (.slice pca pcn pcc)) := fun w_ hb => hx_53.below hb hx_53.lt
  have HH_xp : Hid (∀ w_ : World, Below w10.heap.size w10 w_ → Box4 w_ (w6.heap.size) 27 (.int .i64 p.1) (.int .i64 p.2.1) (.slice xpsa xpsn xpsc) (.slice xpca xpcn xpcc)) := fun w_ hb => hx_54.below hb hx_54.lt
  go_cut [60] from 56 to 60 (fun s wx => s = .bool false ∧ Hid (Below w10.heap.size w10 wx))
  case first =>
    obtain ⟨bc_57a, bc_57b, bc_57c, bc_57d⟩ := hx_53.cells
    have bc_57h := hx_53.heap
    have bc_57l := hx_53.lt
    obtain ⟨bc_58a, bc_58b, bc_58c, bc_58d⟩ := hx_54.cells
    have bc_58h := hx_54.heap
    have bc_58l := hx_54.lt
    have HB0 : Hid (Below w.heap.size w w10) := hb0_48
    clear hb0_48 hbA_49 ho_50 ho_51 ho_52 hx_53 hx_54
    go_region_with (first | (go_at_call 46; refine (GT_p.out _ (by first | exact HB0.out | exact HB0.out.drew | exact HB0.out.drew.drew | exact HB0.out.drew.drew.drew)).mono ?_; rintro e wn ⟨c_, rfl, hnew, hstep⟩; have HS : Hid (Below w10.heap.size w10 wn) := (by first | exact hstep | exact (Below.refl _ _).drew.trans hstep | exact (Below.refl _ _).drew.drew.trans hstep); have hcr := HN_p.out _ _ _ _ hnew; obtain ⟨zsa, zsn, zsc, zca, zcn, zcc, rfl⟩ := hcr.shape; have HC : Hid (AtProg wn (.agg #[.int .i64 p.1, .int .i64 p.2.1, .slice zsa zsn zsc, .slice zca zcn zcc]) p) := hcr; have yx := HH_xp.out _ HS.out; have yxh := yx.heap; obtain ⟨yx0, yx1, yx2, yx3⟩ := yx.cells; have yxl := yx.lt; clear hstep hnew hcr yx) | (go_at_call 48; refine (GE_p.out _ _ _ (HXA.out _ (by first | exact HS.out | exact HS.out.drew | exact HS.out.drew.drew | exact HS.out.drew.drew.drew)) (by first | exact HC.out | exact HC.out.below (Below.refl _ _).drew | exact HC.out.below (Below.refl _ _).drew.drew)).mono ?_; rintro e wm ⟨rfl, hstep⟩; have HS2 : Hid (Below w10.heap.size w10 wm) := (by first | exact HS.out.trans (hstep.mono HS.out.size) | exact HS.out.drew.trans (hstep.mono HS.out.size) | exact HS.out.drew.drew.trans (hstep.mono HS.out.size)); clear hstep))
    all_goals
      go_wp2_with fail
      go_meet
      case rel => exact ⟨rfl, by first | exact HS2 | exact HS2.out.drew | exact HS2.out.drew.drew⟩
  obtain ⟨rfl, HCUT⟩ := hcut
  have hstep := HCUT.out
  clear HCUT HXA HH_a_p HH_xp
  have hb0_59 := Below.step hb0_48 hb0_48.size hstep
  clear hb0_48
  have hbA_60 := Below.step hbA_49 hbA_49.size hstep
  clear hbA_49
  have ho_61 := ho_50.same hstep.size (fun i _ h2 => hstep.block i (Nat.lt_of_lt_of_le h2 ho_50.hi))
  clear ho_50
  have ho_62 := ho_51.same hstep.size (fun i _ h2 => hstep.block i (Nat.lt_of_lt_of_le h2 ho_51.hi))
  clear ho_51
  have ho_63 := ho_52.same hstep.size (fun i _ h2 => hstep.block i (Nat.lt_of_lt_of_le h2 ho_52.hi))
  clear ho_52
  have hx_64 := hx_53.below hstep hx_53.lt
  clear hx_53
  have hx_65 := hx_54.below hstep hx_54.lt
  clear hx_54
  have hsz_wc_66 := hstep.size
  clear hstep
  obtain ⟨bc_67a, bc_67b, bc_67c, bc_67d⟩ := hx_64.cells
  have bc_67h := hx_64.heap
  have bc_67l := hx_64.lt
  obtain ⟨bc_68a, bc_68b, bc_68c, bc_68d⟩ := hx_65.cells
  have bc_68h := hx_65.heap
  have bc_68l := hx_65.lt
  go_wp2_with fail
  clear bc_67a bc_67b bc_67c bc_67d bc_67h bc_67l bc_68a bc_68b bc_68c bc_68d bc_68h bc_68l
  refine (GT_s.out _ hb0_59).mono ?_
  rintro e w12 ⟨c_, rfl, hnew, hstep⟩
  have hb0_69 := Below.step hb0_59 hb0_59.size hstep
  clear hb0_59
  have hbA_70 := Below.step hbA_60 hbA_60.size hstep
  clear hbA_60
  have ho_71 := ho_61.same hstep.size (fun i _ h2 => hstep.block i (Nat.lt_of_lt_of_le h2 ho_61.hi))
  clear ho_61
  have ho_72 := ho_62.same hstep.size (fun i _ h2 => hstep.block i (Nat.lt_of_lt_of_le h2 ho_62.hi))
  clear ho_62
  have ho_73 := ho_63.same hstep.size (fun i _ h2 => hstep.block i (Nat.lt_of_lt_of_le h2 ho_63.hi))
  clear ho_63
  have hx_74 := hx_64.below hstep hx_64.lt
  clear hx_64
  have hx_75 := hx_65.below hstep hx_65.lt
  clear hx_65
  have hsz_w12 := hstep.size
  clear hstep
  have hcr := HN_s.out _ _ _ _ hnew
  clear hnew
  obtain ⟨za, zcap, rfl⟩ := hcr.shape
  obtain ⟨bc_76a, bc_76b, bc_76c, bc_76d⟩ := hx_74.cells
  have bc_76h := hx_74.heap
  have bc_76l := hx_74.lt
  obtain ⟨bc_77a, bc_77b, bc_77c, bc_77d⟩ := hx_75.cells
  have bc_77h := hx_75.heap
  have bc_77l := hx_75.lt
  go_wp2_with fail
  clear bc_76a bc_76b bc_76c bc_76d bc_76h bc_76l bc_77a bc_77b bc_77c bc_77d bc_77h bc_77l
  refine (GE_s.out _ _ _ (HN_s.out _ _ _ _ ho_72) hcr).mono ?_
  clear hcr
  rintro e w13 ⟨rfl, hstep⟩
  have hb0_78 := Below.step hb0_69 hb0_69.size hstep
  clear hb0_69
  have hbA_79 := Below.step hbA_70 hbA_70.size hstep
  clear hbA_70
  have ho_80 := ho_71.same hstep.size (fun i _ h2 => hstep.block i (Nat.lt_of_lt_of_le h2 ho_71.hi))
  clear ho_71
  have ho_81 := ho_72.same hstep.size (fun i _ h2 => hstep.block i (Nat.lt_of_lt_of_le h2 ho_72.hi))
  clear ho_72
  have ho_82 := ho_73.same hstep.size (fun i _ h2 => hstep.block i (Nat.lt_of_lt_of_le h2 ho_73.hi))
  clear ho_73
  have hx_83 := hx_74.below hstep hx_74.lt
  clear hx_74
  have hx_84 := hx_75.below hstep hx_75.lt
  clear hx_75
  have hsz_w13 := hstep.size
  clear hstep
  obtain ⟨bc_85a, bc_85b, bc_85c, bc_85d⟩ := hx_83.cells
  have bc_85h := hx_83.heap
  have bc_85l := hx_83.lt
  obtain ⟨bc_86a, bc_86b, bc_86c, bc_86d⟩ := hx_84.cells
  have bc_86h := hx_84.heap
  have bc_86l := hx_84.lt
  go_wp2_with fail
  clear bc_85a bc_85b bc_85c bc_85d bc_85h bc_85l bc_86a bc_86b bc_86c bc_86d bc_86h bc_86l
  refine (GM_p.out _ _ _ (1) _ (by omega) (by omega) ho_80).mono ?_
  rintro e w14 ⟨rfl, hmk, htc⟩
  have hb0_87 := Touch.below hb0_78 (by omega) hb0_78.size htc
  clear hb0_78
  have hbA_88 := Touch.below hbA_79 (by omega) hbA_79.size htc
  clear hbA_79
  have ho_89 := ho_81.same htc.size (fun i h1 h2 => htc.block i (Nat.lt_of_lt_of_le h2 ho_81.hi) (by omega))
  clear ho_81
  have ho_90 := ho_82.same htc.size (fun i h1 h2 => htc.block i (Nat.lt_of_lt_of_le h2 ho_82.hi) (by omega))
  clear ho_82
  have hx_91 : Box4 w14 (w.heap.size) 69 (.int .i64 p.1) (.int .i64 p.2.1) (.slice psa psn psc) (.slice pca pcn pcc) := ⟨by rw [htc.block _ hx_83.lt (by omega)]; exact hx_83.heap⟩
  clear hx_83
  have hx_92 : Box4 w14 (w6.heap.size) 27 (.int .i64 p.1) (.int .i64 p.2.1) (.slice xpsa xpsn xpsc) (.slice xpca xpcn xpcc) := ⟨by rw [htc.block _ hx_84.lt (by omega)]; exact hx_84.heap⟩
  clear hx_84
  have hsz_w14 := htc.size
  have ho_93 := hmk
  clear hmk htc ho_80
  obtain ⟨bc_94a, bc_94b, bc_94c, bc_94d⟩ := hx_91.cells
  have bc_94h := hx_91.heap
  have bc_94l := hx_91.lt
  obtain ⟨bc_95a, bc_95b, bc_95c, bc_95d⟩ := hx_92.cells
  have bc_95h := hx_92.heap
  have bc_95l := hx_92.lt
  go_wp2_with fail
  clear bc_94a bc_94b bc_94c bc_94d bc_94h bc_94l bc_95a bc_95b bc_95c bc_95d bc_95h bc_95l
  refine (GM_s.out _ _ _ (1 + Lp) _ (by omega) (by omega) ho_89).mono ?_
  rintro e w15 ⟨rfl, hmk, htc⟩
  have hb0_96 := Touch.below hb0_87 (by omega) hb0_87.size htc
  clear hb0_87
  have hbA_97 := Touch.below hbA_88 (by omega) hbA_88.size htc
  clear hbA_88
  have ho_98 := ho_93.same htc.size (fun i h1 h2 => htc.block i (Nat.lt_of_lt_of_le h2 ho_93.hi) (by omega))
  clear ho_93
  have ho_99 := ho_90.same htc.size (fun i h1 h2 => htc.block i (Nat.lt_of_lt_of_le h2 ho_90.hi) (by omega))
  clear ho_90
  have hx_100 : Box4 w15 (w.heap.size) 69 (.int .i64 p.1) (.int .i64 p.2.1) (.slice psa psn psc) (.slice pca pcn pcc) := ⟨by rw [htc.block _ hx_91.lt (by omega)]; exact hx_91.heap⟩
  clear hx_91
  have hx_101 : Box4 w15 (w6.heap.size) 27 (.int .i64 p.1) (.int .i64 p.2.1) (.slice xpsa xpsn xpsc) (.slice xpca xpcn xpcc) := ⟨by rw [htc.block _ hx_92.lt (by omega)]; exact hx_92.heap⟩
  clear hx_92
  have hsz_w15 := htc.size
  have ho_102 := hmk
  clear hmk htc ho_89
  clear ho_98
  clear ho_102
  obtain ⟨bc_103a, bc_103b, bc_103c, bc_103d⟩ := hx_100.cells
  have bc_103h := hx_100.heap
  have bc_103l := hx_100.lt
  obtain ⟨bc_104a, bc_104b, bc_104c, bc_104d⟩ := hx_101.cells
  have bc_104h := hx_101.heap
  have bc_104l := hx_101.lt
  go_wp2_with fail
  clear bc_103a bc_103b bc_103c bc_103d bc_103h bc_103l bc_104a bc_104b bc_104c bc_104d bc_104h bc_104l
  refine (GE_R0.out _ _ _ (HN_R0.out _ _ _ _ ho_99) (HU0.out _ hbA_97)).mono ?_
  rintro e w16 ⟨rfl, hstep⟩
  have hb0_105 := Below.step hb0_96 hb0_96.size hstep
  clear hb0_96
  have hbA_106 := Below.step hbA_97 hbA_97.size hstep
  clear hbA_97
  have ho_107 := ho_99.same hstep.size (fun i _ h2 => hstep.block i (Nat.lt_of_lt_of_le h2 ho_99.hi))
  clear ho_99
  have hx_108 := hx_100.below hstep hx_100.lt
  clear hx_100
  have hx_109 := hx_101.below hstep hx_101.lt
  clear hx_101
  have hsz_w16 := hstep.size
  clear hstep
  obtain ⟨bc_110a, bc_110b, bc_110c, bc_110d⟩ := hx_108.cells
  have bc_110h := hx_108.heap
  have bc_110l := hx_108.lt
  obtain ⟨bc_111a, bc_111b, bc_111c, bc_111d⟩ := hx_109.cells
  have bc_111h := hx_109.heap
  have bc_111l := hx_109.lt
  go_wp2_with fail
  clear bc_110a bc_110b bc_110c bc_110d bc_110h bc_110l bc_111a bc_111b bc_111c bc_111d bc_111h bc_111l
  refine (GM_R0.out _ _ _ (1) _ (by omega) (by omega) ho_107).mono ?_
  rintro e w17 ⟨rfl, hmk, htc⟩
  have hb0_112 := Touch.below hb0_105 (by omega) hb0_105.size htc
  clear hb0_105
  have hbA_113 := Touch.below hbA_106 (by omega) hbA_106.size htc
  clear hbA_106
  have hx_114 : Box4 w17 (w.heap.size) 69 (.int .i64 p.1) (.int .i64 p.2.1) (.slice psa psn psc) (.slice pca pcn pcc) := ⟨by rw [htc.block _ hx_108.lt (by omega)]; exact hx_108.heap⟩
  clear hx_108
  have hx_115 : Box4 w17 (w6.heap.size) 27 (.int .i64 p.1) (.int .i64 p.2.1) (.slice xpsa xpsn xpsc) (.slice xpca xpcn xpcc) := ⟨by rw [htc.block _ hx_109.lt (by omega)]; exact hx_109.heap⟩
  clear hx_109
  have hsz_w17 := htc.size
  have ho_116 := hmk
  clear hmk htc ho_107
  obtain ⟨bc_117a, bc_117b, bc_117c, bc_117d⟩ := hx_114.cells
  have bc_117h := hx_114.heap
  have bc_117l := hx_114.lt
  obtain ⟨bc_118a, bc_118b, bc_118c, bc_118d⟩ := hx_115.cells
  have bc_118h := hx_115.heap
  have bc_118l := hx_115.lt
  go_wp2_with fail
  clear bc_117a bc_117b bc_117c bc_117d bc_117h bc_117l bc_118a bc_118b bc_118c bc_118d bc_118h bc_118l
  refine (GH_R0.out _ _ _ (1) _ (by omega) (by omega) ho_116).mono ?_
  rintro e w18 ⟨rfl, hstep⟩
  have hb0_119 := Below.step hb0_112 hb0_112.size hstep
  clear hb0_112
  have hbA_120 := Below.step hbA_113 hbA_113.size hstep
  clear hbA_113
  have ho_121 := ho_116.same hstep.size (fun i _ h2 => hstep.block i (Nat.lt_of_lt_of_le h2 ho_116.hi))
  clear ho_116
  have hx_122 := hx_114.below hstep hx_114.lt
  clear hx_114
  have hx_123 := hx_115.below hstep hx_115.lt
  clear hx_115
  have hsz_w18 := hstep.size
  clear hstep
  obtain ⟨bc_124a, bc_124b, bc_124c, bc_124d⟩ := hx_122.cells
  have bc_124h := hx_122.heap
  have bc_124l := hx_122.lt
  obtain ⟨bc_125a, bc_125b, bc_125c, bc_125d⟩ := hx_123.cells
  have bc_125h := hx_123.heap
  have bc_125l := hx_123.lt
  go_wp2_with fail
  clear bc_124a bc_124b bc_124c bc_124d bc_124h bc_124l bc_125a bc_125b bc_125c bc_125d bc_125h bc_125l
  refine (GT_p.out _ hb0_119).mono ?_
  rintro e w19 ⟨tp, rfl, hnew, hstep⟩
  have hb0_126 := Below.step hb0_119 hb0_119.size hstep
  clear hb0_119
  have hbA_127 := Below.step hbA_120 hbA_120.size hstep
  clear hbA_120
  have ho_128 := ho_121.same hstep.size (fun i _ h2 => hstep.block i (Nat.lt_of_lt_of_le h2 ho_121.hi))
  clear ho_121
  have hx_129 := hx_122.below hstep hx_122.lt
  clear hx_122
  have hx_130 := hx_123.below hstep hx_123.lt
  clear hx_123
  have hsz_w19 := hstep.size
  clear hstep
  have ho_131 := hnew
  clear hnew
  obtain ⟨tpsa, tpsn, tpsc, tpca, tpcn, tpcc, rfl⟩ := ho_131.shape
  obtain ⟨bc_132a, bc_132b, bc_132c, bc_132d⟩ := hx_129.cells
  have bc_132h := hx_129.heap
  have bc_132l := hx_129.lt
  obtain ⟨bc_133a, bc_133b, bc_133c, bc_133d⟩ := hx_130.cells
  have bc_133h := hx_130.heap
  have bc_133l := hx_130.lt
  go_wp2_with fail
  clear bc_132a bc_132b bc_132c bc_132d bc_132h bc_132l bc_133a bc_133b bc_133c bc_133d bc_133h bc_133l
  refine (GT_s.out _ hb0_126).mono ?_
  rintro e w20 ⟨ts, rfl, hnew, hstep⟩
  have hb0_134 := Below.step hb0_126 hb0_126.size hstep
  clear hb0_126
  have hbA_135 := Below.step hbA_127 hbA_127.size hstep
  clear hbA_127
  have ho_136 := ho_128.same hstep.size (fun i _ h2 => hstep.block i (Nat.lt_of_lt_of_le h2 ho_128.hi))
  clear ho_128
  have ho_137 := ho_131.same hstep.size (fun i _ h2 => hstep.block i (Nat.lt_of_lt_of_le h2 ho_131.hi))
  clear ho_131
  have hx_138 := hx_129.below hstep hx_129.lt
  clear hx_129
  have hx_139 := hx_130.below hstep hx_130.lt
  clear hx_130
  have hsz_w20 := hstep.size
  clear hstep
  have ho_140 := hnew
  clear hnew
  obtain ⟨tsa, tsn, tscap, rfl⟩ := ho_140.shape
  obtain ⟨bc_141a, bc_141b, bc_141c, bc_141d⟩ := hx_138.cells
  have bc_141h := hx_138.heap
  have bc_141l := hx_138.lt
  obtain ⟨bc_142a, bc_142b, bc_142c, bc_142d⟩ := hx_139.cells
  have bc_142h := hx_139.heap
  have bc_142l := hx_139.lt
  go_wp2_with fail
  clear bc_141a bc_141b bc_141c bc_141d bc_141h bc_141l bc_142a bc_142b bc_142c bc_142d bc_142h bc_142l
  refine (GI.out _ _ _ hb0_134 (HC_p.out _ _ _ _ ho_137) (HC_s.out _ _ _ _ ho_140)).mono ?_
  rintro e w21 ⟨h0, rfl, hn0, hstep⟩
  have hb0_143 := Below.step hb0_134 hb0_134.size hstep
  clear hb0_134
  have hbA_144 := Below.step hbA_135 hbA_135.size hstep
  clear hbA_135
  have ho_145 := ho_136.same hstep.size (fun i _ h2 => hstep.block i (Nat.lt_of_lt_of_le h2 ho_136.hi))
  clear ho_136
  have ho_146 := ho_137.same hstep.size (fun i _ h2 => hstep.block i (Nat.lt_of_lt_of_le h2 ho_137.hi))
  clear ho_137
  have ho_147 := ho_140.same hstep.size (fun i _ h2 => hstep.block i (Nat.lt_of_lt_of_le h2 ho_140.hi))
  clear ho_140
  have hx_148 := hx_138.below hstep hx_138.lt
  clear hx_138
  have hx_149 := hx_139.below hstep hx_139.lt
  clear hx_139
  have hsz_w21 := hstep.size
  clear hstep
  have ho_150 := hn0
  clear hn0
  obtain ⟨h0a, h0n, h0cap, rfl⟩ := ho_150.shape
  clear ho_146
  clear ho_147
  obtain ⟨bc_151a, bc_151b, bc_151c, bc_151d⟩ := hx_148.cells
  have bc_151h := hx_148.heap
  have bc_151l := hx_148.lt
  obtain ⟨bc_152a, bc_152b, bc_152c, bc_152d⟩ := hx_149.cells
  have bc_152h := hx_149.heap
  have bc_152l := hx_149.lt
  go_wp2_with fail
  clear bc_151a bc_151b bc_151c bc_151d bc_151h bc_151l bc_152a bc_152b bc_152c bc_152d bc_152h bc_152l
  refine (GE_R0.out _ _ _ (HN_R0.out _ _ _ _ ho_150) (HU0.out _ hbA_144)).mono ?_
  rintro e w22 ⟨rfl, hstep⟩
  have hb0_153 := Below.step hb0_143 hb0_143.size hstep
  clear hb0_143
  have hbA_154 := Below.step hbA_144 hbA_144.size hstep
  clear hbA_144
  have ho_155 := ho_145.same hstep.size (fun i _ h2 => hstep.block i (Nat.lt_of_lt_of_le h2 ho_145.hi))
  clear ho_145
  have ho_156 := ho_150.same hstep.size (fun i _ h2 => hstep.block i (Nat.lt_of_lt_of_le h2 ho_150.hi))
  clear ho_150
  have hx_157 := hx_148.below hstep hx_148.lt
  clear hx_148
  have hx_158 := hx_149.below hstep hx_149.lt
  clear hx_149
  have hsz_w22 := hstep.size
  clear hstep
  clear ho_156
  obtain ⟨bc_159a, bc_159b, bc_159c, bc_159d⟩ := hx_157.cells
  have bc_159h := hx_157.heap
  have bc_159l := hx_157.lt
  obtain ⟨bc_160a, bc_160b, bc_160c, bc_160d⟩ := hx_158.cells
  have bc_160h := hx_158.heap
  have bc_160l := hx_158.lt
  go_wp2_with fail
  clear bc_159a bc_159b bc_159c bc_159d bc_159h bc_159l bc_160a bc_160b bc_160c bc_160d bc_160h bc_160l
  refine (GH_R0.out _ _ _ (1) _ (by omega) (by omega) ho_155).mono ?_
  rintro e w23 ⟨rfl, hstep⟩
  have hb0_161 := Below.step hb0_153 hb0_153.size hstep
  clear hb0_153
  have hbA_162 := Below.step hbA_154 hbA_154.size hstep
  clear hbA_154
  have ho_163 := ho_155.same hstep.size (fun i _ h2 => hstep.block i (Nat.lt_of_lt_of_le h2 ho_155.hi))
  clear ho_155
  have hx_164 := hx_157.below hstep hx_157.lt
  clear hx_157
  have hx_165 := hx_158.below hstep hx_158.lt
  clear hx_158
  have hsz_w23 := hstep.size
  clear hstep
  have HB : Hid (Below w.heap.size w w23) := hb0_161
  clear ho_163
  obtain ⟨bc_166a, bc_166b, bc_166c, bc_166d⟩ := hx_164.cells
  have bc_166h := hx_164.heap
  have bc_166l := hx_164.lt
  obtain ⟨bc_167a, bc_167b, bc_167c, bc_167d⟩ := hx_165.cells
  have bc_167h := hx_165.heap
  have bc_167l := hx_165.lt
  go_wp2_with fail
  go_ret
  exact ⟨rfl, HB.out⟩
set_option maxRecDepth 100000 in
set_option maxHeartbeats 2000000 in
theorem stepBy_big0 (p : Pg) (pv : Value) (s : List Int) (sv : Value) (n : Int)  (hz : 1048576 < s.length) (w : World) (h_p : AtProg w pv p) (h_s : WordsAt w sv s) :
    Calls Tryd.prog 8 #[pv, sv, .int .i64 n] w fun e w' => e = .returned (.bool true) ∧ Below w.heap.size w w' := by
  have hm_s := h_s.2.1
  obtain ⟨sa, scap, rfl⟩ := h_s.shape
  obtain ⟨psa, psn, psc, pca, pcn, pcc, rfl⟩ := h_p.shape
  generalize s.length = sn at *
  clear h_p h_s
  have HB0 : Hid (Below w.heap.size w (w.alloc (.cells #[.int .i64 p.1, .int .i64 p.2.1, .slice psa psn psc, .slice pca pcn pcc] 69))) := (Below.refl _ _).alloc (Nat.le_refl _) _
  go_enter Tryd.func8, Tryd.ntmps8
  go_wp2_with fail
  go_ret
  exact ⟨rfl, HB0.out⟩
set_option maxRecDepth 100000 in
set_option maxHeartbeats 2000000 in
theorem stepBy_big1 (p : Pg) (pv : Value) (s : List Int) (sv : Value) (n : Int) (hl_s : s.length ≤ 1048576) (hz : 1048576 < sPg p) (w : World) (h_p : AtProg w pv p) (h_s : WordsAt w sv s) :
    Calls Tryd.prog 8 #[pv, sv, .int .i64 n] w fun e w' => e = .returned (.bool true) ∧ Below w.heap.size w w' := by
  have Z : Hid (∀ w1 : World, Below w.heap.size w w1 → Calls Tryd.prog 45 #[pv, .int .i64 1048576] w1 fun e w' => e = .returned (.int .i64 (-1)) ∧ Below w1.heap.size w1 w') := fun w1 hb => szProgram_big pv p hz w1 (h_p.below hb)
  have hm_s := h_s.2.1
  obtain ⟨sa, scap, rfl⟩ := h_s.shape
  obtain ⟨psa, psn, psc, pca, pcn, pcc, rfl⟩ := h_p.shape
  clear hz
  generalize s.length = sn at *
  clear h_p h_s
  have HB0 : Hid (Below w.heap.size w (w.alloc (.cells #[.int .i64 p.1, .int .i64 p.2.1, .slice psa psn psc, .slice pca pcn pcc] 69))) := (Below.refl _ _).alloc (Nat.le_refl _) _
  go_enter Tryd.func8, Tryd.ntmps8
  go_wp2_with fail
  refine (Z.out _ HB0.out).mono ?_
  rintro e w1 ⟨rfl, hstep⟩
  have HB1 : Hid (Below w.heap.size w w1) := Below.step HB0.out HB0.out.size hstep
  clear hstep Z
  go_wp2_with fail
  go_ret
  exact ⟨rfl, HB1.out⟩
theorem stepBy_law (p : Pg) (pv : Value) (s : List Int) (sv : Value) (n : Int) (hf_n : Fit n) (R0 : List Int) (R1 : Bool) (hR0 : PgOk p → WsOk s → sPg p ≤ 1048576 → WsOk R0) (w : World) (h_p : AtProg w pv p) (h_s : WordsAt w sv s) (GS0 : PgOk p → WsOk s → sPg p ≤ 1048576 → ∀ (p1 s1 : Value) (w1 : World), Below w.heap.size w w1 → AtProg w1 p1 p → AtUS w1 s1 s → Calls Tryd.prog 55 #[p1, s1, .int .i64 n] w1 fun e w' => ∃ r0, e = .returned (.tuple #[r0, .bool R1]) ∧ OwnUS w' w1.heap.size w'.heap.size r0 R0 ∧ Below w1.heap.size w1 w') (GI0 : PgOk p → WsOk s → sPg p ≤ 1048576 → ∀ (p1 s1 : Value) (w1 : World), Below w.heap.size w w1 → AtProg w1 p1 p → AtUS w1 s1 s → Calls Tryd.prog 22 #[p1, s1, .int .i64 n] w1 fun e w' => ∃ r0, e = .returned (.tuple #[r0, .bool R1]) ∧ OwnUS w' w1.heap.size w'.heap.size r0 R0 ∧ Below w1.heap.size w1 w') :
    Calls Tryd.prog 8 #[pv, sv, .int .i64 n] w fun e w' => e = .returned (.bool true) ∧ Below w.heap.size w w' := by
  by_cases hl_s : s.length ≤ 1048576
  case neg => exact stepBy_big0 p pv s sv n  (by omega) w h_p h_s
  by_cases hs_p : sPg p ≤ 1048576
  case neg => exact stepBy_big1 p pv s sv n hl_s (by omega) w h_p h_s
  have hok_p : PgOk p := h_p.ok (by omega)
  have hok_s : WsOk s := ⟨h_s.1, by omega⟩
  exact stepBy_small p pv s sv n hf_n R0 R1 (hR0 hok_p hok_s hs_p) hok_p hok_s hs_p w h_p h_s (GS0 hok_p hok_s hs_p) (GI0 hok_p hok_s hs_p)
end Go.Proofs.YtjbolpfilgkbfaaDoor
