/-
  The walk of the exact law of EqGates, out of what the model's and the program's function do.
-/
import Derived.Test.YtnagaanagcmdgaaShapes
import Derived.Test.YtnagaanagcmdgaaCutT
namespace Go.Proofs.Ytnagaanagcmdgaa
open Go Go.RowKit
open M
set_option linter.unusedVariables false

set_option maxRecDepth 100000 in
set_option maxHeartbeats 8000000 in
theorem eqGates_small (c : Ci) (cv : Value) (a : List Int) (av : Value) (b : List Int) (bv : Value) (R0 : Ci) (R1 : Int) (R2 : Bool) (hR0 : CiOk R0) (hok_c : CiOk c) (hok_a : a.length ≤ 1048576) (hok_b : b.length ≤ 1048576) (htot : c.2.1.length + c.2.2.length ≤ 1048576) (w : World) (h_c : AtCirc w cv c) (h_a : IntsAt w av a) (h_b : IntsAt w bv b) (GS0 : ∀ (c1 a1 b1 : Value) (w1 : World), AtC w1 c1 c → AtIS w1 a1 a → AtIS w1 b1 b → Calls Try.prog 31 #[c1, a1, b1] w1 fun e w' => ∃ r0, e = .returned (.tuple #[r0, .int .i64 R1, .bool R2]) ∧ OwnCirc w' w1.heap.size w'.heap.size r0 R0 ∧ Below w1.heap.size w1 w') (GI0 : ∀ (c1 a1 b1 : Value) (w1 : World), AtC w1 c1 c → AtIS w1 a1 a → AtIS w1 b1 b → Calls Try.prog 30 #[c1, a1, b1] w1 fun e w' => ∃ r0, e = .returned (.tuple #[r0, .int .i64 R1, .bool R2]) ∧ OwnCirc w' w1.heap.size w'.heap.size r0 R0 ∧ Below w1.heap.size w1 w') :
    Calls Try.prog 13 #[cv, av, bv] w fun e w' => e = .returned (.bool true) ∧ Below w.heap.size w w' := by
  have GS : Hid (∀ (c1 a1 b1 : Value) (w1 : World), AtC w1 c1 c → AtIS w1 a1 a → AtIS w1 b1 b → Calls Try.prog 31 #[c1, a1, b1] w1 fun e w' => ∃ r0, e = .returned (.tuple #[r0, .int .i64 R1, .bool R2]) ∧ OwnCirc w' w1.heap.size w'.heap.size r0 R0 ∧ Below w1.heap.size w1 w') := GS0
  have GI : Hid (∀ (c1 a1 b1 : Value) (w1 : World), AtC w1 c1 c → AtIS w1 a1 a → AtIS w1 b1 b → Calls Try.prog 30 #[c1, a1, b1] w1 fun e w' => ∃ r0, e = .returned (.tuple #[r0, .int .i64 R1, .bool R2]) ∧ OwnCirc w' w1.heap.size w'.heap.size r0 R0 ∧ Below w1.heap.size w1 w') := GI0
  clear GS0 GI0
  have Z : Hid (∀ w1 : World, Below w.heap.size w w1 → Calls Try.prog 41 #[cv, .int .i64 1048576] w1 fun e w' => e = .returned (.int .i64 (1048576 - (c.2.1.length : Int) - (c.2.2.length : Int))) ∧ Below w1.heap.size w1 w') := fun w1 hb => szCircuit_small cv c htot w1 (h_c.below hb)
  obtain ⟨n0, hn0⟩ : ∃ n0 : Int, 1048576 - (c.2.1.length : Int) - (c.2.2.length : Int) = n0 := ⟨_, rfl⟩
  have hn1 : 0 ≤ n0 := by omega
  rw [hn0] at Z
  have GT_c : Hid (∀ w1 : World, Below w.heap.size w w1 → Calls Try.prog 42 #[cv] w1 fun e w' => ∃ v', e = .returned v' ∧ OwnCirc w' w1.heap.size w'.heap.size v' c ∧ Below w1.heap.size w1 w') := fun w1 hb => toCircuit_any cv c hok_c w1 (h_c.below hb)
  have GE_c : Hid (∀ (u v : Value) (w1 : World), AtCirc w1 u c → AtCirc w1 v c → Calls Try.prog 43 #[u, v] w1 fun e w' => e = .returned (.bool true) ∧ Below w1.heap.size w1 w') := fun u v w1 h1 h2 => eqCircuit_same u v c w1 h1 h2
  have HN_c : Hid (∀ (w1 : World) (lo hi : Nat) (v1 : Value), OwnCirc w1 lo hi v1 c → AtCirc w1 v1 c) := fun w1 lo hi v1 ho => ho.reads hok_c
  have GT_a : Hid (∀ w1 : World, Below w.heap.size w w1 → Calls Try.prog 53 #[av] w1 fun e w' => ∃ v', e = .returned v' ∧ OwnIS w' w1.heap.size w'.heap.size v' a ∧ Below w1.heap.size w1 w') := fun w1 hb => toIS_any av a hok_a w1 (h_a.below hb)
  have GE_a : Hid (∀ (u v : Value) (w1 : World), IntsAt w1 u a → IntsAt w1 v a → Calls Try.prog 49 #[u, v] w1 fun e w' => e = .returned (.bool true) ∧ Below w1.heap.size w1 w') := fun u v w1 h1 h2 => by
    have g := eqIntS_any u v a a w1 h1 h2
    rw [decide_eq_true rfl] at g
    exact g
  have HN_a : Hid (∀ (w1 : World) (lo hi : Nat) (v1 : Value), OwnIS w1 lo hi v1 a → IntsAt w1 v1 a) := fun w1 lo hi v1 ho => ho.reads hok_a
  have GT_b : Hid (∀ w1 : World, Below w.heap.size w w1 → Calls Try.prog 53 #[bv] w1 fun e w' => ∃ v', e = .returned v' ∧ OwnIS w' w1.heap.size w'.heap.size v' b ∧ Below w1.heap.size w1 w') := fun w1 hb => toIS_any bv b hok_b w1 (h_b.below hb)
  have GE_b : Hid (∀ (u v : Value) (w1 : World), IntsAt w1 u b → IntsAt w1 v b → Calls Try.prog 49 #[u, v] w1 fun e w' => e = .returned (.bool true) ∧ Below w1.heap.size w1 w') := fun u v w1 h1 h2 => by
    have g := eqIntS_any u v b b w1 h1 h2
    rw [decide_eq_true rfl] at g
    exact g
  have HN_b : Hid (∀ (w1 : World) (lo hi : Nat) (v1 : Value), OwnIS w1 lo hi v1 b → IntsAt w1 v1 b) := fun w1 lo hi v1 ho => ho.reads hok_b
  have HC_c : Hid (∀ (w1 : World) (lo hi : Nat) (v1 : Value), OwnCirc w1 lo hi v1 c → AtC w1 v1 c) := fun w1 lo hi v1 ho => ho.hands hok_c
  have HC_a : Hid (∀ (w1 : World) (lo hi : Nat) (v1 : Value), OwnIS w1 lo hi v1 a → AtIS w1 v1 a) := fun w1 lo hi v1 ho => ho.hands hok_a
  have HC_b : Hid (∀ (w1 : World) (lo hi : Nat) (v1 : Value), OwnIS w1 lo hi v1 b → AtIS w1 v1 b) := fun w1 lo hi v1 ho => ho.hands hok_b
  have GE_R0 : Hid (∀ (u v : Value) (w1 : World), AtCirc w1 u R0 → AtCirc w1 v R0 → Calls Try.prog 43 #[u, v] w1 fun e w' => e = .returned (.bool true) ∧ Below w1.heap.size w1 w') := fun u v w1 h1 h2 => eqCircuit_same u v R0 w1 h1 h2
  have HN_R0 : Hid (∀ (w1 : World) (lo hi : Nat) (v1 : Value), OwnCirc w1 lo hi v1 R0 → AtCirc w1 v1 R0) := fun w1 lo hi v1 ho => ho.reads hR0
  have GM_c : Hid (∀ (v : Value) (lo hi : Nat) (k : Int) (w1 : World), 0 ≤ k → k ≤ 100000000000 → OwnCirc w1 lo hi v c → Calls Try.prog 46 #[v, .int .i64 k] w1 fun e w' => e = .returned (.int .i64 (k + lenCirc c)) ∧ MarkCirc w' lo hi v c k ∧ Touch lo hi w1 w') := fun v lo hi k w1 h0 h1 ho => markCircuit_any v c lo hi k hok_c.2.2.1 hok_c.2.2.2 h0 h1 w1 ho
  have hle_c : 0 ≤ lenCirc c ∧ lenCirc c ≤ 4194304 := by have := hok_c.2.2.1; have := hok_c.2.2.2; unfold lenCirc; omega
  obtain ⟨Lc, hLc⟩ : ∃ L : Int, lenCirc c = L := ⟨_, rfl⟩
  rw [hLc] at GM_c hle_c
  clear hLc
  obtain ⟨hle0_c, hle1_c⟩ := hle_c
  have GM_a : Hid (∀ (v : Value) (lo hi : Nat) (k : Int) (w1 : World), 0 ≤ k → k ≤ 100000000000 → OwnIS w1 lo hi v a → Calls Try.prog 50 #[v, .int .i64 k] w1 fun e w' => e = .returned (.int .i64 (k + (a.length : Int))) ∧ MarkIS w' lo hi v a k ∧ Touch lo hi w1 w') := fun v lo hi k w1 h0 h1 ho => markIS_any v a lo hi k hok_a h0 h1 w1 ho
  have hle_a : 0 ≤ (a.length : Int) ∧ (a.length : Int) ≤ 4194304 := by omega
  obtain ⟨La, hLa⟩ : ∃ L : Int, (a.length : Int) = L := ⟨_, rfl⟩
  rw [hLa] at GM_a hle_a
  clear hLa
  obtain ⟨hle0_a, hle1_a⟩ := hle_a
  have GM_b : Hid (∀ (v : Value) (lo hi : Nat) (k : Int) (w1 : World), 0 ≤ k → k ≤ 100000000000 → OwnIS w1 lo hi v b → Calls Try.prog 50 #[v, .int .i64 k] w1 fun e w' => e = .returned (.int .i64 (k + (b.length : Int))) ∧ MarkIS w' lo hi v b k ∧ Touch lo hi w1 w') := fun v lo hi k w1 h0 h1 ho => markIS_any v b lo hi k hok_b h0 h1 w1 ho
  have hle_b : 0 ≤ (b.length : Int) ∧ (b.length : Int) ≤ 4194304 := by omega
  obtain ⟨Lb, hLb⟩ : ∃ L : Int, (b.length : Int) = L := ⟨_, rfl⟩
  rw [hLb] at GM_b hle_b
  clear hLb
  obtain ⟨hle0_b, hle1_b⟩ := hle_b
  have GM_R0 : Hid (∀ (v : Value) (lo hi : Nat) (k : Int) (w1 : World), 0 ≤ k → k ≤ 100000000000 → OwnCirc w1 lo hi v R0 → Calls Try.prog 46 #[v, .int .i64 k] w1 fun e w' => e = .returned (.int .i64 (k + lenCirc R0)) ∧ MarkCirc w' lo hi v R0 k ∧ Touch lo hi w1 w') := fun v lo hi k w1 h0 h1 ho => markCircuit_any v R0 lo hi k hR0.2.2.1 hR0.2.2.2 h0 h1 w1 ho
  have GH_R0 : Hid (∀ (v : Value) (lo hi : Nat) (k : Int) (w1 : World), 0 ≤ k → k ≤ 100000000000 → MarkCirc w1 lo hi v R0 k → Calls Try.prog 52 #[v, .int .i64 k] w1 fun e w' => e = .returned (.int .i64 (k + lenCirc R0)) ∧ Below w1.heap.size w1 w') := fun v lo hi k w1 h0 h1 ho => heldCircuit_any v R0 lo hi k hR0.2.2.1 hR0.2.2.2 h0 h1 w1 ho
  have hle_R0 : 0 ≤ lenCirc R0 ∧ lenCirc R0 ≤ 4194304 := by have := hR0.2.2.1; have := hR0.2.2.2; unfold lenCirc; omega
  obtain ⟨LR0, hLR0⟩ : ∃ L : Int, lenCirc R0 = L := ⟨_, rfl⟩
  rw [hLR0] at GM_R0 hle_R0 GH_R0
  clear hLR0
  obtain ⟨hle0_R0, hle1_R0⟩ := hle_R0
  obtain ⟨cga, cgn, cgc, coa, con, coc, rfl⟩ := h_c.shape
  obtain ⟨aa, acap, rfl⟩ := h_a.shape
  have hlx_a : (a.length : Int) ≤ 1048576 := by omega
  obtain ⟨an, hn_a⟩ : ∃ m : Nat, a.length = m := ⟨_, rfl⟩
  rw [hn_a] at GT_a hlx_a
  try rw [hn_a]
  clear hn_a
  obtain ⟨ba, bcap, rfl⟩ := h_b.shape
  have hlx_b : (b.length : Int) ≤ 1048576 := by omega
  obtain ⟨bn, hn_b⟩ : ∃ m : Nat, b.length = m := ⟨_, rfl⟩
  rw [hn_b] at GT_b hlx_b
  try rw [hn_b]
  clear hn_b
  clear hn0 htot h_c h_a h_b hok_c hok_a hok_b hR0
  have hci := (0 : Int)
  clear hci
  go_enter Try.func13, Try.ntmps13
  have hb0_0 := Below.refl w.heap.size w
  go_wp2_with fail
  have hb0_1 := hb0_0.alloc hb0_0.size (.cells #[.int .i64 c.1, .slice cga cgn cgc, .slice coa con coc] 56)
  clear hb0_0
  have hal := (Below.refl w.heap.size w).alloc (Nat.le_refl _) (.cells #[.int .i64 c.1, .slice cga cgn cgc, .slice coa con coc] 56)
  have hx_2 := box3_alloc w 56 (.int .i64 c.1) (.slice cga cgn cgc) (.slice coa con coc)
  have hbl_aC := hx_2.lt
  have hsz_w1 := hal.size
  clear hal
  generalize (w.alloc (.cells #[.int .i64 c.1, .slice cga cgn cgc, .slice coa con coc] 56)) = w1 at *
  refine (Z.out _ hb0_1).mono ?_
  rintro e w2 ⟨rfl, hstep⟩
  have hb0_3 := Below.step hb0_1 hb0_1.size hstep
  clear hb0_1
  have hx_4 := hx_2.below hstep hx_2.lt
  clear hx_2
  have hsz_w2 := hstep.size
  clear hstep
  clear Z
  obtain ⟨bc_5a, bc_5b, bc_5c⟩ := hx_4.cells
  have bc_5h := hx_4.heap
  have bc_5l := hx_4.lt
  go_wp2_with fail
  clear bc_5a bc_5b bc_5c bc_5h bc_5l
  refine (GT_c.out _ hb0_3).mono ?_
  rintro e w3 ⟨sc, rfl, hnew, hstep⟩
  have hb0_6 := Below.step hb0_3 hb0_3.size hstep
  clear hb0_3
  have hx_7 := hx_4.below hstep hx_4.lt
  clear hx_4
  have hsz_w3 := hstep.size
  clear hstep
  have ho_8 := hnew
  clear hnew
  obtain ⟨scga, scgn, scgc, scoa, scon, scoc, rfl⟩ := ho_8.shape
  obtain ⟨bc_9a, bc_9b, bc_9c⟩ := hx_7.cells
  have bc_9h := hx_7.heap
  have bc_9l := hx_7.lt
  go_wp2_with fail
  clear bc_9a bc_9b bc_9c bc_9h bc_9l
  refine (GT_a.out _ hb0_6).mono ?_
  rintro e w4 ⟨sa, rfl, hnew, hstep⟩
  have hb0_10 := Below.step hb0_6 hb0_6.size hstep
  clear hb0_6
  have ho_11 := ho_8.same hstep.size (fun i _ h2 => hstep.block i (Nat.lt_of_lt_of_le h2 ho_8.hi))
  clear ho_8
  have hx_12 := hx_7.below hstep hx_7.lt
  clear hx_7
  have hsz_w4 := hstep.size
  clear hstep
  have ho_13 := hnew
  clear hnew
  obtain ⟨saa, san, sacap, rfl⟩ := ho_13.shape
  obtain ⟨bc_14a, bc_14b, bc_14c⟩ := hx_12.cells
  have bc_14h := hx_12.heap
  have bc_14l := hx_12.lt
  go_wp2_with fail
  clear bc_14a bc_14b bc_14c bc_14h bc_14l
  refine (GT_b.out _ hb0_10).mono ?_
  rintro e w5 ⟨sb, rfl, hnew, hstep⟩
  have hb0_15 := Below.step hb0_10 hb0_10.size hstep
  clear hb0_10
  have ho_16 := ho_11.same hstep.size (fun i _ h2 => hstep.block i (Nat.lt_of_lt_of_le h2 ho_11.hi))
  clear ho_11
  have ho_17 := ho_13.same hstep.size (fun i _ h2 => hstep.block i (Nat.lt_of_lt_of_le h2 ho_13.hi))
  clear ho_13
  have hx_18 := hx_12.below hstep hx_12.lt
  clear hx_12
  have hsz_w5 := hstep.size
  clear hstep
  have ho_19 := hnew
  clear hnew
  obtain ⟨sba, sbn, sbcap, rfl⟩ := ho_19.shape
  obtain ⟨bc_20a, bc_20b, bc_20c⟩ := hx_18.cells
  have bc_20h := hx_18.heap
  have bc_20l := hx_18.lt
  go_wp2_with fail
  clear bc_20a bc_20b bc_20c bc_20h bc_20l
  refine (GS.out _ _ _ _ (HC_c.out _ _ _ _ ho_16) (HC_a.out _ _ _ _ ho_17) (HC_b.out _ _ _ _ ho_19)).mono ?_
  rintro e w6 ⟨u0, rfl, hu0, hstep⟩
  have hb0_21 := Below.step hb0_15 hb0_15.size hstep
  clear hb0_15
  have ho_22 := ho_16.same hstep.size (fun i _ h2 => hstep.block i (Nat.lt_of_lt_of_le h2 ho_16.hi))
  clear ho_16
  have ho_23 := ho_17.same hstep.size (fun i _ h2 => hstep.block i (Nat.lt_of_lt_of_le h2 ho_17.hi))
  clear ho_17
  have ho_24 := ho_19.same hstep.size (fun i _ h2 => hstep.block i (Nat.lt_of_lt_of_le h2 ho_19.hi))
  clear ho_19
  have hx_25 := hx_18.below hstep hx_18.lt
  clear hx_18
  have hsz_w6 := hstep.size
  clear hstep
  clear GS
  clear ho_22
  clear ho_23
  clear ho_24
  obtain ⟨u0ga, u0gn, u0gc, u0oa, u0on, u0oc, rfl⟩ := hu0.shape
  have HU0 : Hid (∀ w_ : World, Below w6.heap.size w6 w_ → AtCirc w_ (.agg #[.int .i64 R0.1, .slice u0ga u0gn u0gc, .slice u0oa u0on u0oc]) R0) := fun w_ hb => (HN_R0.out _ _ _ _ hu0).below hb
  clear hu0
  have hbA_26 := Below.refl w6.heap.size w6
  obtain ⟨bc_27a, bc_27b, bc_27c⟩ := hx_25.cells
  have bc_27h := hx_25.heap
  have bc_27l := hx_25.lt
  go_wp2_with fail
  clear bc_27a bc_27b bc_27c bc_27h bc_27l
  have hb0_28 := hb0_21.alloc hb0_21.size (.cells #[.int .i64 R0.1, .slice u0ga u0gn u0gc, .slice u0oa u0on u0oc] 27)
  clear hb0_21
  have hbA_29 := hbA_26.alloc hbA_26.size (.cells #[.int .i64 R0.1, .slice u0ga u0gn u0gc, .slice u0oa u0on u0oc] 27)
  clear hbA_26
  have hal := (Below.refl w6.heap.size w6).alloc (Nat.le_refl _) (.cells #[.int .i64 R0.1, .slice u0ga u0gn u0gc, .slice u0oa u0on u0oc] 27)
  have hx_30 := hx_25.alloc (.cells #[.int .i64 R0.1, .slice u0ga u0gn u0gc, .slice u0oa u0on u0oc] 27)
  clear hx_25
  have hx_31 := box3_alloc w6 27 (.int .i64 R0.1) (.slice u0ga u0gn u0gc) (.slice u0oa u0on u0oc)
  have hbl_u0 := hx_31.lt
  have hsz_w7 := hal.size
  clear hal
  generalize (w6.alloc (.cells #[.int .i64 R0.1, .slice u0ga u0gn u0gc, .slice u0oa u0on u0oc] 27)) = w7 at *
  refine (GT_c.out _ hb0_28).mono ?_
  rintro e w8 ⟨xc, rfl, hnew, hstep⟩
  have hb0_32 := Below.step hb0_28 hb0_28.size hstep
  clear hb0_28
  have hbA_33 := Below.step hbA_29 hbA_29.size hstep
  clear hbA_29
  have hx_34 := hx_30.below hstep hx_30.lt
  clear hx_30
  have hx_35 := hx_31.below hstep hx_31.lt
  clear hx_31
  have hsz_w8 := hstep.size
  clear hstep
  have ho_36 := hnew
  clear hnew
  obtain ⟨xcga, xcgn, xcgc, xcoa, xcon, xcoc, rfl⟩ := ho_36.shape
  obtain ⟨bc_37a, bc_37b, bc_37c⟩ := hx_34.cells
  have bc_37h := hx_34.heap
  have bc_37l := hx_34.lt
  obtain ⟨bc_38a, bc_38b, bc_38c⟩ := hx_35.cells
  have bc_38h := hx_35.heap
  have bc_38l := hx_35.lt
  go_wp2_with fail
  clear bc_37a bc_37b bc_37c bc_37h bc_37l bc_38a bc_38b bc_38c bc_38h bc_38l
  have hb0_39 := hb0_32.alloc hb0_32.size (.cells #[.int .i64 c.1, .slice xcga xcgn xcgc, .slice xcoa xcon xcoc] 27)
  clear hb0_32
  have hbA_40 := hbA_33.alloc hbA_33.size (.cells #[.int .i64 c.1, .slice xcga xcgn xcgc, .slice xcoa xcon xcoc] 27)
  clear hbA_33
  have hal := (Below.refl w8.heap.size w8).alloc (Nat.le_refl _) (.cells #[.int .i64 c.1, .slice xcga xcgn xcgc, .slice xcoa xcon xcoc] 27)
  have ho_41 := ho_36.same hal.size (fun i _ h2 => hal.block i (Nat.lt_of_lt_of_le h2 ho_36.hi))
  clear ho_36
  have hx_42 := hx_34.alloc (.cells #[.int .i64 c.1, .slice xcga xcgn xcgc, .slice xcoa xcon xcoc] 27)
  clear hx_34
  have hx_43 := hx_35.alloc (.cells #[.int .i64 c.1, .slice xcga xcgn xcgc, .slice xcoa xcon xcoc] 27)
  clear hx_35
  have hx_44 := box3_alloc w8 27 (.int .i64 c.1) (.slice xcga xcgn xcgc) (.slice xcoa xcon xcoc)
  have hbl_xc := hx_44.lt
  have hsz_w9 := hal.size
  clear hal
  generalize (w8.alloc (.cells #[.int .i64 c.1, .slice xcga xcgn xcgc, .slice xcoa xcon xcoc] 27)) = w9 at *
  refine (GT_a.out _ hb0_39).mono ?_
  rintro e w10 ⟨xa, rfl, hnew, hstep⟩
  have hb0_45 := Below.step hb0_39 hb0_39.size hstep
  clear hb0_39
  have hbA_46 := Below.step hbA_40 hbA_40.size hstep
  clear hbA_40
  have ho_47 := ho_41.same hstep.size (fun i _ h2 => hstep.block i (Nat.lt_of_lt_of_le h2 ho_41.hi))
  clear ho_41
  have hx_48 := hx_42.below hstep hx_42.lt
  clear hx_42
  have hx_49 := hx_43.below hstep hx_43.lt
  clear hx_43
  have hx_50 := hx_44.below hstep hx_44.lt
  clear hx_44
  have hsz_w10 := hstep.size
  clear hstep
  have ho_51 := hnew
  clear hnew
  obtain ⟨xaa, xan, xacap, rfl⟩ := ho_51.shape
  obtain ⟨bc_52a, bc_52b, bc_52c⟩ := hx_48.cells
  have bc_52h := hx_48.heap
  have bc_52l := hx_48.lt
  obtain ⟨bc_53a, bc_53b, bc_53c⟩ := hx_49.cells
  have bc_53h := hx_49.heap
  have bc_53l := hx_49.lt
  obtain ⟨bc_54a, bc_54b, bc_54c⟩ := hx_50.cells
  have bc_54h := hx_50.heap
  have bc_54l := hx_50.lt
  go_wp2_with fail
  clear bc_52a bc_52b bc_52c bc_52h bc_52l bc_53a bc_53b bc_53c bc_53h bc_53l bc_54a bc_54b bc_54c bc_54h bc_54l
  refine (GT_b.out _ hb0_45).mono ?_
  rintro e w11 ⟨xb, rfl, hnew, hstep⟩
  have hb0_55 := Below.step hb0_45 hb0_45.size hstep
  clear hb0_45
  have hbA_56 := Below.step hbA_46 hbA_46.size hstep
  clear hbA_46
  have ho_57 := ho_47.same hstep.size (fun i _ h2 => hstep.block i (Nat.lt_of_lt_of_le h2 ho_47.hi))
  clear ho_47
  have ho_58 := ho_51.same hstep.size (fun i _ h2 => hstep.block i (Nat.lt_of_lt_of_le h2 ho_51.hi))
  clear ho_51
  have hx_59 := hx_48.below hstep hx_48.lt
  clear hx_48
  have hx_60 := hx_49.below hstep hx_49.lt
  clear hx_49
  have hx_61 := hx_50.below hstep hx_50.lt
  clear hx_50
  have hsz_w11 := hstep.size
  clear hstep
  have ho_62 := hnew
  clear hnew
  obtain ⟨xba, xbn, xbcap, rfl⟩ := ho_62.shape
  obtain ⟨bc_63a, bc_63b, bc_63c⟩ := hx_59.cells
  have bc_63h := hx_59.heap
  have bc_63l := hx_59.lt
  obtain ⟨bc_64a, bc_64b, bc_64c⟩ := hx_60.cells
  have bc_64h := hx_60.heap
  have bc_64l := hx_60.lt
  obtain ⟨bc_65a, bc_65b, bc_65c⟩ := hx_61.cells
  have bc_65h := hx_61.heap
  have bc_65l := hx_61.lt
  go_wp2_with fail
  clear bc_63a bc_63b bc_63c bc_63h bc_63l bc_64a bc_64b bc_64c bc_64h bc_64l bc_65a bc_65b bc_65c bc_65h bc_65l
  refine (GI.out _ _ _ _ (HC_c.out _ _ _ _ ho_57) (HC_a.out _ _ _ _ ho_58) (HC_b.out _ _ _ _ ho_62)).mono ?_
  rintro e w12 ⟨y0, rfl, hn0, hstep⟩
  have hb0_66 := Below.step hb0_55 hb0_55.size hstep
  clear hb0_55
  have hbA_67 := Below.step hbA_56 hbA_56.size hstep
  clear hbA_56
  have ho_68 := ho_57.same hstep.size (fun i _ h2 => hstep.block i (Nat.lt_of_lt_of_le h2 ho_57.hi))
  clear ho_57
  have ho_69 := ho_58.same hstep.size (fun i _ h2 => hstep.block i (Nat.lt_of_lt_of_le h2 ho_58.hi))
  clear ho_58
  have ho_70 := ho_62.same hstep.size (fun i _ h2 => hstep.block i (Nat.lt_of_lt_of_le h2 ho_62.hi))
  clear ho_62
  have hx_71 := hx_59.below hstep hx_59.lt
  clear hx_59
  have hx_72 := hx_60.below hstep hx_60.lt
  clear hx_60
  have hx_73 := hx_61.below hstep hx_61.lt
  clear hx_61
  have hsz_w12 := hstep.size
  clear hstep
  have ho_74 := hn0
  clear hn0
  obtain ⟨y0ga, y0gn, y0gc, y0oa, y0on, y0oc, rfl⟩ := ho_74.shape
  obtain ⟨bc_75a, bc_75b, bc_75c⟩ := hx_71.cells
  have bc_75h := hx_71.heap
  have bc_75l := hx_71.lt
  obtain ⟨bc_76a, bc_76b, bc_76c⟩ := hx_72.cells
  have bc_76h := hx_72.heap
  have bc_76l := hx_72.lt
  obtain ⟨bc_77a, bc_77b, bc_77c⟩ := hx_73.cells
  have bc_77h := hx_73.heap
  have bc_77l := hx_73.lt
  go_wp2_with fail
  clear bc_75a bc_75b bc_75c bc_75h bc_75l bc_76a bc_76b bc_76c bc_76h bc_76l bc_77a bc_77b bc_77c bc_77h bc_77l
  have hb0_78 := hb0_66.alloc hb0_66.size (.cells #[.int .i64 R0.1, .slice y0ga y0gn y0gc, .slice y0oa y0on y0oc] 27)
  clear hb0_66
  have hbA_79 := hbA_67.alloc hbA_67.size (.cells #[.int .i64 R0.1, .slice y0ga y0gn y0gc, .slice y0oa y0on y0oc] 27)
  clear hbA_67
  have hal := (Below.refl w12.heap.size w12).alloc (Nat.le_refl _) (.cells #[.int .i64 R0.1, .slice y0ga y0gn y0gc, .slice y0oa y0on y0oc] 27)
  have ho_80 := ho_68.same hal.size (fun i _ h2 => hal.block i (Nat.lt_of_lt_of_le h2 ho_68.hi))
  clear ho_68
  have ho_81 := ho_69.same hal.size (fun i _ h2 => hal.block i (Nat.lt_of_lt_of_le h2 ho_69.hi))
  clear ho_69
  have ho_82 := ho_70.same hal.size (fun i _ h2 => hal.block i (Nat.lt_of_lt_of_le h2 ho_70.hi))
  clear ho_70
  have ho_83 := ho_74.same hal.size (fun i _ h2 => hal.block i (Nat.lt_of_lt_of_le h2 ho_74.hi))
  clear ho_74
  have hx_84 := hx_71.alloc (.cells #[.int .i64 R0.1, .slice y0ga y0gn y0gc, .slice y0oa y0on y0oc] 27)
  clear hx_71
  have hx_85 := hx_72.alloc (.cells #[.int .i64 R0.1, .slice y0ga y0gn y0gc, .slice y0oa y0on y0oc] 27)
  clear hx_72
  have hx_86 := hx_73.alloc (.cells #[.int .i64 R0.1, .slice y0ga y0gn y0gc, .slice y0oa y0on y0oc] 27)
  clear hx_73
  have hx_87 := box3_alloc w12 27 (.int .i64 R0.1) (.slice y0ga y0gn y0gc) (.slice y0oa y0on y0oc)
  have hbl_y0 := hx_87.lt
  have hsz_w13 := hal.size
  clear hal
  generalize (w12.alloc (.cells #[.int .i64 R0.1, .slice y0ga y0gn y0gc, .slice y0oa y0on y0oc] 27)) = w13 at *
  refine (GE_R0.out _ _ _ (HN_R0.out _ _ _ _ ho_83) (HU0.out _ hbA_79)).mono ?_
  rintro e w14 ⟨rfl, hstep⟩
  have hb0_88 := Below.step hb0_78 hb0_78.size hstep
  clear hb0_78
  have hbA_89 := Below.step hbA_79 hbA_79.size hstep
  clear hbA_79
  have ho_90 := ho_80.same hstep.size (fun i _ h2 => hstep.block i (Nat.lt_of_lt_of_le h2 ho_80.hi))
  clear ho_80
  have ho_91 := ho_81.same hstep.size (fun i _ h2 => hstep.block i (Nat.lt_of_lt_of_le h2 ho_81.hi))
  clear ho_81
  have ho_92 := ho_82.same hstep.size (fun i _ h2 => hstep.block i (Nat.lt_of_lt_of_le h2 ho_82.hi))
  clear ho_82
  have ho_93 := ho_83.same hstep.size (fun i _ h2 => hstep.block i (Nat.lt_of_lt_of_le h2 ho_83.hi))
  clear ho_83
  have hx_94 := hx_84.below hstep hx_84.lt
  clear hx_84
  have hx_95 := hx_85.below hstep hx_85.lt
  clear hx_85
  have hx_96 := hx_86.below hstep hx_86.lt
  clear hx_86
  have hx_97 := hx_87.below hstep hx_87.lt
  clear hx_87
  have hsz_w14 := hstep.size
  clear hstep
  obtain ⟨bc_98a, bc_98b, bc_98c⟩ := hx_94.cells
  have bc_98h := hx_94.heap
  have bc_98l := hx_94.lt
  obtain ⟨bc_99a, bc_99b, bc_99c⟩ := hx_95.cells
  have bc_99h := hx_95.heap
  have bc_99l := hx_95.lt
  obtain ⟨bc_100a, bc_100b, bc_100c⟩ := hx_96.cells
  have bc_100h := hx_96.heap
  have bc_100l := hx_96.lt
  obtain ⟨bc_101a, bc_101b, bc_101c⟩ := hx_97.cells
  have bc_101h := hx_97.heap
  have bc_101l := hx_97.lt
  go_wp2_with fail
  clear bc_98a bc_98b bc_98c bc_98h bc_98l bc_99a bc_99b bc_99c bc_99h bc_99l bc_100a bc_100b bc_100c bc_100h bc_100l bc_101a bc_101b bc_101c bc_101h bc_101l
  have HXA : Hid (∀ w_ : World, Below w14.heap.size w14 w_ → AtCirc w_ (.agg #[.int .i64 c.1, .slice xcga xcgn xcgc, .slice xcoa xcon xcoc]) c) := fun w_ hb => (HN_c.out _ _ _ _ ho_90).below hb
  have HH_aC : Hid (∀ w_ : World, Below w14.heap.size w14 w_ → Box3 w_ (w.heap.size) 56 (.int .i64 c.1) (.slice cga cgn cgc) (.slice coa con coc)) := fun w_ hb => hx_94.below hb hx_94.lt
  have HH_xc : Hid (∀ w_ : World, Below w14.heap.size w14 w_ → Box3 w_ (w8.heap.size) 27 (.int .i64 c.1) (.slice xcga xcgn xcgc) (.slice xcoa xcon xcoc)) := fun w_ hb => hx_96.below hb hx_96.lt
  go_cut [77] from 73 to 77 (fun s wx => s = .bool false ∧ Hid (Below w14.heap.size w14 wx))
  case first =>
    obtain ⟨bc_102a, bc_102b, bc_102c⟩ := hx_94.cells
    have bc_102h := hx_94.heap
    have bc_102l := hx_94.lt
    obtain ⟨bc_103a, bc_103b, bc_103c⟩ := hx_95.cells
    have bc_103h := hx_95.heap
    have bc_103l := hx_95.lt
    obtain ⟨bc_104a, bc_104b, bc_104c⟩ := hx_96.cells
    have bc_104h := hx_96.heap
    have bc_104l := hx_96.lt
    obtain ⟨bc_105a, bc_105b, bc_105c⟩ := hx_97.cells
    have bc_105h := hx_97.heap
    have bc_105l := hx_97.lt
    have HB0 : Hid (Below w.heap.size w w14) := hb0_88
    clear hb0_88 hbA_89 ho_90 ho_91 ho_92 ho_93 hx_94 hx_95 hx_96 hx_97
    go_region_with (first | (go_at_call 42; refine (GT_c.out _ (by first | exact HB0.out | exact HB0.out.drew | exact HB0.out.drew.drew | exact HB0.out.drew.drew.drew)).mono ?_; rintro e wn ⟨c_, rfl, hnew, hstep⟩; have HS : Hid (Below w14.heap.size w14 wn) := (by first | exact hstep | exact (Below.refl _ _).drew.trans hstep | exact (Below.refl _ _).drew.drew.trans hstep); have hcr := HN_c.out _ _ _ _ hnew; obtain ⟨zga, zgn, zgc, zoa, zon, zoc, rfl⟩ := hcr.shape; have HC : Hid (AtCirc wn (.agg #[.int .i64 c.1, .slice zga zgn zgc, .slice zoa zon zoc]) c) := hcr; have yx := HH_xc.out _ HS.out; have yxh := yx.heap; obtain ⟨yx0, yx1, yx2⟩ := yx.cells; have yxl := yx.lt; clear hstep hnew hcr yx) | (go_at_call 43; refine (GE_c.out _ _ _ (HXA.out _ (by first | exact HS.out | exact HS.out.drew | exact HS.out.drew.drew | exact HS.out.drew.drew.drew)) (by first | exact HC.out | exact HC.out.below (Below.refl _ _).drew | exact HC.out.below (Below.refl _ _).drew.drew)).mono ?_; rintro e wm ⟨rfl, hstep⟩; have HS2 : Hid (Below w14.heap.size w14 wm) := (by first | exact HS.out.trans (hstep.mono HS.out.size) | exact HS.out.drew.trans (hstep.mono HS.out.size) | exact HS.out.drew.drew.trans (hstep.mono HS.out.size)); clear hstep))
    all_goals
      go_wp2_with fail
      go_meet
      case rel => exact ⟨rfl, by first | exact HS2 | exact HS2.out.drew | exact HS2.out.drew.drew⟩
  obtain ⟨rfl, HCUT⟩ := hcut
  have hstep := HCUT.out
  clear HCUT HXA HH_aC HH_xc
  have hb0_106 := Below.step hb0_88 hb0_88.size hstep
  clear hb0_88
  have hbA_107 := Below.step hbA_89 hbA_89.size hstep
  clear hbA_89
  have ho_108 := ho_90.same hstep.size (fun i _ h2 => hstep.block i (Nat.lt_of_lt_of_le h2 ho_90.hi))
  clear ho_90
  have ho_109 := ho_91.same hstep.size (fun i _ h2 => hstep.block i (Nat.lt_of_lt_of_le h2 ho_91.hi))
  clear ho_91
  have ho_110 := ho_92.same hstep.size (fun i _ h2 => hstep.block i (Nat.lt_of_lt_of_le h2 ho_92.hi))
  clear ho_92
  have ho_111 := ho_93.same hstep.size (fun i _ h2 => hstep.block i (Nat.lt_of_lt_of_le h2 ho_93.hi))
  clear ho_93
  have hx_112 := hx_94.below hstep hx_94.lt
  clear hx_94
  have hx_113 := hx_95.below hstep hx_95.lt
  clear hx_95
  have hx_114 := hx_96.below hstep hx_96.lt
  clear hx_96
  have hx_115 := hx_97.below hstep hx_97.lt
  clear hx_97
  have hsz_wc_116 := hstep.size
  clear hstep
  obtain ⟨bc_117a, bc_117b, bc_117c⟩ := hx_112.cells
  have bc_117h := hx_112.heap
  have bc_117l := hx_112.lt
  obtain ⟨bc_118a, bc_118b, bc_118c⟩ := hx_113.cells
  have bc_118h := hx_113.heap
  have bc_118l := hx_113.lt
  obtain ⟨bc_119a, bc_119b, bc_119c⟩ := hx_114.cells
  have bc_119h := hx_114.heap
  have bc_119l := hx_114.lt
  obtain ⟨bc_120a, bc_120b, bc_120c⟩ := hx_115.cells
  have bc_120h := hx_115.heap
  have bc_120l := hx_115.lt
  go_wp2_with fail
  clear bc_117a bc_117b bc_117c bc_117h bc_117l bc_118a bc_118b bc_118c bc_118h bc_118l bc_119a bc_119b bc_119c bc_119h bc_119l bc_120a bc_120b bc_120c bc_120h bc_120l
  refine (GT_a.out _ hb0_106).mono ?_
  rintro e w16 ⟨c_, rfl, hnew, hstep⟩
  have hb0_121 := Below.step hb0_106 hb0_106.size hstep
  clear hb0_106
  have hbA_122 := Below.step hbA_107 hbA_107.size hstep
  clear hbA_107
  have ho_123 := ho_108.same hstep.size (fun i _ h2 => hstep.block i (Nat.lt_of_lt_of_le h2 ho_108.hi))
  clear ho_108
  have ho_124 := ho_109.same hstep.size (fun i _ h2 => hstep.block i (Nat.lt_of_lt_of_le h2 ho_109.hi))
  clear ho_109
  have ho_125 := ho_110.same hstep.size (fun i _ h2 => hstep.block i (Nat.lt_of_lt_of_le h2 ho_110.hi))
  clear ho_110
  have ho_126 := ho_111.same hstep.size (fun i _ h2 => hstep.block i (Nat.lt_of_lt_of_le h2 ho_111.hi))
  clear ho_111
  have hx_127 := hx_112.below hstep hx_112.lt
  clear hx_112
  have hx_128 := hx_113.below hstep hx_113.lt
  clear hx_113
  have hx_129 := hx_114.below hstep hx_114.lt
  clear hx_114
  have hx_130 := hx_115.below hstep hx_115.lt
  clear hx_115
  have hsz_w16 := hstep.size
  clear hstep
  have hcr := HN_a.out _ _ _ _ hnew
  clear hnew
  obtain ⟨za, zcap, rfl⟩ := hcr.shape
  obtain ⟨bc_131a, bc_131b, bc_131c⟩ := hx_127.cells
  have bc_131h := hx_127.heap
  have bc_131l := hx_127.lt
  obtain ⟨bc_132a, bc_132b, bc_132c⟩ := hx_128.cells
  have bc_132h := hx_128.heap
  have bc_132l := hx_128.lt
  obtain ⟨bc_133a, bc_133b, bc_133c⟩ := hx_129.cells
  have bc_133h := hx_129.heap
  have bc_133l := hx_129.lt
  obtain ⟨bc_134a, bc_134b, bc_134c⟩ := hx_130.cells
  have bc_134h := hx_130.heap
  have bc_134l := hx_130.lt
  go_wp2_with fail
  clear bc_131a bc_131b bc_131c bc_131h bc_131l bc_132a bc_132b bc_132c bc_132h bc_132l bc_133a bc_133b bc_133c bc_133h bc_133l bc_134a bc_134b bc_134c bc_134h bc_134l
  refine (GE_a.out _ _ _ (HN_a.out _ _ _ _ ho_124) hcr).mono ?_
  clear hcr
  rintro e w17 ⟨rfl, hstep⟩
  have hb0_135 := Below.step hb0_121 hb0_121.size hstep
  clear hb0_121
  have hbA_136 := Below.step hbA_122 hbA_122.size hstep
  clear hbA_122
  have ho_137 := ho_123.same hstep.size (fun i _ h2 => hstep.block i (Nat.lt_of_lt_of_le h2 ho_123.hi))
  clear ho_123
  have ho_138 := ho_124.same hstep.size (fun i _ h2 => hstep.block i (Nat.lt_of_lt_of_le h2 ho_124.hi))
  clear ho_124
  have ho_139 := ho_125.same hstep.size (fun i _ h2 => hstep.block i (Nat.lt_of_lt_of_le h2 ho_125.hi))
  clear ho_125
  have ho_140 := ho_126.same hstep.size (fun i _ h2 => hstep.block i (Nat.lt_of_lt_of_le h2 ho_126.hi))
  clear ho_126
  have hx_141 := hx_127.below hstep hx_127.lt
  clear hx_127
  have hx_142 := hx_128.below hstep hx_128.lt
  clear hx_128
  have hx_143 := hx_129.below hstep hx_129.lt
  clear hx_129
  have hx_144 := hx_130.below hstep hx_130.lt
  clear hx_130
  have hsz_w17 := hstep.size
  clear hstep
  obtain ⟨bc_145a, bc_145b, bc_145c⟩ := hx_141.cells
  have bc_145h := hx_141.heap
  have bc_145l := hx_141.lt
  obtain ⟨bc_146a, bc_146b, bc_146c⟩ := hx_142.cells
  have bc_146h := hx_142.heap
  have bc_146l := hx_142.lt
  obtain ⟨bc_147a, bc_147b, bc_147c⟩ := hx_143.cells
  have bc_147h := hx_143.heap
  have bc_147l := hx_143.lt
  obtain ⟨bc_148a, bc_148b, bc_148c⟩ := hx_144.cells
  have bc_148h := hx_144.heap
  have bc_148l := hx_144.lt
  go_wp2_with fail
  clear bc_145a bc_145b bc_145c bc_145h bc_145l bc_146a bc_146b bc_146c bc_146h bc_146l bc_147a bc_147b bc_147c bc_147h bc_147l bc_148a bc_148b bc_148c bc_148h bc_148l
  refine (GT_b.out _ hb0_135).mono ?_
  rintro e w18 ⟨c_, rfl, hnew, hstep⟩
  have hb0_149 := Below.step hb0_135 hb0_135.size hstep
  clear hb0_135
  have hbA_150 := Below.step hbA_136 hbA_136.size hstep
  clear hbA_136
  have ho_151 := ho_137.same hstep.size (fun i _ h2 => hstep.block i (Nat.lt_of_lt_of_le h2 ho_137.hi))
  clear ho_137
  have ho_152 := ho_138.same hstep.size (fun i _ h2 => hstep.block i (Nat.lt_of_lt_of_le h2 ho_138.hi))
  clear ho_138
  have ho_153 := ho_139.same hstep.size (fun i _ h2 => hstep.block i (Nat.lt_of_lt_of_le h2 ho_139.hi))
  clear ho_139
  have ho_154 := ho_140.same hstep.size (fun i _ h2 => hstep.block i (Nat.lt_of_lt_of_le h2 ho_140.hi))
  clear ho_140
  have hx_155 := hx_141.below hstep hx_141.lt
  clear hx_141
  have hx_156 := hx_142.below hstep hx_142.lt
  clear hx_142
  have hx_157 := hx_143.below hstep hx_143.lt
  clear hx_143
  have hx_158 := hx_144.below hstep hx_144.lt
  clear hx_144
  have hsz_w18 := hstep.size
  clear hstep
  have hcr := HN_b.out _ _ _ _ hnew
  clear hnew
  obtain ⟨za, zcap, rfl⟩ := hcr.shape
  obtain ⟨bc_159a, bc_159b, bc_159c⟩ := hx_155.cells
  have bc_159h := hx_155.heap
  have bc_159l := hx_155.lt
  obtain ⟨bc_160a, bc_160b, bc_160c⟩ := hx_156.cells
  have bc_160h := hx_156.heap
  have bc_160l := hx_156.lt
  obtain ⟨bc_161a, bc_161b, bc_161c⟩ := hx_157.cells
  have bc_161h := hx_157.heap
  have bc_161l := hx_157.lt
  obtain ⟨bc_162a, bc_162b, bc_162c⟩ := hx_158.cells
  have bc_162h := hx_158.heap
  have bc_162l := hx_158.lt
  go_wp2_with fail
  clear bc_159a bc_159b bc_159c bc_159h bc_159l bc_160a bc_160b bc_160c bc_160h bc_160l bc_161a bc_161b bc_161c bc_161h bc_161l bc_162a bc_162b bc_162c bc_162h bc_162l
  refine (GE_b.out _ _ _ (HN_b.out _ _ _ _ ho_153) hcr).mono ?_
  clear hcr
  rintro e w19 ⟨rfl, hstep⟩
  have hb0_163 := Below.step hb0_149 hb0_149.size hstep
  clear hb0_149
  have hbA_164 := Below.step hbA_150 hbA_150.size hstep
  clear hbA_150
  have ho_165 := ho_151.same hstep.size (fun i _ h2 => hstep.block i (Nat.lt_of_lt_of_le h2 ho_151.hi))
  clear ho_151
  have ho_166 := ho_152.same hstep.size (fun i _ h2 => hstep.block i (Nat.lt_of_lt_of_le h2 ho_152.hi))
  clear ho_152
  have ho_167 := ho_153.same hstep.size (fun i _ h2 => hstep.block i (Nat.lt_of_lt_of_le h2 ho_153.hi))
  clear ho_153
  have ho_168 := ho_154.same hstep.size (fun i _ h2 => hstep.block i (Nat.lt_of_lt_of_le h2 ho_154.hi))
  clear ho_154
  have hx_169 := hx_155.below hstep hx_155.lt
  clear hx_155
  have hx_170 := hx_156.below hstep hx_156.lt
  clear hx_156
  have hx_171 := hx_157.below hstep hx_157.lt
  clear hx_157
  have hx_172 := hx_158.below hstep hx_158.lt
  clear hx_158
  have hsz_w19 := hstep.size
  clear hstep
  obtain ⟨bc_173a, bc_173b, bc_173c⟩ := hx_169.cells
  have bc_173h := hx_169.heap
  have bc_173l := hx_169.lt
  obtain ⟨bc_174a, bc_174b, bc_174c⟩ := hx_170.cells
  have bc_174h := hx_170.heap
  have bc_174l := hx_170.lt
  obtain ⟨bc_175a, bc_175b, bc_175c⟩ := hx_171.cells
  have bc_175h := hx_171.heap
  have bc_175l := hx_171.lt
  obtain ⟨bc_176a, bc_176b, bc_176c⟩ := hx_172.cells
  have bc_176h := hx_172.heap
  have bc_176l := hx_172.lt
  go_wp2_with fail
  clear bc_173a bc_173b bc_173c bc_173h bc_173l bc_174a bc_174b bc_174c bc_174h bc_174l bc_175a bc_175b bc_175c bc_175h bc_175l bc_176a bc_176b bc_176c bc_176h bc_176l
  refine (GM_c.out _ _ _ (1) _ (by omega) (by omega) ho_165).mono ?_
  rintro e w20 ⟨rfl, hmk, htc⟩
  have hb0_177 := Touch.below hb0_163 (by omega) hb0_163.size htc
  clear hb0_163
  have hbA_178 := Touch.below hbA_164 (by omega) hbA_164.size htc
  clear hbA_164
  have ho_179 := ho_166.same htc.size (fun i h1 h2 => htc.block i (Nat.lt_of_lt_of_le h2 ho_166.hi) (by omega))
  clear ho_166
  have ho_180 := ho_167.same htc.size (fun i h1 h2 => htc.block i (Nat.lt_of_lt_of_le h2 ho_167.hi) (by omega))
  clear ho_167
  have ho_181 := ho_168.same htc.size (fun i h1 h2 => htc.block i (Nat.lt_of_lt_of_le h2 ho_168.hi) (by omega))
  clear ho_168
  have hx_182 : Box3 w20 (w.heap.size) 56 (.int .i64 c.1) (.slice cga cgn cgc) (.slice coa con coc) := ⟨by rw [htc.block _ hx_169.lt (by omega)]; exact hx_169.heap⟩
  clear hx_169
  have hx_183 : Box3 w20 (w6.heap.size) 27 (.int .i64 R0.1) (.slice u0ga u0gn u0gc) (.slice u0oa u0on u0oc) := ⟨by rw [htc.block _ hx_170.lt (by omega)]; exact hx_170.heap⟩
  clear hx_170
  have hx_184 : Box3 w20 (w8.heap.size) 27 (.int .i64 c.1) (.slice xcga xcgn xcgc) (.slice xcoa xcon xcoc) := ⟨by rw [htc.block _ hx_171.lt (by omega)]; exact hx_171.heap⟩
  clear hx_171
  have hx_185 : Box3 w20 (w12.heap.size) 27 (.int .i64 R0.1) (.slice y0ga y0gn y0gc) (.slice y0oa y0on y0oc) := ⟨by rw [htc.block _ hx_172.lt (by omega)]; exact hx_172.heap⟩
  clear hx_172
  have hsz_w20 := htc.size
  have ho_186 := hmk
  clear hmk htc ho_165
  obtain ⟨bc_187a, bc_187b, bc_187c⟩ := hx_182.cells
  have bc_187h := hx_182.heap
  have bc_187l := hx_182.lt
  obtain ⟨bc_188a, bc_188b, bc_188c⟩ := hx_183.cells
  have bc_188h := hx_183.heap
  have bc_188l := hx_183.lt
  obtain ⟨bc_189a, bc_189b, bc_189c⟩ := hx_184.cells
  have bc_189h := hx_184.heap
  have bc_189l := hx_184.lt
  obtain ⟨bc_190a, bc_190b, bc_190c⟩ := hx_185.cells
  have bc_190h := hx_185.heap
  have bc_190l := hx_185.lt
  go_wp2_with fail
  clear bc_187a bc_187b bc_187c bc_187h bc_187l bc_188a bc_188b bc_188c bc_188h bc_188l bc_189a bc_189b bc_189c bc_189h bc_189l bc_190a bc_190b bc_190c bc_190h bc_190l
  refine (GM_a.out _ _ _ (1 + Lc) _ (by omega) (by omega) ho_179).mono ?_
  rintro e w21 ⟨rfl, hmk, htc⟩
  have hb0_191 := Touch.below hb0_177 (by omega) hb0_177.size htc
  clear hb0_177
  have hbA_192 := Touch.below hbA_178 (by omega) hbA_178.size htc
  clear hbA_178
  have ho_193 := ho_186.same htc.size (fun i h1 h2 => htc.block i (Nat.lt_of_lt_of_le h2 ho_186.hi) (by omega))
  clear ho_186
  have ho_194 := ho_180.same htc.size (fun i h1 h2 => htc.block i (Nat.lt_of_lt_of_le h2 ho_180.hi) (by omega))
  clear ho_180
  have ho_195 := ho_181.same htc.size (fun i h1 h2 => htc.block i (Nat.lt_of_lt_of_le h2 ho_181.hi) (by omega))
  clear ho_181
  have hx_196 : Box3 w21 (w.heap.size) 56 (.int .i64 c.1) (.slice cga cgn cgc) (.slice coa con coc) := ⟨by rw [htc.block _ hx_182.lt (by omega)]; exact hx_182.heap⟩
  clear hx_182
  have hx_197 : Box3 w21 (w6.heap.size) 27 (.int .i64 R0.1) (.slice u0ga u0gn u0gc) (.slice u0oa u0on u0oc) := ⟨by rw [htc.block _ hx_183.lt (by omega)]; exact hx_183.heap⟩
  clear hx_183
  have hx_198 : Box3 w21 (w8.heap.size) 27 (.int .i64 c.1) (.slice xcga xcgn xcgc) (.slice xcoa xcon xcoc) := ⟨by rw [htc.block _ hx_184.lt (by omega)]; exact hx_184.heap⟩
  clear hx_184
  have hx_199 : Box3 w21 (w12.heap.size) 27 (.int .i64 R0.1) (.slice y0ga y0gn y0gc) (.slice y0oa y0on y0oc) := ⟨by rw [htc.block _ hx_185.lt (by omega)]; exact hx_185.heap⟩
  clear hx_185
  have hsz_w21 := htc.size
  have ho_200 := hmk
  clear hmk htc ho_179
  obtain ⟨bc_201a, bc_201b, bc_201c⟩ := hx_196.cells
  have bc_201h := hx_196.heap
  have bc_201l := hx_196.lt
  obtain ⟨bc_202a, bc_202b, bc_202c⟩ := hx_197.cells
  have bc_202h := hx_197.heap
  have bc_202l := hx_197.lt
  obtain ⟨bc_203a, bc_203b, bc_203c⟩ := hx_198.cells
  have bc_203h := hx_198.heap
  have bc_203l := hx_198.lt
  obtain ⟨bc_204a, bc_204b, bc_204c⟩ := hx_199.cells
  have bc_204h := hx_199.heap
  have bc_204l := hx_199.lt
  go_wp2_with fail
  clear bc_201a bc_201b bc_201c bc_201h bc_201l bc_202a bc_202b bc_202c bc_202h bc_202l bc_203a bc_203b bc_203c bc_203h bc_203l bc_204a bc_204b bc_204c bc_204h bc_204l
  refine (GM_b.out _ _ _ (1 + Lc + La) _ (by omega) (by omega) ho_194).mono ?_
  rintro e w22 ⟨rfl, hmk, htc⟩
  have hb0_205 := Touch.below hb0_191 (by omega) hb0_191.size htc
  clear hb0_191
  have hbA_206 := Touch.below hbA_192 (by omega) hbA_192.size htc
  clear hbA_192
  have ho_207 := ho_193.same htc.size (fun i h1 h2 => htc.block i (Nat.lt_of_lt_of_le h2 ho_193.hi) (by omega))
  clear ho_193
  have ho_208 := ho_200.same htc.size (fun i h1 h2 => htc.block i (Nat.lt_of_lt_of_le h2 ho_200.hi) (by omega))
  clear ho_200
  have ho_209 := ho_195.same htc.size (fun i h1 h2 => htc.block i (Nat.lt_of_lt_of_le h2 ho_195.hi) (by omega))
  clear ho_195
  have hx_210 : Box3 w22 (w.heap.size) 56 (.int .i64 c.1) (.slice cga cgn cgc) (.slice coa con coc) := ⟨by rw [htc.block _ hx_196.lt (by omega)]; exact hx_196.heap⟩
  clear hx_196
  have hx_211 : Box3 w22 (w6.heap.size) 27 (.int .i64 R0.1) (.slice u0ga u0gn u0gc) (.slice u0oa u0on u0oc) := ⟨by rw [htc.block _ hx_197.lt (by omega)]; exact hx_197.heap⟩
  clear hx_197
  have hx_212 : Box3 w22 (w8.heap.size) 27 (.int .i64 c.1) (.slice xcga xcgn xcgc) (.slice xcoa xcon xcoc) := ⟨by rw [htc.block _ hx_198.lt (by omega)]; exact hx_198.heap⟩
  clear hx_198
  have hx_213 : Box3 w22 (w12.heap.size) 27 (.int .i64 R0.1) (.slice y0ga y0gn y0gc) (.slice y0oa y0on y0oc) := ⟨by rw [htc.block _ hx_199.lt (by omega)]; exact hx_199.heap⟩
  clear hx_199
  have hsz_w22 := htc.size
  have ho_214 := hmk
  clear hmk htc ho_194
  clear ho_207
  clear ho_208
  clear ho_214
  obtain ⟨bc_215a, bc_215b, bc_215c⟩ := hx_210.cells
  have bc_215h := hx_210.heap
  have bc_215l := hx_210.lt
  obtain ⟨bc_216a, bc_216b, bc_216c⟩ := hx_211.cells
  have bc_216h := hx_211.heap
  have bc_216l := hx_211.lt
  obtain ⟨bc_217a, bc_217b, bc_217c⟩ := hx_212.cells
  have bc_217h := hx_212.heap
  have bc_217l := hx_212.lt
  obtain ⟨bc_218a, bc_218b, bc_218c⟩ := hx_213.cells
  have bc_218h := hx_213.heap
  have bc_218l := hx_213.lt
  go_wp2_with fail
  clear bc_215a bc_215b bc_215c bc_215h bc_215l bc_216a bc_216b bc_216c bc_216h bc_216l bc_217a bc_217b bc_217c bc_217h bc_217l bc_218a bc_218b bc_218c bc_218h bc_218l
  refine (GE_R0.out _ _ _ (HN_R0.out _ _ _ _ ho_209) (HU0.out _ hbA_206)).mono ?_
  rintro e w23 ⟨rfl, hstep⟩
  have hb0_219 := Below.step hb0_205 hb0_205.size hstep
  clear hb0_205
  have hbA_220 := Below.step hbA_206 hbA_206.size hstep
  clear hbA_206
  have ho_221 := ho_209.same hstep.size (fun i _ h2 => hstep.block i (Nat.lt_of_lt_of_le h2 ho_209.hi))
  clear ho_209
  have hx_222 := hx_210.below hstep hx_210.lt
  clear hx_210
  have hx_223 := hx_211.below hstep hx_211.lt
  clear hx_211
  have hx_224 := hx_212.below hstep hx_212.lt
  clear hx_212
  have hx_225 := hx_213.below hstep hx_213.lt
  clear hx_213
  have hsz_w23 := hstep.size
  clear hstep
  obtain ⟨bc_226a, bc_226b, bc_226c⟩ := hx_222.cells
  have bc_226h := hx_222.heap
  have bc_226l := hx_222.lt
  obtain ⟨bc_227a, bc_227b, bc_227c⟩ := hx_223.cells
  have bc_227h := hx_223.heap
  have bc_227l := hx_223.lt
  obtain ⟨bc_228a, bc_228b, bc_228c⟩ := hx_224.cells
  have bc_228h := hx_224.heap
  have bc_228l := hx_224.lt
  obtain ⟨bc_229a, bc_229b, bc_229c⟩ := hx_225.cells
  have bc_229h := hx_225.heap
  have bc_229l := hx_225.lt
  go_wp2_with fail
  clear bc_226a bc_226b bc_226c bc_226h bc_226l bc_227a bc_227b bc_227c bc_227h bc_227l bc_228a bc_228b bc_228c bc_228h bc_228l bc_229a bc_229b bc_229c bc_229h bc_229l
  refine (GM_R0.out _ _ _ (1) _ (by omega) (by omega) ho_221).mono ?_
  rintro e w24 ⟨rfl, hmk, htc⟩
  have hb0_230 := Touch.below hb0_219 (by omega) hb0_219.size htc
  clear hb0_219
  have hbA_231 := Touch.below hbA_220 (by omega) hbA_220.size htc
  clear hbA_220
  have hx_232 : Box3 w24 (w.heap.size) 56 (.int .i64 c.1) (.slice cga cgn cgc) (.slice coa con coc) := ⟨by rw [htc.block _ hx_222.lt (by omega)]; exact hx_222.heap⟩
  clear hx_222
  have hx_233 : Box3 w24 (w6.heap.size) 27 (.int .i64 R0.1) (.slice u0ga u0gn u0gc) (.slice u0oa u0on u0oc) := ⟨by rw [htc.block _ hx_223.lt (by omega)]; exact hx_223.heap⟩
  clear hx_223
  have hx_234 : Box3 w24 (w8.heap.size) 27 (.int .i64 c.1) (.slice xcga xcgn xcgc) (.slice xcoa xcon xcoc) := ⟨by rw [htc.block _ hx_224.lt (by omega)]; exact hx_224.heap⟩
  clear hx_224
  have hx_235 : Box3 w24 (w12.heap.size) 27 (.int .i64 R0.1) (.slice y0ga y0gn y0gc) (.slice y0oa y0on y0oc) := ⟨by rw [htc.block _ hx_225.lt (by omega)]; exact hx_225.heap⟩
  clear hx_225
  have hsz_w24 := htc.size
  have ho_236 := hmk
  clear hmk htc ho_221
  obtain ⟨bc_237a, bc_237b, bc_237c⟩ := hx_232.cells
  have bc_237h := hx_232.heap
  have bc_237l := hx_232.lt
  obtain ⟨bc_238a, bc_238b, bc_238c⟩ := hx_233.cells
  have bc_238h := hx_233.heap
  have bc_238l := hx_233.lt
  obtain ⟨bc_239a, bc_239b, bc_239c⟩ := hx_234.cells
  have bc_239h := hx_234.heap
  have bc_239l := hx_234.lt
  obtain ⟨bc_240a, bc_240b, bc_240c⟩ := hx_235.cells
  have bc_240h := hx_235.heap
  have bc_240l := hx_235.lt
  go_wp2_with fail
  clear bc_237a bc_237b bc_237c bc_237h bc_237l bc_238a bc_238b bc_238c bc_238h bc_238l bc_239a bc_239b bc_239c bc_239h bc_239l bc_240a bc_240b bc_240c bc_240h bc_240l
  refine (GH_R0.out _ _ _ (1) _ (by omega) (by omega) ho_236).mono ?_
  rintro e w25 ⟨rfl, hstep⟩
  have hb0_241 := Below.step hb0_230 hb0_230.size hstep
  clear hb0_230
  have hbA_242 := Below.step hbA_231 hbA_231.size hstep
  clear hbA_231
  have ho_243 := ho_236.same hstep.size (fun i _ h2 => hstep.block i (Nat.lt_of_lt_of_le h2 ho_236.hi))
  clear ho_236
  have hx_244 := hx_232.below hstep hx_232.lt
  clear hx_232
  have hx_245 := hx_233.below hstep hx_233.lt
  clear hx_233
  have hx_246 := hx_234.below hstep hx_234.lt
  clear hx_234
  have hx_247 := hx_235.below hstep hx_235.lt
  clear hx_235
  have hsz_w25 := hstep.size
  clear hstep
  obtain ⟨bc_248a, bc_248b, bc_248c⟩ := hx_244.cells
  have bc_248h := hx_244.heap
  have bc_248l := hx_244.lt
  obtain ⟨bc_249a, bc_249b, bc_249c⟩ := hx_245.cells
  have bc_249h := hx_245.heap
  have bc_249l := hx_245.lt
  obtain ⟨bc_250a, bc_250b, bc_250c⟩ := hx_246.cells
  have bc_250h := hx_246.heap
  have bc_250l := hx_246.lt
  obtain ⟨bc_251a, bc_251b, bc_251c⟩ := hx_247.cells
  have bc_251h := hx_247.heap
  have bc_251l := hx_247.lt
  go_wp2_with fail
  clear bc_248a bc_248b bc_248c bc_248h bc_248l bc_249a bc_249b bc_249c bc_249h bc_249l bc_250a bc_250b bc_250c bc_250h bc_250l bc_251a bc_251b bc_251c bc_251h bc_251l
  refine (GT_c.out _ hb0_241).mono ?_
  rintro e w26 ⟨tc, rfl, hnew, hstep⟩
  have hb0_252 := Below.step hb0_241 hb0_241.size hstep
  clear hb0_241
  have hbA_253 := Below.step hbA_242 hbA_242.size hstep
  clear hbA_242
  have ho_254 := ho_243.same hstep.size (fun i _ h2 => hstep.block i (Nat.lt_of_lt_of_le h2 ho_243.hi))
  clear ho_243
  have hx_255 := hx_244.below hstep hx_244.lt
  clear hx_244
  have hx_256 := hx_245.below hstep hx_245.lt
  clear hx_245
  have hx_257 := hx_246.below hstep hx_246.lt
  clear hx_246
  have hx_258 := hx_247.below hstep hx_247.lt
  clear hx_247
  have hsz_w26 := hstep.size
  clear hstep
  have ho_259 := hnew
  clear hnew
  obtain ⟨tcga, tcgn, tcgc, tcoa, tcon, tcoc, rfl⟩ := ho_259.shape
  obtain ⟨bc_260a, bc_260b, bc_260c⟩ := hx_255.cells
  have bc_260h := hx_255.heap
  have bc_260l := hx_255.lt
  obtain ⟨bc_261a, bc_261b, bc_261c⟩ := hx_256.cells
  have bc_261h := hx_256.heap
  have bc_261l := hx_256.lt
  obtain ⟨bc_262a, bc_262b, bc_262c⟩ := hx_257.cells
  have bc_262h := hx_257.heap
  have bc_262l := hx_257.lt
  obtain ⟨bc_263a, bc_263b, bc_263c⟩ := hx_258.cells
  have bc_263h := hx_258.heap
  have bc_263l := hx_258.lt
  go_wp2_with fail
  clear bc_260a bc_260b bc_260c bc_260h bc_260l bc_261a bc_261b bc_261c bc_261h bc_261l bc_262a bc_262b bc_262c bc_262h bc_262l bc_263a bc_263b bc_263c bc_263h bc_263l
  refine (GT_a.out _ hb0_252).mono ?_
  rintro e w27 ⟨ta, rfl, hnew, hstep⟩
  have hb0_264 := Below.step hb0_252 hb0_252.size hstep
  clear hb0_252
  have hbA_265 := Below.step hbA_253 hbA_253.size hstep
  clear hbA_253
  have ho_266 := ho_254.same hstep.size (fun i _ h2 => hstep.block i (Nat.lt_of_lt_of_le h2 ho_254.hi))
  clear ho_254
  have ho_267 := ho_259.same hstep.size (fun i _ h2 => hstep.block i (Nat.lt_of_lt_of_le h2 ho_259.hi))
  clear ho_259
  have hx_268 := hx_255.below hstep hx_255.lt
  clear hx_255
  have hx_269 := hx_256.below hstep hx_256.lt
  clear hx_256
  have hx_270 := hx_257.below hstep hx_257.lt
  clear hx_257
  have hx_271 := hx_258.below hstep hx_258.lt
  clear hx_258
  have hsz_w27 := hstep.size
  clear hstep
  have ho_272 := hnew
  clear hnew
  obtain ⟨taa, tan, tacap, rfl⟩ := ho_272.shape
  obtain ⟨bc_273a, bc_273b, bc_273c⟩ := hx_268.cells
  have bc_273h := hx_268.heap
  have bc_273l := hx_268.lt
  obtain ⟨bc_274a, bc_274b, bc_274c⟩ := hx_269.cells
  have bc_274h := hx_269.heap
  have bc_274l := hx_269.lt
  obtain ⟨bc_275a, bc_275b, bc_275c⟩ := hx_270.cells
  have bc_275h := hx_270.heap
  have bc_275l := hx_270.lt
  obtain ⟨bc_276a, bc_276b, bc_276c⟩ := hx_271.cells
  have bc_276h := hx_271.heap
  have bc_276l := hx_271.lt
  go_wp2_with fail
  clear bc_273a bc_273b bc_273c bc_273h bc_273l bc_274a bc_274b bc_274c bc_274h bc_274l bc_275a bc_275b bc_275c bc_275h bc_275l bc_276a bc_276b bc_276c bc_276h bc_276l
  refine (GT_b.out _ hb0_264).mono ?_
  rintro e w28 ⟨tb, rfl, hnew, hstep⟩
  have hb0_277 := Below.step hb0_264 hb0_264.size hstep
  clear hb0_264
  have hbA_278 := Below.step hbA_265 hbA_265.size hstep
  clear hbA_265
  have ho_279 := ho_266.same hstep.size (fun i _ h2 => hstep.block i (Nat.lt_of_lt_of_le h2 ho_266.hi))
  clear ho_266
  have ho_280 := ho_267.same hstep.size (fun i _ h2 => hstep.block i (Nat.lt_of_lt_of_le h2 ho_267.hi))
  clear ho_267
  have ho_281 := ho_272.same hstep.size (fun i _ h2 => hstep.block i (Nat.lt_of_lt_of_le h2 ho_272.hi))
  clear ho_272
  have hx_282 := hx_268.below hstep hx_268.lt
  clear hx_268
  have hx_283 := hx_269.below hstep hx_269.lt
  clear hx_269
  have hx_284 := hx_270.below hstep hx_270.lt
  clear hx_270
  have hx_285 := hx_271.below hstep hx_271.lt
  clear hx_271
  have hsz_w28 := hstep.size
  clear hstep
  have ho_286 := hnew
  clear hnew
  obtain ⟨tba, tbn, tbcap, rfl⟩ := ho_286.shape
  obtain ⟨bc_287a, bc_287b, bc_287c⟩ := hx_282.cells
  have bc_287h := hx_282.heap
  have bc_287l := hx_282.lt
  obtain ⟨bc_288a, bc_288b, bc_288c⟩ := hx_283.cells
  have bc_288h := hx_283.heap
  have bc_288l := hx_283.lt
  obtain ⟨bc_289a, bc_289b, bc_289c⟩ := hx_284.cells
  have bc_289h := hx_284.heap
  have bc_289l := hx_284.lt
  obtain ⟨bc_290a, bc_290b, bc_290c⟩ := hx_285.cells
  have bc_290h := hx_285.heap
  have bc_290l := hx_285.lt
  go_wp2_with fail
  clear bc_287a bc_287b bc_287c bc_287h bc_287l bc_288a bc_288b bc_288c bc_288h bc_288l bc_289a bc_289b bc_289c bc_289h bc_289l bc_290a bc_290b bc_290c bc_290h bc_290l
  refine (GI.out _ _ _ _ (HC_c.out _ _ _ _ ho_280) (HC_a.out _ _ _ _ ho_281) (HC_b.out _ _ _ _ ho_286)).mono ?_
  rintro e w29 ⟨h0, rfl, hn0, hstep⟩
  have hb0_291 := Below.step hb0_277 hb0_277.size hstep
  clear hb0_277
  have hbA_292 := Below.step hbA_278 hbA_278.size hstep
  clear hbA_278
  have ho_293 := ho_279.same hstep.size (fun i _ h2 => hstep.block i (Nat.lt_of_lt_of_le h2 ho_279.hi))
  clear ho_279
  have ho_294 := ho_280.same hstep.size (fun i _ h2 => hstep.block i (Nat.lt_of_lt_of_le h2 ho_280.hi))
  clear ho_280
  have ho_295 := ho_281.same hstep.size (fun i _ h2 => hstep.block i (Nat.lt_of_lt_of_le h2 ho_281.hi))
  clear ho_281
  have ho_296 := ho_286.same hstep.size (fun i _ h2 => hstep.block i (Nat.lt_of_lt_of_le h2 ho_286.hi))
  clear ho_286
  have hx_297 := hx_282.below hstep hx_282.lt
  clear hx_282
  have hx_298 := hx_283.below hstep hx_283.lt
  clear hx_283
  have hx_299 := hx_284.below hstep hx_284.lt
  clear hx_284
  have hx_300 := hx_285.below hstep hx_285.lt
  clear hx_285
  have hsz_w29 := hstep.size
  clear hstep
  have ho_301 := hn0
  clear hn0
  obtain ⟨h0ga, h0gn, h0gc, h0oa, h0on, h0oc, rfl⟩ := ho_301.shape
  clear ho_294
  clear ho_295
  clear ho_296
  obtain ⟨bc_302a, bc_302b, bc_302c⟩ := hx_297.cells
  have bc_302h := hx_297.heap
  have bc_302l := hx_297.lt
  obtain ⟨bc_303a, bc_303b, bc_303c⟩ := hx_298.cells
  have bc_303h := hx_298.heap
  have bc_303l := hx_298.lt
  obtain ⟨bc_304a, bc_304b, bc_304c⟩ := hx_299.cells
  have bc_304h := hx_299.heap
  have bc_304l := hx_299.lt
  obtain ⟨bc_305a, bc_305b, bc_305c⟩ := hx_300.cells
  have bc_305h := hx_300.heap
  have bc_305l := hx_300.lt
  go_wp2_with fail
  clear bc_302a bc_302b bc_302c bc_302h bc_302l bc_303a bc_303b bc_303c bc_303h bc_303l bc_304a bc_304b bc_304c bc_304h bc_304l bc_305a bc_305b bc_305c bc_305h bc_305l
  have hb0_306 := hb0_291.alloc hb0_291.size (.cells #[.int .i64 R0.1, .slice h0ga h0gn h0gc, .slice h0oa h0on h0oc] 27)
  clear hb0_291
  have hbA_307 := hbA_292.alloc hbA_292.size (.cells #[.int .i64 R0.1, .slice h0ga h0gn h0gc, .slice h0oa h0on h0oc] 27)
  clear hbA_292
  have hal := (Below.refl w29.heap.size w29).alloc (Nat.le_refl _) (.cells #[.int .i64 R0.1, .slice h0ga h0gn h0gc, .slice h0oa h0on h0oc] 27)
  have ho_308 := ho_293.same hal.size (fun i _ h2 => hal.block i (Nat.lt_of_lt_of_le h2 ho_293.hi))
  clear ho_293
  have ho_309 := ho_301.same hal.size (fun i _ h2 => hal.block i (Nat.lt_of_lt_of_le h2 ho_301.hi))
  clear ho_301
  have hx_310 := hx_297.alloc (.cells #[.int .i64 R0.1, .slice h0ga h0gn h0gc, .slice h0oa h0on h0oc] 27)
  clear hx_297
  have hx_311 := hx_298.alloc (.cells #[.int .i64 R0.1, .slice h0ga h0gn h0gc, .slice h0oa h0on h0oc] 27)
  clear hx_298
  have hx_312 := hx_299.alloc (.cells #[.int .i64 R0.1, .slice h0ga h0gn h0gc, .slice h0oa h0on h0oc] 27)
  clear hx_299
  have hx_313 := hx_300.alloc (.cells #[.int .i64 R0.1, .slice h0ga h0gn h0gc, .slice h0oa h0on h0oc] 27)
  clear hx_300
  have hx_314 := box3_alloc w29 27 (.int .i64 R0.1) (.slice h0ga h0gn h0gc) (.slice h0oa h0on h0oc)
  have hbl_h0 := hx_314.lt
  have hsz_w30 := hal.size
  clear hal
  generalize (w29.alloc (.cells #[.int .i64 R0.1, .slice h0ga h0gn h0gc, .slice h0oa h0on h0oc] 27)) = w30 at *
  refine (GE_R0.out _ _ _ (HN_R0.out _ _ _ _ ho_309) (HU0.out _ hbA_307)).mono ?_
  rintro e w31 ⟨rfl, hstep⟩
  have hb0_315 := Below.step hb0_306 hb0_306.size hstep
  clear hb0_306
  have hbA_316 := Below.step hbA_307 hbA_307.size hstep
  clear hbA_307
  have ho_317 := ho_308.same hstep.size (fun i _ h2 => hstep.block i (Nat.lt_of_lt_of_le h2 ho_308.hi))
  clear ho_308
  have ho_318 := ho_309.same hstep.size (fun i _ h2 => hstep.block i (Nat.lt_of_lt_of_le h2 ho_309.hi))
  clear ho_309
  have hx_319 := hx_310.below hstep hx_310.lt
  clear hx_310
  have hx_320 := hx_311.below hstep hx_311.lt
  clear hx_311
  have hx_321 := hx_312.below hstep hx_312.lt
  clear hx_312
  have hx_322 := hx_313.below hstep hx_313.lt
  clear hx_313
  have hx_323 := hx_314.below hstep hx_314.lt
  clear hx_314
  have hsz_w31 := hstep.size
  clear hstep
  clear ho_318
  obtain ⟨bc_324a, bc_324b, bc_324c⟩ := hx_319.cells
  have bc_324h := hx_319.heap
  have bc_324l := hx_319.lt
  obtain ⟨bc_325a, bc_325b, bc_325c⟩ := hx_320.cells
  have bc_325h := hx_320.heap
  have bc_325l := hx_320.lt
  obtain ⟨bc_326a, bc_326b, bc_326c⟩ := hx_321.cells
  have bc_326h := hx_321.heap
  have bc_326l := hx_321.lt
  obtain ⟨bc_327a, bc_327b, bc_327c⟩ := hx_322.cells
  have bc_327h := hx_322.heap
  have bc_327l := hx_322.lt
  obtain ⟨bc_328a, bc_328b, bc_328c⟩ := hx_323.cells
  have bc_328h := hx_323.heap
  have bc_328l := hx_323.lt
  go_wp2_with fail
  clear bc_324a bc_324b bc_324c bc_324h bc_324l bc_325a bc_325b bc_325c bc_325h bc_325l bc_326a bc_326b bc_326c bc_326h bc_326l bc_327a bc_327b bc_327c bc_327h bc_327l bc_328a bc_328b bc_328c bc_328h bc_328l
  refine (GH_R0.out _ _ _ (1) _ (by omega) (by omega) ho_317).mono ?_
  rintro e w32 ⟨rfl, hstep⟩
  have hb0_329 := Below.step hb0_315 hb0_315.size hstep
  clear hb0_315
  have hbA_330 := Below.step hbA_316 hbA_316.size hstep
  clear hbA_316
  have ho_331 := ho_317.same hstep.size (fun i _ h2 => hstep.block i (Nat.lt_of_lt_of_le h2 ho_317.hi))
  clear ho_317
  have hx_332 := hx_319.below hstep hx_319.lt
  clear hx_319
  have hx_333 := hx_320.below hstep hx_320.lt
  clear hx_320
  have hx_334 := hx_321.below hstep hx_321.lt
  clear hx_321
  have hx_335 := hx_322.below hstep hx_322.lt
  clear hx_322
  have hx_336 := hx_323.below hstep hx_323.lt
  clear hx_323
  have hsz_w32 := hstep.size
  clear hstep
  have HB : Hid (Below w.heap.size w w32) := hb0_329
  clear ho_331
  obtain ⟨bc_337a, bc_337b, bc_337c⟩ := hx_332.cells
  have bc_337h := hx_332.heap
  have bc_337l := hx_332.lt
  obtain ⟨bc_338a, bc_338b, bc_338c⟩ := hx_333.cells
  have bc_338h := hx_333.heap
  have bc_338l := hx_333.lt
  obtain ⟨bc_339a, bc_339b, bc_339c⟩ := hx_334.cells
  have bc_339h := hx_334.heap
  have bc_339l := hx_334.lt
  obtain ⟨bc_340a, bc_340b, bc_340c⟩ := hx_335.cells
  have bc_340h := hx_335.heap
  have bc_340l := hx_335.lt
  obtain ⟨bc_341a, bc_341b, bc_341c⟩ := hx_336.cells
  have bc_341h := hx_336.heap
  have bc_341l := hx_336.lt
  go_wp2_with fail
  go_ret
  exact ⟨rfl, HB.out⟩
set_option maxRecDepth 100000 in
set_option maxHeartbeats 2000000 in
theorem eqGates_big0 (c : Ci) (cv : Value) (a : List Int) (av : Value) (b : List Int) (bv : Value)  (hz : 1048576 < a.length) (w : World) (h_c : AtCirc w cv c) (h_a : IntsAt w av a) (h_b : IntsAt w bv b) :
    Calls Try.prog 13 #[cv, av, bv] w fun e w' => e = .returned (.bool true) ∧ Below w.heap.size w w' := by
  have hm_a := h_a.1
  obtain ⟨aa, acap, rfl⟩ := h_a.shape
  have hm_b := h_b.1
  obtain ⟨ba, bcap, rfl⟩ := h_b.shape
  obtain ⟨cga, cgn, cgc, coa, con, coc, rfl⟩ := h_c.shape
  generalize a.length = an at *
  generalize b.length = bn at *
  clear h_c h_a h_b
  have HB0 : Hid (Below w.heap.size w (w.alloc (.cells #[.int .i64 c.1, .slice cga cgn cgc, .slice coa con coc] 56))) := (Below.refl _ _).alloc (Nat.le_refl _) _
  go_enter Try.func13, Try.ntmps13
  go_wp2_with fail
  go_ret
  exact ⟨rfl, HB0.out⟩
set_option maxRecDepth 100000 in
set_option maxHeartbeats 2000000 in
theorem eqGates_big1 (c : Ci) (cv : Value) (a : List Int) (av : Value) (b : List Int) (bv : Value) (hl_a : a.length ≤ 1048576) (hz : 1048576 < b.length) (w : World) (h_c : AtCirc w cv c) (h_a : IntsAt w av a) (h_b : IntsAt w bv b) :
    Calls Try.prog 13 #[cv, av, bv] w fun e w' => e = .returned (.bool true) ∧ Below w.heap.size w w' := by
  have hm_a := h_a.1
  obtain ⟨aa, acap, rfl⟩ := h_a.shape
  have hm_b := h_b.1
  obtain ⟨ba, bcap, rfl⟩ := h_b.shape
  obtain ⟨cga, cgn, cgc, coa, con, coc, rfl⟩ := h_c.shape
  generalize a.length = an at *
  generalize b.length = bn at *
  clear h_c h_a h_b
  have HB0 : Hid (Below w.heap.size w (w.alloc (.cells #[.int .i64 c.1, .slice cga cgn cgc, .slice coa con coc] 56))) := (Below.refl _ _).alloc (Nat.le_refl _) _
  go_enter Try.func13, Try.ntmps13
  go_wp2_with fail
  go_ret
  exact ⟨rfl, HB0.out⟩
set_option maxRecDepth 100000 in
set_option maxHeartbeats 2000000 in
theorem eqGates_big2 (c : Ci) (cv : Value) (a : List Int) (av : Value) (b : List Int) (bv : Value) (hl_a : a.length ≤ 1048576) (hl_b : b.length ≤ 1048576) (hz : 1048576 < c.2.1.length + c.2.2.length) (w : World) (h_c : AtCirc w cv c) (h_a : IntsAt w av a) (h_b : IntsAt w bv b) :
    Calls Try.prog 13 #[cv, av, bv] w fun e w' => e = .returned (.bool true) ∧ Below w.heap.size w w' := by
  have Z : Hid (∀ w1 : World, Below w.heap.size w w1 → Calls Try.prog 41 #[cv, .int .i64 1048576] w1 fun e w' => e = .returned (.int .i64 (-1)) ∧ Below w1.heap.size w1 w') := fun w1 hb => szCircuit_big cv c hz w1 (h_c.below hb)
  have hm_a := h_a.1
  obtain ⟨aa, acap, rfl⟩ := h_a.shape
  have hm_b := h_b.1
  obtain ⟨ba, bcap, rfl⟩ := h_b.shape
  obtain ⟨cga, cgn, cgc, coa, con, coc, rfl⟩ := h_c.shape
  clear hz
  generalize a.length = an at *
  generalize b.length = bn at *
  clear h_c h_a h_b
  have HB0 : Hid (Below w.heap.size w (w.alloc (.cells #[.int .i64 c.1, .slice cga cgn cgc, .slice coa con coc] 56))) := (Below.refl _ _).alloc (Nat.le_refl _) _
  go_enter Try.func13, Try.ntmps13
  go_wp2_with fail
  refine (Z.out _ HB0.out).mono ?_
  rintro e w1 ⟨rfl, hstep⟩
  have HB1 : Hid (Below w.heap.size w w1) := Below.step HB0.out HB0.out.size hstep
  clear hstep Z
  go_wp2_with fail
  go_ret
  exact ⟨rfl, HB1.out⟩
theorem eqGates_law (c : Ci) (cv : Value) (a : List Int) (av : Value) (b : List Int) (bv : Value)  (R0 : Ci) (R1 : Int) (R2 : Bool) (hR0 : CiOk c → c.2.1.length + c.2.2.length ≤ 1048576 → a.length ≤ 1048576 → b.length ≤ 1048576 → CiOk R0) (w : World) (h_c : AtCirc w cv c) (h_a : IntsAt w av a) (h_b : IntsAt w bv b) (GS0 : CiOk c → c.2.1.length + c.2.2.length ≤ 1048576 → a.length ≤ 1048576 → b.length ≤ 1048576 → ∀ (c1 a1 b1 : Value) (w1 : World), AtC w1 c1 c → AtIS w1 a1 a → AtIS w1 b1 b → Calls Try.prog 31 #[c1, a1, b1] w1 fun e w' => ∃ r0, e = .returned (.tuple #[r0, .int .i64 R1, .bool R2]) ∧ OwnCirc w' w1.heap.size w'.heap.size r0 R0 ∧ Below w1.heap.size w1 w') (GI0 : CiOk c → c.2.1.length + c.2.2.length ≤ 1048576 → a.length ≤ 1048576 → b.length ≤ 1048576 → ∀ (c1 a1 b1 : Value) (w1 : World), AtC w1 c1 c → AtIS w1 a1 a → AtIS w1 b1 b → Calls Try.prog 30 #[c1, a1, b1] w1 fun e w' => ∃ r0, e = .returned (.tuple #[r0, .int .i64 R1, .bool R2]) ∧ OwnCirc w' w1.heap.size w'.heap.size r0 R0 ∧ Below w1.heap.size w1 w') :
    Calls Try.prog 13 #[cv, av, bv] w fun e w' => e = .returned (.bool true) ∧ Below w.heap.size w w' := by
  by_cases hl_a : a.length ≤ 1048576
  case neg => exact eqGates_big0 c cv a av b bv  (by omega) w h_c h_a h_b
  by_cases hl_b : b.length ≤ 1048576
  case neg => exact eqGates_big1 c cv a av b bv hl_a (by omega) w h_c h_a h_b
  by_cases htot : c.2.1.length + c.2.2.length ≤ 1048576
  case neg => exact eqGates_big2 c cv a av b bv hl_a hl_b (by omega) w h_c h_a h_b
  have hok : CiOk c := by
    obtain ⟨h0, g, o, _, h1, h2⟩ := h_c
    exact ⟨h0, h1.1, by omega, by omega⟩
  exact eqGates_small c cv a av b bv R0 R1 R2 (hR0 hok htot hl_a hl_b) hok hl_a hl_b htot w h_c h_a h_b (GS0 hok htot hl_a hl_b) (GI0 hok htot hl_a hl_b)
end Go.Proofs.Ytnagaanagcmdgaa
