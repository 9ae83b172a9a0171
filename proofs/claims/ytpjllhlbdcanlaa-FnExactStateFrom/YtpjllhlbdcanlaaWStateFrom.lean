/-
  The walk of the exact law of StateFrom, out of what the model's and the program's function do.
-/
import Derived.Test.YtpjllhlbdcanlaaOwn5
import Derived.Test.YtpjllhlbdcanlaaShapes
namespace Go.Proofs.Ytpjllhlbdcanlaa
open Go Go.RowKit
open M
set_option linter.unusedVariables false

set_option maxRecDepth 100000 in
set_option maxHeartbeats 8000000 in
theorem stateFrom_small (wide : Int) (hf_wide : Fit wide) (bits : List Bool) (bitsv : Value) (R0 : List Int) (R1 : Bool) (hR0 : WsOk R0) (hok_bits : bits.length ≤ 1048576)  (w : World) (h_bits : BoolsAt w bitsv bits) (GS0 : ∀ (bits1 : Value) (w1 : World), Below w.heap.size w w1 → AtBC w1 bits1 bits → Calls Try.prog 66 #[.int .i64 wide, bits1] w1 fun e w' => ∃ r0, e = .returned (.tuple #[r0, .bool R1]) ∧ OwnUS w' w1.heap.size w'.heap.size r0 R0 ∧ Below w1.heap.size w1 w') (GI0 : ∀ (bits1 : Value) (w1 : World), Below w.heap.size w w1 → AtBC w1 bits1 bits → Calls Try.prog 68 #[.int .i64 wide, bits1] w1 fun e w' => ∃ r0, e = .returned (.tuple #[r0, .bool R1]) ∧ OwnUS w' w1.heap.size w'.heap.size r0 R0 ∧ Below w1.heap.size w1 w') :
    Calls Try.prog 10 #[.int .i64 wide, bitsv] w fun e w' => e = .returned (.bool true) ∧ Below w.heap.size w w' := by
  have GS : Hid (∀ (bits1 : Value) (w1 : World), Below w.heap.size w w1 → AtBC w1 bits1 bits → Calls Try.prog 66 #[.int .i64 wide, bits1] w1 fun e w' => ∃ r0, e = .returned (.tuple #[r0, .bool R1]) ∧ OwnUS w' w1.heap.size w'.heap.size r0 R0 ∧ Below w1.heap.size w1 w') := GS0
  have GI : Hid (∀ (bits1 : Value) (w1 : World), Below w.heap.size w w1 → AtBC w1 bits1 bits → Calls Try.prog 68 #[.int .i64 wide, bits1] w1 fun e w' => ∃ r0, e = .returned (.tuple #[r0, .bool R1]) ∧ OwnUS w' w1.heap.size w'.heap.size r0 R0 ∧ Below w1.heap.size w1 w') := GI0
  clear GS0 GI0
  have GT_bits : Hid (∀ w1 : World, Below w.heap.size w w1 → Calls Try.prog 67 #[bitsv] w1 fun e w' => ∃ v', e = .returned v' ∧ OwnBS w' w1.heap.size w'.heap.size v' bits ∧ Below w1.heap.size w1 w') := fun w1 hb => toBS_any bitsv bits hok_bits w1 (h_bits.below hb)
  have GE_bits : Hid (∀ (u v : Value) (w1 : World), BoolsAt w1 u bits → BoolsAt w1 v bits → Calls Try.prog 70 #[u, v] w1 fun e w' => e = .returned (.bool true) ∧ Below w1.heap.size w1 w') := fun u v w1 h1 h2 => by
    have g := eqBoolS_any u v bits bits w1 h1 h2
    rw [decide_eq_true rfl] at g
    exact g
  have HN_bits : Hid (∀ (w1 : World) (lo hi : Nat) (v1 : Value), OwnBS w1 lo hi v1 bits → BoolsAt w1 v1 bits) := fun w1 lo hi v1 ho => ho.reads hok_bits
  have HC_bits : Hid (∀ (w1 : World) (lo hi : Nat) (v1 : Value), OwnBS w1 lo hi v1 bits → AtBC w1 v1 bits) := fun w1 lo hi v1 ho => ho.handsC hok_bits
  have GE_R0 : Hid (∀ (u v : Value) (w1 : World), WordsAt w1 u R0 → WordsAt w1 v R0 → Calls Try.prog 69 #[u, v] w1 fun e w' => e = .returned (.bool true) ∧ Below w1.heap.size w1 w') := fun u v w1 h1 h2 => by
    have g := eqUS_any u v R0 R0 w1 h1 h2
    rw [decide_eq_true rfl] at g
    exact g
  have HN_R0 : Hid (∀ (w1 : World) (lo hi : Nat) (v1 : Value), OwnUS w1 lo hi v1 R0 → WordsAt w1 v1 R0) := fun w1 lo hi v1 ho => ho.reads hR0
  have GM_bits : Hid (∀ (v : Value) (lo hi : Nat) (k : Int) (w1 : World), 0 ≤ k → k ≤ 100000000000 → OwnBS w1 lo hi v bits → Calls Try.prog 71 #[v, .int .i64 k] w1 fun e w' => e = .returned (.int .i64 (k + (bits.length : Int))) ∧ MarkBS w' lo hi v bits k ∧ Touch lo hi w1 w') := fun v lo hi k w1 h0 h1 ho => markBS_any v bits lo hi k hok_bits h0 h1 w1 ho
  have hle_bits : 0 ≤ (bits.length : Int) ∧ (bits.length : Int) ≤ 4194304 := by omega
  obtain ⟨Lbits, hLbits⟩ : ∃ L : Int, (bits.length : Int) = L := ⟨_, rfl⟩
  rw [hLbits] at GM_bits hle_bits
  clear hLbits
  obtain ⟨hle0_bits, hle1_bits⟩ := hle_bits
  have GM_R0 : Hid (∀ (v : Value) (lo hi : Nat) (k : Int) (w1 : World), 0 ≤ k → k ≤ 100000000000 → OwnUS w1 lo hi v R0 → Calls Try.prog 72 #[v, .int .i64 k] w1 fun e w' => e = .returned (.int .i64 (k + (R0.length : Int))) ∧ MarkUS w' lo hi v R0 k ∧ Touch lo hi w1 w') := fun v lo hi k w1 h0 h1 ho => markUS_any v R0 lo hi k hR0 h0 h1 w1 ho
  have GH_R0 : Hid (∀ (v : Value) (lo hi : Nat) (k : Int) (w1 : World), 0 ≤ k → k ≤ 100000000000 → MarkUS w1 lo hi v R0 k → Calls Try.prog 73 #[v, .int .i64 k] w1 fun e w' => e = .returned (.int .i64 (k + (R0.length : Int))) ∧ Below w1.heap.size w1 w') := fun v lo hi k w1 h0 h1 ho => heldUS_any v R0 lo hi k hR0 h0 h1 w1 ho
  have hle_R0 : 0 ≤ (R0.length : Int) ∧ (R0.length : Int) ≤ 4194304 := by have := hR0.2; omega
  obtain ⟨LR0, hLR0⟩ : ∃ L : Int, (R0.length : Int) = L := ⟨_, rfl⟩
  rw [hLR0] at GM_R0 hle_R0 GH_R0
  clear hLR0
  obtain ⟨hle0_R0, hle1_R0⟩ := hle_R0
  obtain ⟨bitsa, bitscap, rfl⟩ := h_bits.shape
  have hlx_bits : (bits.length : Int) ≤ 1048576 := by omega
  obtain ⟨bitsn, hn_bits⟩ : ∃ m : Nat, bits.length = m := ⟨_, rfl⟩
  rw [hn_bits] at GT_bits hlx_bits
  try rw [hn_bits]
  clear hn_bits
  clear h_bits hok_bits hR0
  go_enter Try.func10, Try.ntmps10
  have hb0_0 := Below.refl w.heap.size w
  go_wp2_with fail
  refine (GT_bits.out _ hb0_0).mono ?_
  rintro e w1 ⟨sbits, rfl, hnew, hstep⟩
  have hb0_1 := Below.step hb0_0 hb0_0.size hstep
  clear hb0_0
  have hsz_w1 := hstep.size
  clear hstep
  have ho_2 := hnew
  clear hnew
  obtain ⟨sbitsa, sbitsn, sbitscap, rfl⟩ := ho_2.shape
  go_wp2_with fail
  refine (GS.out _ _ hb0_1 (HC_bits.out _ _ _ _ ho_2)).mono ?_
  rintro e w2 ⟨u0, rfl, hu0, hstep⟩
  have hb0_3 := Below.step hb0_1 hb0_1.size hstep
  clear hb0_1
  have ho_4 := ho_2.same hstep.size (fun i _ h2 => hstep.block i (Nat.lt_of_lt_of_le h2 ho_2.hi))
  clear ho_2
  have hsz_w2 := hstep.size
  clear hstep
  clear GS
  clear ho_4
  obtain ⟨u0a, u0n, u0cap, rfl⟩ := hu0.shape
  have HU0 : Hid (∀ w_ : World, Below w2.heap.size w2 w_ → WordsAt w_ (.slice u0a u0n u0cap) R0) := fun w_ hb => (HN_R0.out _ _ _ _ hu0).below hb
  clear hu0
  have hbA_5 := Below.refl w2.heap.size w2
  go_wp2_with fail
  refine (GT_bits.out _ hb0_3).mono ?_
  rintro e w3 ⟨xbits, rfl, hnew, hstep⟩
  have hb0_6 := Below.step hb0_3 hb0_3.size hstep
  clear hb0_3
  have hbA_7 := Below.step hbA_5 hbA_5.size hstep
  clear hbA_5
  have hsz_w3 := hstep.size
  clear hstep
  have ho_8 := hnew
  clear hnew
  obtain ⟨xbitsa, xbitsn, xbitscap, rfl⟩ := ho_8.shape
  go_wp2_with fail
  refine (GI.out _ _ hb0_6 (HC_bits.out _ _ _ _ ho_8)).mono ?_
  rintro e w4 ⟨y0, rfl, hn0, hstep⟩
  have hb0_9 := Below.step hb0_6 hb0_6.size hstep
  clear hb0_6
  have hbA_10 := Below.step hbA_7 hbA_7.size hstep
  clear hbA_7
  have ho_11 := ho_8.same hstep.size (fun i _ h2 => hstep.block i (Nat.lt_of_lt_of_le h2 ho_8.hi))
  clear ho_8
  have hsz_w4 := hstep.size
  clear hstep
  have ho_12 := hn0
  clear hn0
  obtain ⟨y0a, y0n, y0cap, rfl⟩ := ho_12.shape
  go_wp2_with fail
  refine (GE_R0.out _ _ _ (HN_R0.out _ _ _ _ ho_12) (HU0.out _ hbA_10)).mono ?_
  rintro e w5 ⟨rfl, hstep⟩
  have hb0_13 := Below.step hb0_9 hb0_9.size hstep
  clear hb0_9
  have hbA_14 := Below.step hbA_10 hbA_10.size hstep
  clear hbA_10
  have ho_15 := ho_11.same hstep.size (fun i _ h2 => hstep.block i (Nat.lt_of_lt_of_le h2 ho_11.hi))
  clear ho_11
  have ho_16 := ho_12.same hstep.size (fun i _ h2 => hstep.block i (Nat.lt_of_lt_of_le h2 ho_12.hi))
  clear ho_12
  have hsz_w5 := hstep.size
  clear hstep
  go_wp2_with fail
  refine (GT_bits.out _ hb0_13).mono ?_
  rintro e w6 ⟨c_, rfl, hnew, hstep⟩
  have hb0_17 := Below.step hb0_13 hb0_13.size hstep
  clear hb0_13
  have hbA_18 := Below.step hbA_14 hbA_14.size hstep
  clear hbA_14
  have ho_19 := ho_15.same hstep.size (fun i _ h2 => hstep.block i (Nat.lt_of_lt_of_le h2 ho_15.hi))
  clear ho_15
  have ho_20 := ho_16.same hstep.size (fun i _ h2 => hstep.block i (Nat.lt_of_lt_of_le h2 ho_16.hi))
  clear ho_16
  have hsz_w6 := hstep.size
  clear hstep
  have hcr := HN_bits.out _ _ _ _ hnew
  clear hnew
  obtain ⟨za, zcap, rfl⟩ := hcr.shape
  go_wp2_with fail
  refine (GE_bits.out _ _ _ (HN_bits.out _ _ _ _ ho_19) hcr).mono ?_
  clear hcr
  rintro e w7 ⟨rfl, hstep⟩
  have hb0_21 := Below.step hb0_17 hb0_17.size hstep
  clear hb0_17
  have hbA_22 := Below.step hbA_18 hbA_18.size hstep
  clear hbA_18
  have ho_23 := ho_19.same hstep.size (fun i _ h2 => hstep.block i (Nat.lt_of_lt_of_le h2 ho_19.hi))
  clear ho_19
  have ho_24 := ho_20.same hstep.size (fun i _ h2 => hstep.block i (Nat.lt_of_lt_of_le h2 ho_20.hi))
  clear ho_20
  have hsz_w7 := hstep.size
  clear hstep
  go_wp2_with fail
  refine (GM_bits.out _ _ _ (1) _ (by omega) (by omega) ho_23).mono ?_
  rintro e w8 ⟨rfl, hmk, htc⟩
  have hb0_25 := Touch.below hb0_21 (by omega) hb0_21.size htc
  clear hb0_21
  have hbA_26 := Touch.below hbA_22 (by omega) hbA_22.size htc
  clear hbA_22
  have ho_27 := ho_24.same htc.size (fun i h1 h2 => htc.block i (Nat.lt_of_lt_of_le h2 ho_24.hi) (by omega))
  clear ho_24
  have hsz_w8 := htc.size
  have ho_28 := hmk
  clear hmk htc ho_23
  clear ho_28
  go_wp2_with fail
  refine (GE_R0.out _ _ _ (HN_R0.out _ _ _ _ ho_27) (HU0.out _ hbA_26)).mono ?_
  rintro e w9 ⟨rfl, hstep⟩
  have hb0_29 := Below.step hb0_25 hb0_25.size hstep
  clear hb0_25
  have hbA_30 := Below.step hbA_26 hbA_26.size hstep
  clear hbA_26
  have ho_31 := ho_27.same hstep.size (fun i _ h2 => hstep.block i (Nat.lt_of_lt_of_le h2 ho_27.hi))
  clear ho_27
  have hsz_w9 := hstep.size
  clear hstep
  go_wp2_with fail
  refine (GM_R0.out _ _ _ (1) _ (by omega) (by omega) ho_31).mono ?_
  rintro e w10 ⟨rfl, hmk, htc⟩
  have hb0_32 := Touch.below hb0_29 (by omega) hb0_29.size htc
  clear hb0_29
  have hbA_33 := Touch.below hbA_30 (by omega) hbA_30.size htc
  clear hbA_30
  have hsz_w10 := htc.size
  have ho_34 := hmk
  clear hmk htc ho_31
  go_wp2_with fail
  refine (GH_R0.out _ _ _ (1) _ (by omega) (by omega) ho_34).mono ?_
  rintro e w11 ⟨rfl, hstep⟩
  have hb0_35 := Below.step hb0_32 hb0_32.size hstep
  clear hb0_32
  have hbA_36 := Below.step hbA_33 hbA_33.size hstep
  clear hbA_33
  have ho_37 := ho_34.same hstep.size (fun i _ h2 => hstep.block i (Nat.lt_of_lt_of_le h2 ho_34.hi))
  clear ho_34
  have hsz_w11 := hstep.size
  clear hstep
  go_wp2_with fail
  refine (GT_bits.out _ hb0_35).mono ?_
  rintro e w12 ⟨tbits, rfl, hnew, hstep⟩
  have hb0_38 := Below.step hb0_35 hb0_35.size hstep
  clear hb0_35
  have hbA_39 := Below.step hbA_36 hbA_36.size hstep
  clear hbA_36
  have ho_40 := ho_37.same hstep.size (fun i _ h2 => hstep.block i (Nat.lt_of_lt_of_le h2 ho_37.hi))
  clear ho_37
  have hsz_w12 := hstep.size
  clear hstep
  have ho_41 := hnew
  clear hnew
  obtain ⟨tbitsa, tbitsn, tbitscap, rfl⟩ := ho_41.shape
  go_wp2_with fail
  refine (GI.out _ _ hb0_38 (HC_bits.out _ _ _ _ ho_41)).mono ?_
  rintro e w13 ⟨h0, rfl, hn0, hstep⟩
  have hb0_42 := Below.step hb0_38 hb0_38.size hstep
  clear hb0_38
  have hbA_43 := Below.step hbA_39 hbA_39.size hstep
  clear hbA_39
  have ho_44 := ho_40.same hstep.size (fun i _ h2 => hstep.block i (Nat.lt_of_lt_of_le h2 ho_40.hi))
  clear ho_40
  have ho_45 := ho_41.same hstep.size (fun i _ h2 => hstep.block i (Nat.lt_of_lt_of_le h2 ho_41.hi))
  clear ho_41
  have hsz_w13 := hstep.size
  clear hstep
  have ho_46 := hn0
  clear hn0
  obtain ⟨h0a, h0n, h0cap, rfl⟩ := ho_46.shape
  clear ho_45
  go_wp2_with fail
  refine (GE_R0.out _ _ _ (HN_R0.out _ _ _ _ ho_46) (HU0.out _ hbA_43)).mono ?_
  rintro e w14 ⟨rfl, hstep⟩
  have hb0_47 := Below.step hb0_42 hb0_42.size hstep
  clear hb0_42
  have hbA_48 := Below.step hbA_43 hbA_43.size hstep
  clear hbA_43
  have ho_49 := ho_44.same hstep.size (fun i _ h2 => hstep.block i (Nat.lt_of_lt_of_le h2 ho_44.hi))
  clear ho_44
  have ho_50 := ho_46.same hstep.size (fun i _ h2 => hstep.block i (Nat.lt_of_lt_of_le h2 ho_46.hi))
  clear ho_46
  have hsz_w14 := hstep.size
  clear hstep
  clear ho_50
  go_wp2_with fail
  refine (GH_R0.out _ _ _ (1) _ (by omega) (by omega) ho_49).mono ?_
  rintro e w15 ⟨rfl, hstep⟩
  have hb0_51 := Below.step hb0_47 hb0_47.size hstep
  clear hb0_47
  have hbA_52 := Below.step hbA_48 hbA_48.size hstep
  clear hbA_48
  have ho_53 := ho_49.same hstep.size (fun i _ h2 => hstep.block i (Nat.lt_of_lt_of_le h2 ho_49.hi))
  clear ho_49
  have hsz_w15 := hstep.size
  clear hstep
  have HB : Hid (Below w.heap.size w w15) := hb0_51
  clear ho_53
  go_wp2_with fail
  go_ret
  exact ⟨rfl, HB.out⟩
set_option maxRecDepth 100000 in
set_option maxHeartbeats 2000000 in
theorem stateFrom_big0 (wide : Int) (bits : List Bool) (bitsv : Value)  (hz : 1048576 < bits.length) (w : World) (h_bits : BoolsAt w bitsv bits) :
    Calls Try.prog 10 #[.int .i64 wide, bitsv] w fun e w' => e = .returned (.bool true) ∧ Below w.heap.size w w' := by
  have hm_bits := h_bits.1
  obtain ⟨bitsa, bitscap, rfl⟩ := h_bits.shape
  generalize bits.length = bitsn at *
  clear h_bits
  have HB0 : Hid (Below w.heap.size w w) := Below.refl _ _
  go_enter Try.func10, Try.ntmps10
  go_wp2_with fail
  go_ret
  exact ⟨rfl, HB0.out⟩
theorem stateFrom_law (wide : Int) (bits : List Bool) (bitsv : Value) (hf_wide : Fit wide) (R0 : List Int) (R1 : Bool) (hR0 : bits.length ≤ 1048576 → WsOk R0) (w : World) (h_bits : BoolsAt w bitsv bits) (GS0 : bits.length ≤ 1048576 → ∀ (bits1 : Value) (w1 : World), Below w.heap.size w w1 → AtBC w1 bits1 bits → Calls Try.prog 66 #[.int .i64 wide, bits1] w1 fun e w' => ∃ r0, e = .returned (.tuple #[r0, .bool R1]) ∧ OwnUS w' w1.heap.size w'.heap.size r0 R0 ∧ Below w1.heap.size w1 w') (GI0 : bits.length ≤ 1048576 → ∀ (bits1 : Value) (w1 : World), Below w.heap.size w w1 → AtBC w1 bits1 bits → Calls Try.prog 68 #[.int .i64 wide, bits1] w1 fun e w' => ∃ r0, e = .returned (.tuple #[r0, .bool R1]) ∧ OwnUS w' w1.heap.size w'.heap.size r0 R0 ∧ Below w1.heap.size w1 w') :
    Calls Try.prog 10 #[.int .i64 wide, bitsv] w fun e w' => e = .returned (.bool true) ∧ Below w.heap.size w w' := by
  by_cases hl_bits : bits.length ≤ 1048576
  case neg => exact stateFrom_big0 wide bits bitsv  (by omega) w h_bits
  have hok_bits : bits.length ≤ 1048576 := by omega
  exact stateFrom_small wide hf_wide bits bitsv R0 R1 (hR0 hok_bits) hok_bits w h_bits (GS0 hok_bits) (GI0 hok_bits)
end Go.Proofs.Ytpjllhlbdcanlaa
