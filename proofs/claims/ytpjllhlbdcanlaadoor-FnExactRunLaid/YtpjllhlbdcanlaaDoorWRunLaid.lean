/-
  The walk of the exact law of RunLaid, out of what the model's and the program's function do.
-/
import Derived.Test.YtpjllhlbdcanlaaDoorOwn5
import Derived.Test.YtpjllhlbdcanlaaDoorShapes
namespace Go.Proofs.YtpjllhlbdcanlaaDoor
open Go Go.RowKit
open M
set_option linter.unusedVariables false

set_option maxRecDepth 100000 in
set_option maxHeartbeats 8000000 in
theorem runLaid_small (wide : Int) (hf_wide : Fit wide) (t : List Nd) (tv : Value) (state : List Int) (statev : Value) (R0 : Int) (R1 : Bool) (hok_t : NsOk t) (hok_state : WsOk state)  (w : World) (h_t : NodesAt w tv t) (h_state : WordsAt w statev state) (GS0 : ∀ (t1 state1 : Value) (w1 : World), Below w.heap.size w w1 → AtNS w1 t1 t → AtUS w1 state1 state → Calls Tryd.prog 32 #[.int .i64 wide, t1, state1] w1 fun e w' => e = .returned (.tuple #[.int .u64 R0, .bool R1]) ∧ Below w1.heap.size w1 w') (GI0 : ∀ (t1 state1 : Value) (w1 : World), Below w.heap.size w w1 → AtNS w1 t1 t → AtUS w1 state1 state → Calls Tryd.prog 33 #[.int .i64 wide, t1, state1] w1 fun e w' => e = .returned (.tuple #[.int .u64 R0, .bool R1]) ∧ Below w1.heap.size w1 w') :
    Calls Tryd.prog 6 #[.int .i64 wide, tv, statev] w fun e w' => e = .returned (.bool true) ∧ Below w.heap.size w w' := by
  have GS : Hid (∀ (t1 state1 : Value) (w1 : World), Below w.heap.size w w1 → AtNS w1 t1 t → AtUS w1 state1 state → Calls Tryd.prog 32 #[.int .i64 wide, t1, state1] w1 fun e w' => e = .returned (.tuple #[.int .u64 R0, .bool R1]) ∧ Below w1.heap.size w1 w') := GS0
  have GI : Hid (∀ (t1 state1 : Value) (w1 : World), Below w.heap.size w w1 → AtNS w1 t1 t → AtUS w1 state1 state → Calls Tryd.prog 33 #[.int .i64 wide, t1, state1] w1 fun e w' => e = .returned (.tuple #[.int .u64 R0, .bool R1]) ∧ Below w1.heap.size w1 w') := GI0
  clear GS0 GI0
  have Z : Hid (∀ w1 : World, Below w.heap.size w w1 → Calls Tryd.prog 17 #[tv, .int .i64 1048576] w1 fun e w' => e = .returned (.int .i64 (1048576 - (t.length : Int))) ∧ Below w1.heap.size w1 w') := fun w1 hb => szNS_small tv t hok_t.2 w1 (h_t.below hb)
  obtain ⟨n0, hn0⟩ : ∃ n0 : Int, (1048576 - (t.length : Int)) = n0 := ⟨_, rfl⟩
  have hn1 : 0 ≤ n0 := by have := hok_t.2; omega
  rw [hn0] at Z
  have GT_t : Hid (∀ w1 : World, Below w.heap.size w w1 → Calls Tryd.prog 19 #[tv] w1 fun e w' => ∃ v', e = .returned v' ∧ OwnNS w' w1.heap.size w'.heap.size v' t ∧ Below w1.heap.size w1 w') := fun w1 hb => toNS_any tv t hok_t w1 (h_t.below hb)
  have GE_t : Hid (∀ (u v : Value) (w1 : World), NodesAt w1 u t → NodesAt w1 v t → Calls Tryd.prog 22 #[u, v] w1 fun e w' => e = .returned (.bool true) ∧ Below w1.heap.size w1 w') := fun u v w1 h1 h2 => by
    have g := eqNodeS_any u v t t w1 h1 h2
    rw [decide_eq_true rfl] at g
    exact g
  have HN_t : Hid (∀ (w1 : World) (lo hi : Nat) (v1 : Value), OwnNS w1 lo hi v1 t → NodesAt w1 v1 t) := fun w1 lo hi v1 ho => ho.reads hok_t
  have GT_state : Hid (∀ w1 : World, Below w.heap.size w w1 → Calls Tryd.prog 26 #[statev] w1 fun e w' => ∃ v', e = .returned v' ∧ OwnUS w' w1.heap.size w'.heap.size v' state ∧ Below w1.heap.size w1 w') := fun w1 hb => toUS_any statev state hok_state w1 (h_state.below hb)
  have GE_state : Hid (∀ (u v : Value) (w1 : World), WordsAt w1 u state → WordsAt w1 v state → Calls Tryd.prog 28 #[u, v] w1 fun e w' => e = .returned (.bool true) ∧ Below w1.heap.size w1 w') := fun u v w1 h1 h2 => by
    have g := eqUS_any u v state state w1 h1 h2
    rw [decide_eq_true rfl] at g
    exact g
  have HN_state : Hid (∀ (w1 : World) (lo hi : Nat) (v1 : Value), OwnUS w1 lo hi v1 state → WordsAt w1 v1 state) := fun w1 lo hi v1 ho => ho.reads hok_state
  have HC_t : Hid (∀ (w1 : World) (lo hi : Nat) (v1 : Value), OwnNS w1 lo hi v1 t → AtNS w1 v1 t) := fun w1 lo hi v1 ho => ho.hands hok_t
  have HC_state : Hid (∀ (w1 : World) (lo hi : Nat) (v1 : Value), OwnUS w1 lo hi v1 state → AtUS w1 v1 state) := fun w1 lo hi v1 ho => ho.hands hok_state
  obtain ⟨ta, tcap, rfl⟩ := h_t.shape
  have hlx_t : (t.length : Int) ≤ 1048576 := by have := hok_t.2; omega
  obtain ⟨tn, hn_t⟩ : ∃ m : Nat, t.length = m := ⟨_, rfl⟩
  rw [hn_t] at GT_t hlx_t Z
  try rw [hn_t]
  clear hn_t
  obtain ⟨statea, statecap, rfl⟩ := h_state.shape
  have hlx_state : (state.length : Int) ≤ 1048576 := by have := hok_state.2; omega
  obtain ⟨staten, hn_state⟩ : ∃ m : Nat, state.length = m := ⟨_, rfl⟩
  rw [hn_state] at GT_state hlx_state
  try rw [hn_state]
  clear hn_state
  clear hn0 
  clear h_t h_state hok_t hok_state 
  go_enter Tryd.func6, Tryd.ntmps6
  have hb0_0 := Below.refl w.heap.size w
  go_wp2_with fail
  refine (Z.out _ hb0_0).mono ?_
  rintro e w1 ⟨rfl, hstep⟩
  have hb0_1 := Below.step hb0_0 hb0_0.size hstep
  clear hb0_0
  have hsz_w1 := hstep.size
  clear hstep
  clear Z
  go_wp2_with fail
  refine (GT_t.out _ hb0_1).mono ?_
  rintro e w2 ⟨st, rfl, hnew, hstep⟩
  have hb0_2 := Below.step hb0_1 hb0_1.size hstep
  clear hb0_1
  have hsz_w2 := hstep.size
  clear hstep
  have ho_3 := hnew
  clear hnew
  obtain ⟨sta, stn, stcap, rfl⟩ := ho_3.shape
  go_wp2_with fail
  refine (GT_state.out _ hb0_2).mono ?_
  rintro e w3 ⟨sstate, rfl, hnew, hstep⟩
  have hb0_4 := Below.step hb0_2 hb0_2.size hstep
  clear hb0_2
  have ho_5 := ho_3.same hstep.size (fun i _ h2 => hstep.block i (Nat.lt_of_lt_of_le h2 ho_3.hi))
  clear ho_3
  have hsz_w3 := hstep.size
  clear hstep
  have ho_6 := hnew
  clear hnew
  obtain ⟨sstatea, sstaten, sstatecap, rfl⟩ := ho_6.shape
  go_wp2_with fail
  refine (GS.out _ _ _ hb0_4 (HC_t.out _ _ _ _ ho_5) (HC_state.out _ _ _ _ ho_6)).mono ?_
  rintro e w4 ⟨rfl, hstep⟩
  have hb0_7 := Below.step hb0_4 hb0_4.size hstep
  clear hb0_4
  have ho_8 := ho_5.same hstep.size (fun i _ h2 => hstep.block i (Nat.lt_of_lt_of_le h2 ho_5.hi))
  clear ho_5
  have ho_9 := ho_6.same hstep.size (fun i _ h2 => hstep.block i (Nat.lt_of_lt_of_le h2 ho_6.hi))
  clear ho_6
  have hsz_w4 := hstep.size
  clear hstep
  clear GS
  clear ho_8
  clear ho_9
  go_wp2_with fail
  refine (GT_t.out _ hb0_7).mono ?_
  rintro e w5 ⟨xt, rfl, hnew, hstep⟩
  have hb0_10 := Below.step hb0_7 hb0_7.size hstep
  clear hb0_7
  have hsz_w5 := hstep.size
  clear hstep
  have ho_11 := hnew
  clear hnew
  obtain ⟨xta, xtn, xtcap, rfl⟩ := ho_11.shape
  go_wp2_with fail
  refine (GT_state.out _ hb0_10).mono ?_
  rintro e w6 ⟨xstate, rfl, hnew, hstep⟩
  have hb0_12 := Below.step hb0_10 hb0_10.size hstep
  clear hb0_10
  have ho_13 := ho_11.same hstep.size (fun i _ h2 => hstep.block i (Nat.lt_of_lt_of_le h2 ho_11.hi))
  clear ho_11
  have hsz_w6 := hstep.size
  clear hstep
  have ho_14 := hnew
  clear hnew
  obtain ⟨xstatea, xstaten, xstatecap, rfl⟩ := ho_14.shape
  go_wp2_with fail
  refine (GI.out _ _ _ hb0_12 (HC_t.out _ _ _ _ ho_13) (HC_state.out _ _ _ _ ho_14)).mono ?_
  rintro e w7 ⟨rfl, hstep⟩
  have hb0_15 := Below.step hb0_12 hb0_12.size hstep
  clear hb0_12
  have ho_16 := ho_13.same hstep.size (fun i _ h2 => hstep.block i (Nat.lt_of_lt_of_le h2 ho_13.hi))
  clear ho_13
  have ho_17 := ho_14.same hstep.size (fun i _ h2 => hstep.block i (Nat.lt_of_lt_of_le h2 ho_14.hi))
  clear ho_14
  have hsz_w7 := hstep.size
  clear hstep
  go_wp2_with fail
  refine (GT_t.out _ hb0_15).mono ?_
  rintro e w8 ⟨c_, rfl, hnew, hstep⟩
  have hb0_18 := Below.step hb0_15 hb0_15.size hstep
  clear hb0_15
  have ho_19 := ho_16.same hstep.size (fun i _ h2 => hstep.block i (Nat.lt_of_lt_of_le h2 ho_16.hi))
  clear ho_16
  have ho_20 := ho_17.same hstep.size (fun i _ h2 => hstep.block i (Nat.lt_of_lt_of_le h2 ho_17.hi))
  clear ho_17
  have hsz_w8 := hstep.size
  clear hstep
  have hcr := HN_t.out _ _ _ _ hnew
  clear hnew
  obtain ⟨za, zcap, rfl⟩ := hcr.shape
  go_wp2_with fail
  refine (GE_t.out _ _ _ (HN_t.out _ _ _ _ ho_19) hcr).mono ?_
  clear hcr
  rintro e w9 ⟨rfl, hstep⟩
  have hb0_21 := Below.step hb0_18 hb0_18.size hstep
  clear hb0_18
  have ho_22 := ho_19.same hstep.size (fun i _ h2 => hstep.block i (Nat.lt_of_lt_of_le h2 ho_19.hi))
  clear ho_19
  have ho_23 := ho_20.same hstep.size (fun i _ h2 => hstep.block i (Nat.lt_of_lt_of_le h2 ho_20.hi))
  clear ho_20
  have hsz_w9 := hstep.size
  clear hstep
  go_wp2_with fail
  refine (GT_state.out _ hb0_21).mono ?_
  rintro e w10 ⟨c_, rfl, hnew, hstep⟩
  have hb0_24 := Below.step hb0_21 hb0_21.size hstep
  clear hb0_21
  have ho_25 := ho_22.same hstep.size (fun i _ h2 => hstep.block i (Nat.lt_of_lt_of_le h2 ho_22.hi))
  clear ho_22
  have ho_26 := ho_23.same hstep.size (fun i _ h2 => hstep.block i (Nat.lt_of_lt_of_le h2 ho_23.hi))
  clear ho_23
  have hsz_w10 := hstep.size
  clear hstep
  have hcr := HN_state.out _ _ _ _ hnew
  clear hnew
  obtain ⟨za, zcap, rfl⟩ := hcr.shape
  go_wp2_with fail
  refine (GE_state.out _ _ _ (HN_state.out _ _ _ _ ho_26) hcr).mono ?_
  clear hcr
  rintro e w11 ⟨rfl, hstep⟩
  have hb0_27 := Below.step hb0_24 hb0_24.size hstep
  clear hb0_24
  have ho_28 := ho_25.same hstep.size (fun i _ h2 => hstep.block i (Nat.lt_of_lt_of_le h2 ho_25.hi))
  clear ho_25
  have ho_29 := ho_26.same hstep.size (fun i _ h2 => hstep.block i (Nat.lt_of_lt_of_le h2 ho_26.hi))
  clear ho_26
  have hsz_w11 := hstep.size
  clear hstep
  have HB : Hid (Below w.heap.size w w11) := hb0_27
  clear ho_28
  clear ho_29
  go_wp2_with fail
  go_ret
  exact ⟨rfl, HB.out⟩
set_option maxRecDepth 100000 in
set_option maxHeartbeats 2000000 in
theorem runLaid_big0 (wide : Int) (t : List Nd) (tv : Value) (state : List Int) (statev : Value)  (hz : 1048576 < state.length) (w : World) (h_t : NodesAt w tv t) (h_state : WordsAt w statev state) :
    Calls Tryd.prog 6 #[.int .i64 wide, tv, statev] w fun e w' => e = .returned (.bool true) ∧ Below w.heap.size w w' := by
  have hm_state := h_state.2.1
  obtain ⟨statea, statecap, rfl⟩ := h_state.shape
  obtain ⟨ta, tcap, rfl⟩ := h_t.shape
  generalize state.length = staten at *
  generalize t.length = tn at *
  clear h_t h_state
  have HB0 : Hid (Below w.heap.size w w) := Below.refl _ _
  go_enter Tryd.func6, Tryd.ntmps6
  go_wp2_with fail
  go_ret
  exact ⟨rfl, HB0.out⟩
set_option maxRecDepth 100000 in
set_option maxHeartbeats 2000000 in
theorem runLaid_big1 (wide : Int) (t : List Nd) (tv : Value) (state : List Int) (statev : Value) (hl_state : state.length ≤ 1048576) (hz : 1048576 < t.length) (w : World) (h_t : NodesAt w tv t) (h_state : WordsAt w statev state) :
    Calls Tryd.prog 6 #[.int .i64 wide, tv, statev] w fun e w' => e = .returned (.bool true) ∧ Below w.heap.size w w' := by
  have Z : Hid (∀ w1 : World, Below w.heap.size w w1 → Calls Tryd.prog 17 #[tv, .int .i64 1048576] w1 fun e w' => e = .returned (.int .i64 (-1)) ∧ Below w1.heap.size w1 w') := fun w1 hb => szNS_big tv t hz w1 (h_t.below hb)
  have hm_state := h_state.2.1
  obtain ⟨statea, statecap, rfl⟩ := h_state.shape
  obtain ⟨ta, tcap, rfl⟩ := h_t.shape
  clear hz
  generalize state.length = staten at *
  generalize t.length = tn at *
  clear h_t h_state
  have HB0 : Hid (Below w.heap.size w w) := Below.refl _ _
  go_enter Tryd.func6, Tryd.ntmps6
  go_wp2_with fail
  refine (Z.out _ HB0.out).mono ?_
  rintro e w1 ⟨rfl, hstep⟩
  have HB1 : Hid (Below w.heap.size w w1) := Below.step HB0.out HB0.out.size hstep
  clear hstep Z
  go_wp2_with fail
  go_ret
  exact ⟨rfl, HB1.out⟩
theorem runLaid_law (wide : Int) (t : List Nd) (tv : Value) (state : List Int) (statev : Value) (hf_wide : Fit wide) (R0 : Int) (R1 : Bool)  (w : World) (h_t : NodesAt w tv t) (h_state : WordsAt w statev state) (GS0 : NsOk t → WsOk state → ∀ (t1 state1 : Value) (w1 : World), Below w.heap.size w w1 → AtNS w1 t1 t → AtUS w1 state1 state → Calls Tryd.prog 32 #[.int .i64 wide, t1, state1] w1 fun e w' => e = .returned (.tuple #[.int .u64 R0, .bool R1]) ∧ Below w1.heap.size w1 w') (GI0 : NsOk t → WsOk state → ∀ (t1 state1 : Value) (w1 : World), Below w.heap.size w w1 → AtNS w1 t1 t → AtUS w1 state1 state → Calls Tryd.prog 33 #[.int .i64 wide, t1, state1] w1 fun e w' => e = .returned (.tuple #[.int .u64 R0, .bool R1]) ∧ Below w1.heap.size w1 w') :
    Calls Tryd.prog 6 #[.int .i64 wide, tv, statev] w fun e w' => e = .returned (.bool true) ∧ Below w.heap.size w w' := by
  by_cases hl_state : state.length ≤ 1048576
  case neg => exact runLaid_big0 wide t tv state statev  (by omega) w h_t h_state
  by_cases hs_t : t.length ≤ 1048576
  case neg => exact runLaid_big1 wide t tv state statev hl_state (by omega) w h_t h_state
  have hok_t : NsOk t := ⟨h_t.1, by omega⟩
  have hok_state : WsOk state := ⟨h_state.1, by omega⟩
  exact runLaid_small wide hf_wide t tv state statev R0 R1  hok_t hok_state w h_t h_state (GS0 hok_t hok_state) (GI0 hok_t hok_state)
end Go.Proofs.YtpjllhlbdcanlaaDoor
