/-
  The walk of the exact law of GateCount, out of what the model's and the program's function do.
-/
import Derived.Test.YtpjllhlbdcanlaaDoorOwn5
import Derived.Test.YtpjllhlbdcanlaaDoorShapes
namespace Go.Proofs.YtpjllhlbdcanlaaDoor
open Go Go.RowKit
open M
set_option linter.unusedVariables false

set_option maxRecDepth 100000 in
set_option maxHeartbeats 8000000 in
theorem gateCount_small (wide : Int) (hf_wide : Fit wide) (vars : Int) (hf_vars : Fit vars) (t : List Nd) (tv : Value) (R0 : Int) (R1 : Bool) (hok_t : NsOk t)  (w : World) (h_t : NodesAt w tv t) (GS0 : ∀ (t1 : Value) (w1 : World), Below w.heap.size w w1 → AtNS w1 t1 t → Calls Tryd.prog 34 #[.int .i64 wide, .int .i64 vars, t1] w1 fun e w' => e = .returned (.tuple #[.int .i64 R0, .bool R1]) ∧ Below w1.heap.size w1 w') (GI0 : ∀ (t1 : Value) (w1 : World), Below w.heap.size w w1 → AtNS w1 t1 t → Calls Tryd.prog 35 #[.int .i64 wide, .int .i64 vars, t1] w1 fun e w' => e = .returned (.tuple #[.int .i64 R0, .bool R1]) ∧ Below w1.heap.size w1 w') :
    Calls Tryd.prog 7 #[.int .i64 wide, .int .i64 vars, tv] w fun e w' => e = .returned (.bool true) ∧ Below w.heap.size w w' := by
  have GS : Hid (∀ (t1 : Value) (w1 : World), Below w.heap.size w w1 → AtNS w1 t1 t → Calls Tryd.prog 34 #[.int .i64 wide, .int .i64 vars, t1] w1 fun e w' => e = .returned (.tuple #[.int .i64 R0, .bool R1]) ∧ Below w1.heap.size w1 w') := GS0
  have GI : Hid (∀ (t1 : Value) (w1 : World), Below w.heap.size w w1 → AtNS w1 t1 t → Calls Tryd.prog 35 #[.int .i64 wide, .int .i64 vars, t1] w1 fun e w' => e = .returned (.tuple #[.int .i64 R0, .bool R1]) ∧ Below w1.heap.size w1 w') := GI0
  clear GS0 GI0
  have Z : Hid (∀ w1 : World, Below w.heap.size w w1 → Calls Tryd.prog 17 #[tv, .int .i64 1048576] w1 fun e w' => e = .returned (.int .i64 (1048576 - (t.length : Int))) ∧ Below w1.heap.size w1 w') := fun w1 hb => szNS_small tv t hok_t.2 w1 (h_t.below hb)
  obtain ⟨n0, hn0⟩ : ∃ n0 : Int, (1048576 - (t.length : Int)) = n0 := ⟨_, rfl⟩
  have hn1 : 0 ≤ n0 := by have := hok_t.2; omega
  rw [hn0] at Z
  have GT_t : Hid (∀ w1 : World, Below w.heap.size w w1 → Calls Tryd.prog 19 #[tv] w1 fun e w' => ∃ v', e = .returned v' ∧ OwnNS w' w1.heap.size w'.heap.size v' t ∧ Below w1.heap.size w1 w') := fun w1 hb => toNS_any tv t hok_t w1 (h_t.below hb)
  have GE_t : Hid (∀ (u v : Value) (w1 : World), NodesAt w1 u t → NodesAt w1 v t → Calls Tryd.prog 22 #[u, v] w1 fun e w' => e = .returned (.bool true) ∧ Below w1.heap.size w1 w') := fun u v w1 h1 h2 => by
    have g := eqNodeS_any u v t t w1 h1 h2
    rw [decide_eq_true rfl] at g
    exact g
  have HN_t : Hid (∀ (w1 : World) (lo hi : Nat) (v1 : Value), OwnNS w1 lo hi v1 t → NodesAt w1 v1 t) := fun w1 lo hi v1 ho => ho.reads hok_t
  have HC_t : Hid (∀ (w1 : World) (lo hi : Nat) (v1 : Value), OwnNS w1 lo hi v1 t → AtNS w1 v1 t) := fun w1 lo hi v1 ho => ho.hands hok_t
  obtain ⟨ta, tcap, rfl⟩ := h_t.shape
  have hlx_t : (t.length : Int) ≤ 1048576 := by have := hok_t.2; omega
  obtain ⟨tn, hn_t⟩ : ∃ m : Nat, t.length = m := ⟨_, rfl⟩
  rw [hn_t] at GT_t hlx_t Z
  try rw [hn_t]
  clear hn_t
  clear hn0 
  clear h_t hok_t 
  go_enter Tryd.func7, Tryd.ntmps7
  have hb0_0 := Below.refl w.heap.size w
  go_wp2_with fail
  refine (Z.out _ hb0_0).mono ?_
  rintro e w1 ⟨rfl, hstep⟩
  have hb0_1 := Below.step hb0_0 hb0_0.size hstep
  clear hb0_0
  have hsz_w1 := hstep.size
  clear hstep
  clear Z
  go_wp2_with fail
  refine (GT_t.out _ hb0_1).mono ?_
  rintro e w2 ⟨st, rfl, hnew, hstep⟩
  have hb0_2 := Below.step hb0_1 hb0_1.size hstep
  clear hb0_1
  have hsz_w2 := hstep.size
  clear hstep
  have ho_3 := hnew
  clear hnew
  obtain ⟨sta, stn, stcap, rfl⟩ := ho_3.shape
  go_wp2_with fail
  refine (GS.out _ _ hb0_2 (HC_t.out _ _ _ _ ho_3)).mono ?_
  rintro e w3 ⟨rfl, hstep⟩
  have hb0_4 := Below.step hb0_2 hb0_2.size hstep
  clear hb0_2
  have ho_5 := ho_3.same hstep.size (fun i _ h2 => hstep.block i (Nat.lt_of_lt_of_le h2 ho_3.hi))
  clear ho_3
  have hsz_w3 := hstep.size
  clear hstep
  clear GS
  clear ho_5
  go_wp2_with fail
  refine (GT_t.out _ hb0_4).mono ?_
  rintro e w4 ⟨xt, rfl, hnew, hstep⟩
  have hb0_6 := Below.step hb0_4 hb0_4.size hstep
  clear hb0_4
  have hsz_w4 := hstep.size
  clear hstep
  have ho_7 := hnew
  clear hnew
  obtain ⟨xta, xtn, xtcap, rfl⟩ := ho_7.shape
  go_wp2_with fail
  refine (GI.out _ _ hb0_6 (HC_t.out _ _ _ _ ho_7)).mono ?_
  rintro e w5 ⟨rfl, hstep⟩
  have hb0_8 := Below.step hb0_6 hb0_6.size hstep
  clear hb0_6
  have ho_9 := ho_7.same hstep.size (fun i _ h2 => hstep.block i (Nat.lt_of_lt_of_le h2 ho_7.hi))
  clear ho_7
  have hsz_w5 := hstep.size
  clear hstep
  go_wp2_with fail
  refine (GT_t.out _ hb0_8).mono ?_
  rintro e w6 ⟨c_, rfl, hnew, hstep⟩
  have hb0_10 := Below.step hb0_8 hb0_8.size hstep
  clear hb0_8
  have ho_11 := ho_9.same hstep.size (fun i _ h2 => hstep.block i (Nat.lt_of_lt_of_le h2 ho_9.hi))
  clear ho_9
  have hsz_w6 := hstep.size
  clear hstep
  have hcr := HN_t.out _ _ _ _ hnew
  clear hnew
  obtain ⟨za, zcap, rfl⟩ := hcr.shape
  go_wp2_with fail
  refine (GE_t.out _ _ _ (HN_t.out _ _ _ _ ho_11) hcr).mono ?_
  clear hcr
  rintro e w7 ⟨rfl, hstep⟩
  have hb0_12 := Below.step hb0_10 hb0_10.size hstep
  clear hb0_10
  have ho_13 := ho_11.same hstep.size (fun i _ h2 => hstep.block i (Nat.lt_of_lt_of_le h2 ho_11.hi))
  clear ho_11
  have hsz_w7 := hstep.size
  clear hstep
  have HB : Hid (Below w.heap.size w w7) := hb0_12
  clear ho_13
  go_wp2_with fail
  go_ret
  exact ⟨rfl, HB.out⟩
set_option maxRecDepth 100000 in
set_option maxHeartbeats 2000000 in
theorem gateCount_big0 (wide : Int) (vars : Int) (t : List Nd) (tv : Value)  (hz : 1048576 < t.length) (w : World) (h_t : NodesAt w tv t) :
    Calls Tryd.prog 7 #[.int .i64 wide, .int .i64 vars, tv] w fun e w' => e = .returned (.bool true) ∧ Below w.heap.size w w' := by
  have Z : Hid (∀ w1 : World, Below w.heap.size w w1 → Calls Tryd.prog 17 #[tv, .int .i64 1048576] w1 fun e w' => e = .returned (.int .i64 (-1)) ∧ Below w1.heap.size w1 w') := fun w1 hb => szNS_big tv t hz w1 (h_t.below hb)
  obtain ⟨ta, tcap, rfl⟩ := h_t.shape
  clear hz
  generalize t.length = tn at *
  clear h_t
  have HB0 : Hid (Below w.heap.size w w) := Below.refl _ _
  go_enter Tryd.func7, Tryd.ntmps7
  go_wp2_with fail
  refine (Z.out _ HB0.out).mono ?_
  rintro e w1 ⟨rfl, hstep⟩
  have HB1 : Hid (Below w.heap.size w w1) := Below.step HB0.out HB0.out.size hstep
  clear hstep Z
  go_wp2_with fail
  go_ret
  exact ⟨rfl, HB1.out⟩
theorem gateCount_law (wide : Int) (vars : Int) (t : List Nd) (tv : Value) (hf_wide : Fit wide) (hf_vars : Fit vars) (R0 : Int) (R1 : Bool)  (w : World) (h_t : NodesAt w tv t) (GS0 : NsOk t → ∀ (t1 : Value) (w1 : World), Below w.heap.size w w1 → AtNS w1 t1 t → Calls Tryd.prog 34 #[.int .i64 wide, .int .i64 vars, t1] w1 fun e w' => e = .returned (.tuple #[.int .i64 R0, .bool R1]) ∧ Below w1.heap.size w1 w') (GI0 : NsOk t → ∀ (t1 : Value) (w1 : World), Below w.heap.size w w1 → AtNS w1 t1 t → Calls Tryd.prog 35 #[.int .i64 wide, .int .i64 vars, t1] w1 fun e w' => e = .returned (.tuple #[.int .i64 R0, .bool R1]) ∧ Below w1.heap.size w1 w') :
    Calls Tryd.prog 7 #[.int .i64 wide, .int .i64 vars, tv] w fun e w' => e = .returned (.bool true) ∧ Below w.heap.size w w' := by
  by_cases hs_t : t.length ≤ 1048576
  case neg => exact gateCount_big0 wide vars t tv  (by omega) w h_t
  have hok_t : NsOk t := ⟨h_t.1, by omega⟩
  exact gateCount_small wide hf_wide vars hf_vars t tv R0 R1  hok_t w h_t (GS0 hok_t) (GI0 hok_t)
end Go.Proofs.YtpjllhlbdcanlaaDoor
