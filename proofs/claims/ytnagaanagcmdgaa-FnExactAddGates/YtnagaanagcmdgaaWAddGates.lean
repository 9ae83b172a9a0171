/-
  The walk of the exact law of AddGates, out of what the model's and the program's function do.
-/
import Derived.Test.YtnagaanagcmdgaaShapes
import Derived.Test.YtnagaanagcmdgaaCutT
import Derived.Test.YtnagaanagcmdgaaTwo
namespace Go.Proofs.Ytnagaanagcmdgaa
open Go Go.RowKit
open M
set_option linter.unusedVariables false

set_option maxRecDepth 100000 in
set_option maxHeartbeats 8000000 in
theorem addGates_small (c : Ci) (cv : Value) (a : List Int) (av : Value) (b : List Int) (bv : Value) (carry : Int) (hf_carry : Fit carry) (R0 : Ci) (R1 : List Int) (R2 : Bool) (hR0 : CiOk R0) (hR1 : R1.length ≤ 1048576) (hok_c : CiOk c) (hok_a : a.length ≤ 1048576) (hok_b : b.length ≤ 1048576) (htot : c.2.1.length + c.2.2.length ≤ 1048576) (w : World) (h_c : AtCirc w cv c) (h_a : IntsAt w av a) (h_b : IntsAt w bv b) (GS0 : ∀ (c1 a1 b1 : Value) (w1 : World), AtC w1 c1 c → AtIS w1 a1 a → AtIS w1 b1 b → Calls Try.prog 17 #[c1, a1, b1, .int .i64 carry] w1 fun e w' => ∃ r0, ∃ r1, e = .returned (.tuple #[r0, r1, .bool R2]) ∧ OwnCirc w' w1.heap.size w'.heap.size r0 R0 ∧ OwnIS w' w1.heap.size w'.heap.size r1 R1 ∧ Apart2 r0 r1 ∧ Below w1.heap.size w1 w') (GI0 : ∀ (c1 a1 b1 : Value) (w1 : World), AtC w1 c1 c → AtIS w1 a1 a → AtIS w1 b1 b → Calls Try.prog 16 #[c1, a1, b1, .int .i64 carry] w1 fun e w' => ∃ r0, ∃ r1, e = .returned (.tuple #[r0, r1, .bool R2]) ∧ OwnCirc w' w1.heap.size w'.heap.size r0 R0 ∧ OwnIS w' w1.heap.size w'.heap.size r1 R1 ∧ Apart2 r0 r1 ∧ Below w1.heap.size w1 w') :
    Calls Try.prog 11 #[cv, av, bv, .int .i64 carry] w fun e w' => e = .returned (.bool true) ∧ Below w.heap.size w w' := by
  have GS : Hid (∀ (c1 a1 b1 : Value) (w1 : World), AtC w1 c1 c → AtIS w1 a1 a → AtIS w1 b1 b → Calls Try.prog 17 #[c1, a1, b1, .int .i64 carry] w1 fun e w' => ∃ r0, ∃ r1, e = .returned (.tuple #[r0, r1, .bool R2]) ∧ OwnCirc w' w1.heap.size w'.heap.size r0 R0 ∧ OwnIS w' w1.heap.size w'.heap.size r1 R1 ∧ Apart2 r0 r1 ∧ Below w1.heap.size w1 w') := GS0
  have GI : Hid (∀ (c1 a1 b1 : Value) (w1 : World), AtC w1 c1 c → AtIS w1 a1 a → AtIS w1 b1 b → Calls Try.prog 16 #[c1, a1, b1, .int .i64 carry] w1 fun e w' => ∃ r0, ∃ r1, e = .returned (.tuple #[r0, r1, .bool R2]) ∧ OwnCirc w' w1.heap.size w'.heap.size r0 R0 ∧ OwnIS w' w1.heap.size w'.heap.size r1 R1 ∧ Apart2 r0 r1 ∧ Below w1.heap.size w1 w') := GI0
  clear GS0 GI0
  have Z : Hid (∀ w1 : World, Below w.heap.size w w1 → Calls Try.prog 41 #[cv, .int .i64 1048576] w1 fun e w' => e = .returned (.int .i64 (1048576 - (c.2.1.length : Int) - (c.2.2.length : Int))) ∧ Below w1.heap.size w1 w') := fun w1 hb => szCircuit_small cv c htot w1 (h_c.below hb)
  obtain ⟨n0, hn0⟩ : ∃ n0 : Int, 1048576 - (c.2.1.length : Int) - (c.2.2.length : Int) = n0 := ⟨_, rfl⟩
  have hn1 : 0 ≤ n0 := by omega
  rw [hn0] at Z
  have GT_c : Hid (∀ w1 : World, Below w.heap.size w w1 → Calls Try.prog 42 #[cv] w1 fun e w' => ∃ v', e = .returned v' ∧ OwnCirc w' w1.heap.size w'.heap.size v' c ∧ Below w1.heap.size w1 w') := fun w1 hb => toCircuit_any cv c hok_c w1 (h_c.below hb)
  have GE_c : Hid (∀ (u v : Value) (w1 : World), AtCirc w1 u c → AtCirc w1 v c → Calls Try.prog 43 #[u, v] w1 fun e w' => e = .returned (.bool true) ∧ Below w1.heap.size w1 w') := fun u v w1 h1 h2 => eqCircuit_same u v c w1 h1 h2
  have HN_c : Hid (∀ (w1 : World) (lo hi : Nat) (v1 : Value), OwnCirc w1 lo hi v1 c → AtCirc w1 v1 c) := fun w1 lo hi v1 ho => ho.reads hok_c
  have GT_a : Hid (∀ w1 : World, Below w.heap.size w w1 → Calls Try.prog 53 #[av] w1 fun e w' => ∃ v', e = .returned v' ∧ OwnIS w' w1.heap.size w'.heap.size v' a ∧ Below w1.heap.size w1 w') := fun w1 hb => toIS_any av a hok_a w1 (h_a.below hb)
  have GE_a : Hid (∀ (u v : Value) (w1 : World), IntsAt w1 u a → IntsAt w1 v a → Calls Try.prog 49 #[u, v] w1 fun e w' => e = .returned (.bool true) ∧ Below w1.heap.size w1 w') := fun u v w1 h1 h2 => by
    have g := eqIntS_any u v a a w1 h1 h2
    rw [decide_eq_true rfl] at g
    exact g
  have HN_a : Hid (∀ (w1 : World) (lo hi : Nat) (v1 : Value), OwnIS w1 lo hi v1 a → IntsAt w1 v1 a) := fun w1 lo hi v1 ho => ho.reads hok_a
  have GT_b : Hid (∀ w1 : World, Below w.heap.size w w1 → Calls Try.prog 53 #[bv] w1 fun e w' => ∃ v', e = .returned v' ∧ OwnIS w' w1.heap.size w'.heap.size v' b ∧ Below w1.heap.size w1 w') := fun w1 hb => toIS_any bv b hok_b w1 (h_b.below hb)
  have GE_b : Hid (∀ (u v : Value) (w1 : World), IntsAt w1 u b → IntsAt w1 v b → Calls Try.prog 49 #[u, v] w1 fun e w' => e = .returned (.bool true) ∧ Below w1.heap.size w1 w') := fun u v w1 h1 h2 => by
    have g := eqIntS_any u v b b w1 h1 h2
    rw [decide_eq_true rfl] at g
    exact g
  have HN_b : Hid (∀ (w1 : World) (lo hi : Nat) (v1 : Value), OwnIS w1 lo hi v1 b → IntsAt w1 v1 b) := fun w1 lo hi v1 ho => ho.reads hok_b
  have HC_c : Hid (∀ (w1 : World) (lo hi : Nat) (v1 : Value), OwnCirc w1 lo hi v1 c → AtC w1 v1 c) := fun w1 lo hi v1 ho => ho.hands hok_c
  have HC_a : Hid (∀ (w1 : World) (lo hi : Nat) (v1 : Value), OwnIS w1 lo hi v1 a → AtIS w1 v1 a) := fun w1 lo hi v1 ho => ho.hands hok_a
  have HC_b : Hid (∀ (w1 : World) (lo hi : Nat) (v1 : Value), OwnIS w1 lo hi v1 b → AtIS w1 v1 b) := fun w1 lo hi v1 ho => ho.hands hok_b
  have GE_R0 : Hid (∀ (u v : Value) (w1 : World), AtCirc w1 u R0 → AtCirc w1 v R0 → Calls Try.prog 43 #[u, v] w1 fun e w' => e = .returned (.bool true) ∧ Below w1.heap.size w1 w') := fun u v w1 h1 h2 => eqCircuit_same u v R0 w1 h1 h2
  have HN_R0 : Hid (∀ (w1 : World) (lo hi : Nat) (v1 : Value), OwnCirc w1 lo hi v1 R0 → AtCirc w1 v1 R0) := fun w1 lo hi v1 ho => ho.reads hR0
  have GE_R1 : Hid (∀ (u v : Value) (w1 : World), IntsAt w1 u R1 → IntsAt w1 v R1 → Calls Try.prog 49 #[u, v] w1 fun e w' => e = .returned (.bool true) ∧ Below w1.heap.size w1 w') := fun u v w1 h1 h2 => by
    have g := eqIntS_any u v R1 R1 w1 h1 h2
    rw [decide_eq_true rfl] at g
    exact g
  have HN_R1 : Hid (∀ (w1 : World) (lo hi : Nat) (v1 : Value), OwnIS w1 lo hi v1 R1 → IntsAt w1 v1 R1) := fun w1 lo hi v1 ho => ho.reads hR1
  have GM_c : Hid (∀ (v : Value) (lo hi : Nat) (k : Int) (w1 : World), 0 ≤ k → k ≤ 100000000000 → OwnCirc w1 lo hi v c → Calls Try.prog 46 #[v, .int .i64 k] w1 fun e w' => e = .returned (.int .i64 (k + lenCirc c)) ∧ MarkCirc w' lo hi v c k ∧ Touch lo hi w1 w') := fun v lo hi k w1 h0 h1 ho => markCircuit_any v c lo hi k hok_c.2.2.1 hok_c.2.2.2 h0 h1 w1 ho
  have hle_c : 0 ≤ lenCirc c ∧ lenCirc c ≤ 4194304 := by have := hok_c.2.2.1; have := hok_c.2.2.2; unfold lenCirc; omega
  obtain ⟨Lc, hLc⟩ : ∃ L : Int, lenCirc c = L := ⟨_, rfl⟩
  rw [hLc] at GM_c hle_c
  clear hLc
  obtain ⟨hle0_c, hle1_c⟩ := hle_c
  have GM_a : Hid (∀ (v : Value) (lo hi : Nat) (k : Int) (w1 : World), 0 ≤ k → k ≤ 100000000000 → OwnIS w1 lo hi v a → Calls Try.prog 50 #[v, .int .i64 k] w1 fun e w' => e = .returned (.int .i64 (k + (a.length : Int))) ∧ MarkIS w' lo hi v a k ∧ Touch lo hi w1 w') := fun v lo hi k w1 h0 h1 ho => markIS_any v a lo hi k hok_a h0 h1 w1 ho
  have hle_a : 0 ≤ (a.length : Int) ∧ (a.length : Int) ≤ 4194304 := by omega
  obtain ⟨La, hLa⟩ : ∃ L : Int, (a.length : Int) = L := ⟨_, rfl⟩
  rw [hLa] at GM_a hle_a
  clear hLa
  obtain ⟨hle0_a, hle1_a⟩ := hle_a
  have GM_b : Hid (∀ (v : Value) (lo hi : Nat) (k : Int) (w1 : World), 0 ≤ k → k ≤ 100000000000 → OwnIS w1 lo hi v b → Calls Try.prog 50 #[v, .int .i64 k] w1 fun e w' => e = .returned (.int .i64 (k + (b.length : Int))) ∧ MarkIS w' lo hi v b k ∧ Touch lo hi w1 w') := fun v lo hi k w1 h0 h1 ho => markIS_any v b lo hi k hok_b h0 h1 w1 ho
  have hle_b : 0 ≤ (b.length : Int) ∧ (b.length : Int) ≤ 4194304 := by omega
  obtain ⟨Lb, hLb⟩ : ∃ L : Int, (b.length : Int) = L := ⟨_, rfl⟩
  rw [hLb] at GM_b hle_b
  clear hLb
  obtain ⟨hle0_b, hle1_b⟩ := hle_b
  have GM_R0 : Hid (∀ (v : Value) (lo hi : Nat) (k : Int) (w1 : World), 0 ≤ k → k ≤ 100000000000 → OwnCirc w1 lo hi v R0 → Calls Try.prog 46 #[v, .int .i64 k] w1 fun e w' => e = .returned (.int .i64 (k + lenCirc R0)) ∧ MarkCirc w' lo hi v R0 k ∧ Touch lo hi w1 w') := fun v lo hi k w1 h0 h1 ho => markCircuit_any v R0 lo hi k hR0.2.2.1 hR0.2.2.2 h0 h1 w1 ho
  have GH_R0 : Hid (∀ (v : Value) (lo hi : Nat) (k : Int) (w1 : World), 0 ≤ k → k ≤ 100000000000 → MarkCirc w1 lo hi v R0 k → Calls Try.prog 52 #[v, .int .i64 k] w1 fun e w' => e = .returned (.int .i64 (k + lenCirc R0)) ∧ Below w1.heap.size w1 w') := fun v lo hi k w1 h0 h1 ho => heldCircuit_any v R0 lo hi k hR0.2.2.1 hR0.2.2.2 h0 h1 w1 ho
  have GM2_R0 : Hid (∀ (v v1 : Value) (lo hi : Nat) (k : Int) (w1 : World), 0 ≤ k → k ≤ 100000000000 → OwnCirc w1 lo hi v R0 → OwnIS w1 lo hi v1 R1 → Apart2 v v1 → Calls Try.prog 46 #[v, .int .i64 k] w1 fun e w' => e = .returned (.int .i64 (k + lenCirc R0)) ∧ MarkCirc w' lo hi v R0 k ∧ OwnIS w' lo hi v1 R1 ∧ Touch lo hi w1 w') := fun v v1 lo hi k w1 h0 h1 ho h2 ha => markCircuit_two v v1 R0 R1 lo hi k hR0.2.2.1 hR0.2.2.2 h0 h1 w1 ho h2 ha
  have hle_R0 : 0 ≤ lenCirc R0 ∧ lenCirc R0 ≤ 4194304 := by have := hR0.2.2.1; have := hR0.2.2.2; unfold lenCirc; omega
  obtain ⟨LR0, hLR0⟩ : ∃ L : Int, lenCirc R0 = L := ⟨_, rfl⟩
  rw [hLR0] at GM_R0 hle_R0 GH_R0 GM2_R0
  clear hLR0
  obtain ⟨hle0_R0, hle1_R0⟩ := hle_R0
  have GM_R1 : Hid (∀ (v : Value) (lo hi : Nat) (k : Int) (w1 : World), 0 ≤ k → k ≤ 100000000000 → OwnIS w1 lo hi v R1 → Calls Try.prog 50 #[v, .int .i64 k] w1 fun e w' => e = .returned (.int .i64 (k + (R1.length : Int))) ∧ MarkIS w' lo hi v R1 k ∧ Touch lo hi w1 w') := fun v lo hi k w1 h0 h1 ho => markIS_any v R1 lo hi k hR1 h0 h1 w1 ho
  have GH_R1 : Hid (∀ (v : Value) (lo hi : Nat) (k : Int) (w1 : World), 0 ≤ k → k ≤ 100000000000 → MarkIS w1 lo hi v R1 k → Calls Try.prog 51 #[v, .int .i64 k] w1 fun e w' => e = .returned (.int .i64 (k + (R1.length : Int))) ∧ Below w1.heap.size w1 w') := fun v lo hi k w1 h0 h1 ho => heldIS_any v R1 lo hi k hR1 h0 h1 w1 ho
  have GM2_R1 : Hid (∀ (v v1 : Value) (lo hi : Nat) (k k0 : Int) (w1 : World), 0 ≤ k → k ≤ 100000000000 → MarkCirc w1 lo hi v R0 k0 → OwnIS w1 lo hi v1 R1 → Apart2 v v1 → Calls Try.prog 50 #[v1, .int .i64 k] w1 fun e w' => e = .returned (.int .i64 (k + (R1.length : Int))) ∧ MarkIS w' lo hi v1 R1 k ∧ MarkCirc w' lo hi v R0 k0 ∧ Touch lo hi w1 w') := fun v v1 lo hi k k0 w1 h0 h1 ho h2 ha => markIS_two v v1 R0 R1 lo hi k k0 hR1 h0 h1 w1 ho h2 ha
  have hle_R1 : 0 ≤ (R1.length : Int) ∧ (R1.length : Int) ≤ 4194304 := by omega
  obtain ⟨LR1, hLR1⟩ : ∃ L : Int, (R1.length : Int) = L := ⟨_, rfl⟩
  rw [hLR1] at GM_R1 hle_R1 GH_R1 GM2_R1
  clear hLR1
  obtain ⟨hle0_R1, hle1_R1⟩ := hle_R1
  obtain ⟨cga, cgn, cgc, coa, con, coc, rfl⟩ := h_c.shape
  obtain ⟨aa, acap, rfl⟩ := h_a.shape
  have hlx_a : (a.length : Int) ≤ 1048576 := by omega
  obtain ⟨an, hn_a⟩ : ∃ m : Nat, a.length = m := ⟨_, rfl⟩
  rw [hn_a] at GT_a hlx_a
  try rw [hn_a]
  clear hn_a
  obtain ⟨ba, bcap, rfl⟩ := h_b.shape
  have hlx_b : (b.length : Int) ≤ 1048576 := by omega
  obtain ⟨bn, hn_b⟩ : ∃ m : Nat, b.length = m := ⟨_, rfl⟩
  rw [hn_b] at GT_b hlx_b
  try rw [hn_b]
  clear hn_b
  clear hn0 htot h_c h_a h_b hok_c hok_a hok_b hR0 hR1
  have hci := (0 : Int)
  clear hci
  go_enter Try.func11, Try.ntmps11
  have hb0_0 := Below.refl w.heap.size w
  go_wp2_with fail
  have hb0_1 := hb0_0.alloc hb0_0.size (.cells #[.int .i64 c.1, .slice cga cgn cgc, .slice coa con coc] 56)
  clear hb0_0
  have hal := (Below.refl w.heap.size w).alloc (Nat.le_refl _) (.cells #[.int .i64 c.1, .slice cga cgn cgc, .slice coa con coc] 56)
  have hx_2 := box3_alloc w 56 (.int .i64 c.1) (.slice cga cgn cgc) (.slice coa con coc)
  have hbl_aC := hx_2.lt
  have hsz_w1 := hal.size
  clear hal
  generalize (w.alloc (.cells #[.int .i64 c.1, .slice cga cgn cgc, .slice coa con coc] 56)) = w1 at *
  refine (Z.out _ hb0_1).mono ?_
  rintro e w2 ⟨rfl, hstep⟩
  have hb0_3 := Below.step hb0_1 hb0_1.size hstep
  clear hb0_1
  have hx_4 := hx_2.below hstep hx_2.lt
  clear hx_2
  have hsz_w2 := hstep.size
  clear hstep
  clear Z
  obtain ⟨bc_5a, bc_5b, bc_5c⟩ := hx_4.cells
  have bc_5h := hx_4.heap
  have bc_5l := hx_4.lt
  go_wp2_with fail
  clear bc_5a bc_5b bc_5c bc_5h bc_5l
  refine (GT_c.out _ hb0_3).mono ?_
  rintro e w3 ⟨sc, rfl, hnew, hstep⟩
  have hb0_6 := Below.step hb0_3 hb0_3.size hstep
  clear hb0_3
  have hx_7 := hx_4.below hstep hx_4.lt
  clear hx_4
  have hsz_w3 := hstep.size
  clear hstep
  have ho_8 := hnew
  clear hnew
  obtain ⟨scga, scgn, scgc, scoa, scon, scoc, rfl⟩ := ho_8.shape
  obtain ⟨bc_9a, bc_9b, bc_9c⟩ := hx_7.cells
  have bc_9h := hx_7.heap
  have bc_9l := hx_7.lt
  go_wp2_with fail
  clear bc_9a bc_9b bc_9c bc_9h bc_9l
  refine (GT_a.out _ hb0_6).mono ?_
  rintro e w4 ⟨sa, rfl, hnew, hstep⟩
  have hb0_10 := Below.step hb0_6 hb0_6.size hstep
  clear hb0_6
  have ho_11 := ho_8.same hstep.size (fun i _ h2 => hstep.block i (Nat.lt_of_lt_of_le h2 ho_8.hi))
  clear ho_8
  have hx_12 := hx_7.below hstep hx_7.lt
  clear hx_7
  have hsz_w4 := hstep.size
  clear hstep
  have ho_13 := hnew
  clear hnew
  obtain ⟨saa, san, sacap, rfl⟩ := ho_13.shape
  obtain ⟨bc_14a, bc_14b, bc_14c⟩ := hx_12.cells
  have bc_14h := hx_12.heap
  have bc_14l := hx_12.lt
  go_wp2_with fail
  clear bc_14a bc_14b bc_14c bc_14h bc_14l
  refine (GT_b.out _ hb0_10).mono ?_
  rintro e w5 ⟨sb, rfl, hnew, hstep⟩
  have hb0_15 := Below.step hb0_10 hb0_10.size hstep
  clear hb0_10
  have ho_16 := ho_11.same hstep.size (fun i _ h2 => hstep.block i (Nat.lt_of_lt_of_le h2 ho_11.hi))
  clear ho_11
  have ho_17 := ho_13.same hstep.size (fun i _ h2 => hstep.block i (Nat.lt_of_lt_of_le h2 ho_13.hi))
  clear ho_13
  have hx_18 := hx_12.below hstep hx_12.lt
  clear hx_12
  have hsz_w5 := hstep.size
  clear hstep
  have ho_19 := hnew
  clear hnew
  obtain ⟨sba, sbn, sbcap, rfl⟩ := ho_19.shape
  obtain ⟨bc_20a, bc_20b, bc_20c⟩ := hx_18.cells
  have bc_20h := hx_18.heap
  have bc_20l := hx_18.lt
  go_wp2_with fail
  clear bc_20a bc_20b bc_20c bc_20h bc_20l
  refine (GS.out _ _ _ _ (HC_c.out _ _ _ _ ho_16) (HC_a.out _ _ _ _ ho_17) (HC_b.out _ _ _ _ ho_19)).mono ?_
  rintro e w6 ⟨u0, u1, rfl, hu0, hu1, hapu, hstep⟩
  have hb0_21 := Below.step hb0_15 hb0_15.size hstep
  clear hb0_15
  have ho_22 := ho_16.same hstep.size (fun i _ h2 => hstep.block i (Nat.lt_of_lt_of_le h2 ho_16.hi))
  clear ho_16
  have ho_23 := ho_17.same hstep.size (fun i _ h2 => hstep.block i (Nat.lt_of_lt_of_le h2 ho_17.hi))
  clear ho_17
  have ho_24 := ho_19.same hstep.size (fun i _ h2 => hstep.block i (Nat.lt_of_lt_of_le h2 ho_19.hi))
  clear ho_19
  have hx_25 := hx_18.below hstep hx_18.lt
  clear hx_18
  have hsz_w6 := hstep.size
  clear hstep
  clear GS hapu
  clear ho_22
  clear ho_23
  clear ho_24
  obtain ⟨u0ga, u0gn, u0gc, u0oa, u0on, u0oc, rfl⟩ := hu0.shape
  have HU0 : Hid (∀ w_ : World, Below w6.heap.size w6 w_ → AtCirc w_ (.agg #[.int .i64 R0.1, .slice u0ga u0gn u0gc, .slice u0oa u0on u0oc]) R0) := fun w_ hb => (HN_R0.out _ _ _ _ hu0).below hb
  clear hu0
  obtain ⟨u1a, u1n, u1cap, rfl⟩ := hu1.shape
  have HU1 : Hid (∀ w_ : World, Below w6.heap.size w6 w_ → IntsAt w_ (.slice u1a u1n u1cap) R1) := fun w_ hb => (HN_R1.out _ _ _ _ hu1).below hb
  clear hu1
  have hbA_26 := Below.refl w6.heap.size w6
  obtain ⟨bc_27a, bc_27b, bc_27c⟩ := hx_25.cells
  have bc_27h := hx_25.heap
  have bc_27l := hx_25.lt
  go_wp2_with fail
  clear bc_27a bc_27b bc_27c bc_27h bc_27l
  have hb0_28 := hb0_21.alloc hb0_21.size (.cells #[.int .i64 R0.1, .slice u0ga u0gn u0gc, .slice u0oa u0on u0oc] 27)
  clear hb0_21
  have hbA_29 := hbA_26.alloc hbA_26.size (.cells #[.int .i64 R0.1, .slice u0ga u0gn u0gc, .slice u0oa u0on u0oc] 27)
  clear hbA_26
  have hal := (Below.refl w6.heap.size w6).alloc (Nat.le_refl _) (.cells #[.int .i64 R0.1, .slice u0ga u0gn u0gc, .slice u0oa u0on u0oc] 27)
  have hx_30 := hx_25.alloc (.cells #[.int .i64 R0.1, .slice u0ga u0gn u0gc, .slice u0oa u0on u0oc] 27)
  clear hx_25
  have hx_31 := box3_alloc w6 27 (.int .i64 R0.1) (.slice u0ga u0gn u0gc) (.slice u0oa u0on u0oc)
  have hbl_u0 := hx_31.lt
  have hsz_w7 := hal.size
  clear hal
  generalize (w6.alloc (.cells #[.int .i64 R0.1, .slice u0ga u0gn u0gc, .slice u0oa u0on u0oc] 27)) = w7 at *
  refine (GT_c.out _ hb0_28).mono ?_
  rintro e w8 ⟨xc, rfl, hnew, hstep⟩
  have hb0_32 := Below.step hb0_28 hb0_28.size hstep
  clear hb0_28
  have hbA_33 := Below.step hbA_29 hbA_29.size hstep
  clear hbA_29
  have hx_34 := hx_30.below hstep hx_30.lt
  clear hx_30
  have hx_35 := hx_31.below hstep hx_31.lt
  clear hx_31
  have hsz_w8 := hstep.size
  clear hstep
  have ho_36 := hnew
  clear hnew
  obtain ⟨xcga, xcgn, xcgc, xcoa, xcon, xcoc, rfl⟩ := ho_36.shape
  obtain ⟨bc_37a, bc_37b, bc_37c⟩ := hx_34.cells
  have bc_37h := hx_34.heap
  have bc_37l := hx_34.lt
  obtain ⟨bc_38a, bc_38b, bc_38c⟩ := hx_35.cells
  have bc_38h := hx_35.heap
  have bc_38l := hx_35.lt
  go_wp2_with fail
  clear bc_37a bc_37b bc_37c bc_37h bc_37l bc_38a bc_38b bc_38c bc_38h bc_38l
  have hb0_39 := hb0_32.alloc hb0_32.size (.cells #[.int .i64 c.1, .slice xcga xcgn xcgc, .slice xcoa xcon xcoc] 27)
  clear hb0_32
  have hbA_40 := hbA_33.alloc hbA_33.size (.cells #[.int .i64 c.1, .slice xcga xcgn xcgc, .slice xcoa xcon xcoc] 27)
  clear hbA_33
  have hal := (Below.refl w8.heap.size w8).alloc (Nat.le_refl _) (.cells #[.int .i64 c.1, .slice xcga xcgn xcgc, .slice xcoa xcon xcoc] 27)
  have ho_41 := ho_36.same hal.size (fun i _ h2 => hal.block i (Nat.lt_of_lt_of_le h2 ho_36.hi))
  clear ho_36
  have hx_42 := hx_34.alloc (.cells #[.int .i64 c.1, .slice xcga xcgn xcgc, .slice xcoa xcon xcoc] 27)
  clear hx_34
  have hx_43 := hx_35.alloc (.cells #[.int .i64 c.1, .slice xcga xcgn xcgc, .slice xcoa xcon xcoc] 27)
  clear hx_35
  have hx_44 := box3_alloc w8 27 (.int .i64 c.1) (.slice xcga xcgn xcgc) (.slice xcoa xcon xcoc)
  have hbl_xc := hx_44.lt
  have hsz_w9 := hal.size
  clear hal
  generalize (w8.alloc (.cells #[.int .i64 c.1, .slice xcga xcgn xcgc, .slice xcoa xcon xcoc] 27)) = w9 at *
  refine (GT_a.out _ hb0_39).mono ?_
  rintro e w10 ⟨xa, rfl, hnew, hstep⟩
  have hb0_45 := Below.step hb0_39 hb0_39.size hstep
  clear hb0_39
  have hbA_46 := Below.step hbA_40 hbA_40.size hstep
  clear hbA_40
  have ho_47 := ho_41.same hstep.size (fun i _ h2 => hstep.block i (Nat.lt_of_lt_of_le h2 ho_41.hi))
  clear ho_41
  have hx_48 := hx_42.below hstep hx_42.lt
  clear hx_42
  have hx_49 := hx_43.below hstep hx_43.lt
  clear hx_43
  have hx_50 := hx_44.below hstep hx_44.lt
  clear hx_44
  have hsz_w10 := hstep.size
  clear hstep
  have ho_51 := hnew
  clear hnew
  obtain ⟨xaa, xan, xacap, rfl⟩ := ho_51.shape
  obtain ⟨bc_52a, bc_52b, bc_52c⟩ := hx_48.cells
  have bc_52h := hx_48.heap
  have bc_52l := hx_48.lt
  obtain ⟨bc_53a, bc_53b, bc_53c⟩ := hx_49.cells
  have bc_53h := hx_49.heap
  have bc_53l := hx_49.lt
  obtain ⟨bc_54a, bc_54b, bc_54c⟩ := hx_50.cells
  have bc_54h := hx_50.heap
  have bc_54l := hx_50.lt
  go_wp2_with fail
  clear bc_52a bc_52b bc_52c bc_52h bc_52l bc_53a bc_53b bc_53c bc_53h bc_53l bc_54a bc_54b bc_54c bc_54h bc_54l
  refine (GT_b.out _ hb0_45).mono ?_
  rintro e w11 ⟨xb, rfl, hnew, hstep⟩
  have hb0_55 := Below.step hb0_45 hb0_45.size hstep
  clear hb0_45
  have hbA_56 := Below.step hbA_46 hbA_46.size hstep
  clear hbA_46
  have ho_57 := ho_47.same hstep.size (fun i _ h2 => hstep.block i (Nat.lt_of_lt_of_le h2 ho_47.hi))
  clear ho_47
  have ho_58 := ho_51.same hstep.size (fun i _ h2 => hstep.block i (Nat.lt_of_lt_of_le h2 ho_51.hi))
  clear ho_51
  have hx_59 := hx_48.below hstep hx_48.lt
  clear hx_48
  have hx_60 := hx_49.below hstep hx_49.lt
  clear hx_49
  have hx_61 := hx_50.below hstep hx_50.lt
  clear hx_50
  have hsz_w11 := hstep.size
  clear hstep
  have ho_62 := hnew
  clear hnew
  obtain ⟨xba, xbn, xbcap, rfl⟩ := ho_62.shape
  obtain ⟨bc_63a, bc_63b, bc_63c⟩ := hx_59.cells
  have bc_63h := hx_59.heap
  have bc_63l := hx_59.lt
  obtain ⟨bc_64a, bc_64b, bc_64c⟩ := hx_60.cells
  have bc_64h := hx_60.heap
  have bc_64l := hx_60.lt
  obtain ⟨bc_65a, bc_65b, bc_65c⟩ := hx_61.cells
  have bc_65h := hx_61.heap
  have bc_65l := hx_61.lt
  go_wp2_with fail
  clear bc_63a bc_63b bc_63c bc_63h bc_63l bc_64a bc_64b bc_64c bc_64h bc_64l bc_65a bc_65b bc_65c bc_65h bc_65l
  refine (GI.out _ _ _ _ (HC_c.out _ _ _ _ ho_57) (HC_a.out _ _ _ _ ho_58) (HC_b.out _ _ _ _ ho_62)).mono ?_
  rintro e w12 ⟨y0, y1, rfl, hn0, hn1, hap_, hstep⟩
  have hb0_66 := Below.step hb0_55 hb0_55.size hstep
  clear hb0_55
  have hbA_67 := Below.step hbA_56 hbA_56.size hstep
  clear hbA_56
  have ho_68 := ho_57.same hstep.size (fun i _ h2 => hstep.block i (Nat.lt_of_lt_of_le h2 ho_57.hi))
  clear ho_57
  have ho_69 := ho_58.same hstep.size (fun i _ h2 => hstep.block i (Nat.lt_of_lt_of_le h2 ho_58.hi))
  clear ho_58
  have ho_70 := ho_62.same hstep.size (fun i _ h2 => hstep.block i (Nat.lt_of_lt_of_le h2 ho_62.hi))
  clear ho_62
  have hx_71 := hx_59.below hstep hx_59.lt
  clear hx_59
  have hx_72 := hx_60.below hstep hx_60.lt
  clear hx_60
  have hx_73 := hx_61.below hstep hx_61.lt
  clear hx_61
  have hsz_w12 := hstep.size
  clear hstep
  have HAPy : Hid (Apart2 y0 y1) := hap_
  clear hap_
  have ho_74 := hn0
  clear hn0
  obtain ⟨y0ga, y0gn, y0gc, y0oa, y0on, y0oc, rfl⟩ := ho_74.shape
  have ho_75 := hn1
  clear hn1
  obtain ⟨y1a, y1n, y1cap, rfl⟩ := ho_75.shape
  obtain ⟨bc_76a, bc_76b, bc_76c⟩ := hx_71.cells
  have bc_76h := hx_71.heap
  have bc_76l := hx_71.lt
  obtain ⟨bc_77a, bc_77b, bc_77c⟩ := hx_72.cells
  have bc_77h := hx_72.heap
  have bc_77l := hx_72.lt
  obtain ⟨bc_78a, bc_78b, bc_78c⟩ := hx_73.cells
  have bc_78h := hx_73.heap
  have bc_78l := hx_73.lt
  go_wp2_with fail
  clear bc_76a bc_76b bc_76c bc_76h bc_76l bc_77a bc_77b bc_77c bc_77h bc_77l bc_78a bc_78b bc_78c bc_78h bc_78l
  have hb0_79 := hb0_66.alloc hb0_66.size (.cells #[.int .i64 R0.1, .slice y0ga y0gn y0gc, .slice y0oa y0on y0oc] 27)
  clear hb0_66
  have hbA_80 := hbA_67.alloc hbA_67.size (.cells #[.int .i64 R0.1, .slice y0ga y0gn y0gc, .slice y0oa y0on y0oc] 27)
  clear hbA_67
  have hal := (Below.refl w12.heap.size w12).alloc (Nat.le_refl _) (.cells #[.int .i64 R0.1, .slice y0ga y0gn y0gc, .slice y0oa y0on y0oc] 27)
  have ho_81 := ho_68.same hal.size (fun i _ h2 => hal.block i (Nat.lt_of_lt_of_le h2 ho_68.hi))
  clear ho_68
  have ho_82 := ho_69.same hal.size (fun i _ h2 => hal.block i (Nat.lt_of_lt_of_le h2 ho_69.hi))
  clear ho_69
  have ho_83 := ho_70.same hal.size (fun i _ h2 => hal.block i (Nat.lt_of_lt_of_le h2 ho_70.hi))
  clear ho_70
  have ho_84 := ho_74.same hal.size (fun i _ h2 => hal.block i (Nat.lt_of_lt_of_le h2 ho_74.hi))
  clear ho_74
  have ho_85 := ho_75.same hal.size (fun i _ h2 => hal.block i (Nat.lt_of_lt_of_le h2 ho_75.hi))
  clear ho_75
  have hx_86 := hx_71.alloc (.cells #[.int .i64 R0.1, .slice y0ga y0gn y0gc, .slice y0oa y0on y0oc] 27)
  clear hx_71
  have hx_87 := hx_72.alloc (.cells #[.int .i64 R0.1, .slice y0ga y0gn y0gc, .slice y0oa y0on y0oc] 27)
  clear hx_72
  have hx_88 := hx_73.alloc (.cells #[.int .i64 R0.1, .slice y0ga y0gn y0gc, .slice y0oa y0on y0oc] 27)
  clear hx_73
  have hx_89 := box3_alloc w12 27 (.int .i64 R0.1) (.slice y0ga y0gn y0gc) (.slice y0oa y0on y0oc)
  have hbl_y0 := hx_89.lt
  have hsz_w13 := hal.size
  clear hal
  generalize (w12.alloc (.cells #[.int .i64 R0.1, .slice y0ga y0gn y0gc, .slice y0oa y0on y0oc] 27)) = w13 at *
  refine (GE_R0.out _ _ _ (HN_R0.out _ _ _ _ ho_84) (HU0.out _ hbA_80)).mono ?_
  rintro e w14 ⟨rfl, hstep⟩
  have hb0_90 := Below.step hb0_79 hb0_79.size hstep
  clear hb0_79
  have hbA_91 := Below.step hbA_80 hbA_80.size hstep
  clear hbA_80
  have ho_92 := ho_81.same hstep.size (fun i _ h2 => hstep.block i (Nat.lt_of_lt_of_le h2 ho_81.hi))
  clear ho_81
  have ho_93 := ho_82.same hstep.size (fun i _ h2 => hstep.block i (Nat.lt_of_lt_of_le h2 ho_82.hi))
  clear ho_82
  have ho_94 := ho_83.same hstep.size (fun i _ h2 => hstep.block i (Nat.lt_of_lt_of_le h2 ho_83.hi))
  clear ho_83
  have ho_95 := ho_84.same hstep.size (fun i _ h2 => hstep.block i (Nat.lt_of_lt_of_le h2 ho_84.hi))
  clear ho_84
  have ho_96 := ho_85.same hstep.size (fun i _ h2 => hstep.block i (Nat.lt_of_lt_of_le h2 ho_85.hi))
  clear ho_85
  have hx_97 := hx_86.below hstep hx_86.lt
  clear hx_86
  have hx_98 := hx_87.below hstep hx_87.lt
  clear hx_87
  have hx_99 := hx_88.below hstep hx_88.lt
  clear hx_88
  have hx_100 := hx_89.below hstep hx_89.lt
  clear hx_89
  have hsz_w14 := hstep.size
  clear hstep
  obtain ⟨bc_101a, bc_101b, bc_101c⟩ := hx_97.cells
  have bc_101h := hx_97.heap
  have bc_101l := hx_97.lt
  obtain ⟨bc_102a, bc_102b, bc_102c⟩ := hx_98.cells
  have bc_102h := hx_98.heap
  have bc_102l := hx_98.lt
  obtain ⟨bc_103a, bc_103b, bc_103c⟩ := hx_99.cells
  have bc_103h := hx_99.heap
  have bc_103l := hx_99.lt
  obtain ⟨bc_104a, bc_104b, bc_104c⟩ := hx_100.cells
  have bc_104h := hx_100.heap
  have bc_104l := hx_100.lt
  go_wp2_with fail
  clear bc_101a bc_101b bc_101c bc_101h bc_101l bc_102a bc_102b bc_102c bc_102h bc_102l bc_103a bc_103b bc_103c bc_103h bc_103l bc_104a bc_104b bc_104c bc_104h bc_104l
  refine (GE_R1.out _ _ _ (HN_R1.out _ _ _ _ ho_96) (HU1.out _ hbA_91)).mono ?_
  rintro e w15 ⟨rfl, hstep⟩
  have hb0_105 := Below.step hb0_90 hb0_90.size hstep
  clear hb0_90
  have hbA_106 := Below.step hbA_91 hbA_91.size hstep
  clear hbA_91
  have ho_107 := ho_92.same hstep.size (fun i _ h2 => hstep.block i (Nat.lt_of_lt_of_le h2 ho_92.hi))
  clear ho_92
  have ho_108 := ho_93.same hstep.size (fun i _ h2 => hstep.block i (Nat.lt_of_lt_of_le h2 ho_93.hi))
  clear ho_93
  have ho_109 := ho_94.same hstep.size (fun i _ h2 => hstep.block i (Nat.lt_of_lt_of_le h2 ho_94.hi))
  clear ho_94
  have ho_110 := ho_95.same hstep.size (fun i _ h2 => hstep.block i (Nat.lt_of_lt_of_le h2 ho_95.hi))
  clear ho_95
  have ho_111 := ho_96.same hstep.size (fun i _ h2 => hstep.block i (Nat.lt_of_lt_of_le h2 ho_96.hi))
  clear ho_96
  have hx_112 := hx_97.below hstep hx_97.lt
  clear hx_97
  have hx_113 := hx_98.below hstep hx_98.lt
  clear hx_98
  have hx_114 := hx_99.below hstep hx_99.lt
  clear hx_99
  have hx_115 := hx_100.below hstep hx_100.lt
  clear hx_100
  have hsz_w15 := hstep.size
  clear hstep
  obtain ⟨bc_116a, bc_116b, bc_116c⟩ := hx_112.cells
  have bc_116h := hx_112.heap
  have bc_116l := hx_112.lt
  obtain ⟨bc_117a, bc_117b, bc_117c⟩ := hx_113.cells
  have bc_117h := hx_113.heap
  have bc_117l := hx_113.lt
  obtain ⟨bc_118a, bc_118b, bc_118c⟩ := hx_114.cells
  have bc_118h := hx_114.heap
  have bc_118l := hx_114.lt
  obtain ⟨bc_119a, bc_119b, bc_119c⟩ := hx_115.cells
  have bc_119h := hx_115.heap
  have bc_119l := hx_115.lt
  go_wp2_with fail
  clear bc_116a bc_116b bc_116c bc_116h bc_116l bc_117a bc_117b bc_117c bc_117h bc_117l bc_118a bc_118b bc_118c bc_118h bc_118l bc_119a bc_119b bc_119c bc_119h bc_119l
  have HXA : Hid (∀ w_ : World, Below w15.heap.size w15 w_ → AtCirc w_ (.agg #[.int .i64 c.1, .slice xcga xcgn xcgc, .slice xcoa xcon xcoc]) c) := fun w_ hb => (HN_c.out _ _ _ _ ho_107).below hb
  have HH_aC : Hid (∀ w_ : World, Below w15.heap.size w15 w_ → Box3 w_ (w.heap.size) 56 (.int .i64 c.1) (.slice cga cgn cgc) (.slice coa con coc)) := fun w_ hb => hx_112.below hb hx_112.lt
  have HH_xc : Hid (∀ w_ : World, Below w15.heap.size w15 w_ → Box3 w_ (w8.heap.size) 27 (.int .i64 c.1) (.slice xcga xcgn xcgc) (.slice xcoa xcon xcoc)) := fun w_ hb => hx_114.below hb hx_114.lt
  go_cut [82] from 78 to 82 (fun s wx => s = .bool false ∧ Hid (Below w15.heap.size w15 wx))
  case first =>
    obtain ⟨bc_120a, bc_120b, bc_120c⟩ := hx_112.cells
    have bc_120h := hx_112.heap
    have bc_120l := hx_112.lt
    obtain ⟨bc_121a, bc_121b, bc_121c⟩ := hx_113.cells
    have bc_121h := hx_113.heap
    have bc_121l := hx_113.lt
    obtain ⟨bc_122a, bc_122b, bc_122c⟩ := hx_114.cells
    have bc_122h := hx_114.heap
    have bc_122l := hx_114.lt
    obtain ⟨bc_123a, bc_123b, bc_123c⟩ := hx_115.cells
    have bc_123h := hx_115.heap
    have bc_123l := hx_115.lt
    have HB0 : Hid (Below w.heap.size w w15) := hb0_105
    clear hb0_105 hbA_106 ho_107 ho_108 ho_109 ho_110 ho_111 hx_112 hx_113 hx_114 hx_115
    go_region_with (first | (go_at_call 42; refine (GT_c.out _ (by first | exact HB0.out | exact HB0.out.drew | exact HB0.out.drew.drew | exact HB0.out.drew.drew.drew)).mono ?_; rintro e wn ⟨c_, rfl, hnew, hstep⟩; have HS : Hid (Below w15.heap.size w15 wn) := (by first | exact hstep | exact (Below.refl _ _).drew.trans hstep | exact (Below.refl _ _).drew.drew.trans hstep); have hcr := HN_c.out _ _ _ _ hnew; obtain ⟨zga, zgn, zgc, zoa, zon, zoc, rfl⟩ := hcr.shape; have HC : Hid (AtCirc wn (.agg #[.int .i64 c.1, .slice zga zgn zgc, .slice zoa zon zoc]) c) := hcr; have yx := HH_xc.out _ HS.out; have yxh := yx.heap; obtain ⟨yx0, yx1, yx2⟩ := yx.cells; have yxl := yx.lt; clear hstep hnew hcr yx) | (go_at_call 43; refine (GE_c.out _ _ _ (HXA.out _ (by first | exact HS.out | exact HS.out.drew | exact HS.out.drew.drew | exact HS.out.drew.drew.drew)) (by first | exact HC.out | exact HC.out.below (Below.refl _ _).drew | exact HC.out.below (Below.refl _ _).drew.drew)).mono ?_; rintro e wm ⟨rfl, hstep⟩; have HS2 : Hid (Below w15.heap.size w15 wm) := (by first | exact HS.out.trans (hstep.mono HS.out.size) | exact HS.out.drew.trans (hstep.mono HS.out.size) | exact HS.out.drew.drew.trans (hstep.mono HS.out.size)); clear hstep))
    all_goals
      go_wp2_with fail
      go_meet
      case rel => exact ⟨rfl, by first | exact HS2 | exact HS2.out.drew | exact HS2.out.drew.drew⟩
  obtain ⟨rfl, HCUT⟩ := hcut
  have hstep := HCUT.out
  clear HCUT HXA HH_aC HH_xc
  have hb0_124 := Below.step hb0_105 hb0_105.size hstep
  clear hb0_105
  have hbA_125 := Below.step hbA_106 hbA_106.size hstep
  clear hbA_106
  have ho_126 := ho_107.same hstep.size (fun i _ h2 => hstep.block i (Nat.lt_of_lt_of_le h2 ho_107.hi))
  clear ho_107
  have ho_127 := ho_108.same hstep.size (fun i _ h2 => hstep.block i (Nat.lt_of_lt_of_le h2 ho_108.hi))
  clear ho_108
  have ho_128 := ho_109.same hstep.size (fun i _ h2 => hstep.block i (Nat.lt_of_lt_of_le h2 ho_109.hi))
  clear ho_109
  have ho_129 := ho_110.same hstep.size (fun i _ h2 => hstep.block i (Nat.lt_of_lt_of_le h2 ho_110.hi))
  clear ho_110
  have ho_130 := ho_111.same hstep.size (fun i _ h2 => hstep.block i (Nat.lt_of_lt_of_le h2 ho_111.hi))
  clear ho_111
  have hx_131 := hx_112.below hstep hx_112.lt
  clear hx_112
  have hx_132 := hx_113.below hstep hx_113.lt
  clear hx_113
  have hx_133 := hx_114.below hstep hx_114.lt
  clear hx_114
  have hx_134 := hx_115.below hstep hx_115.lt
  clear hx_115
  have hsz_wc_135 := hstep.size
  clear hstep
  obtain ⟨bc_136a, bc_136b, bc_136c⟩ := hx_131.cells
  have bc_136h := hx_131.heap
  have bc_136l := hx_131.lt
  obtain ⟨bc_137a, bc_137b, bc_137c⟩ := hx_132.cells
  have bc_137h := hx_132.heap
  have bc_137l := hx_132.lt
  obtain ⟨bc_138a, bc_138b, bc_138c⟩ := hx_133.cells
  have bc_138h := hx_133.heap
  have bc_138l := hx_133.lt
  obtain ⟨bc_139a, bc_139b, bc_139c⟩ := hx_134.cells
  have bc_139h := hx_134.heap
  have bc_139l := hx_134.lt
  go_wp2_with fail
  clear bc_136a bc_136b bc_136c bc_136h bc_136l bc_137a bc_137b bc_137c bc_137h bc_137l bc_138a bc_138b bc_138c bc_138h bc_138l bc_139a bc_139b bc_139c bc_139h bc_139l
  refine (GT_a.out _ hb0_124).mono ?_
  rintro e w17 ⟨c_, rfl, hnew, hstep⟩
  have hb0_140 := Below.step hb0_124 hb0_124.size hstep
  clear hb0_124
  have hbA_141 := Below.step hbA_125 hbA_125.size hstep
  clear hbA_125
  have ho_142 := ho_126.same hstep.size (fun i _ h2 => hstep.block i (Nat.lt_of_lt_of_le h2 ho_126.hi))
  clear ho_126
  have ho_143 := ho_127.same hstep.size (fun i _ h2 => hstep.block i (Nat.lt_of_lt_of_le h2 ho_127.hi))
  clear ho_127
  have ho_144 := ho_128.same hstep.size (fun i _ h2 => hstep.block i (Nat.lt_of_lt_of_le h2 ho_128.hi))
  clear ho_128
  have ho_145 := ho_129.same hstep.size (fun i _ h2 => hstep.block i (Nat.lt_of_lt_of_le h2 ho_129.hi))
  clear ho_129
  have ho_146 := ho_130.same hstep.size (fun i _ h2 => hstep.block i (Nat.lt_of_lt_of_le h2 ho_130.hi))
  clear ho_130
  have hx_147 := hx_131.below hstep hx_131.lt
  clear hx_131
  have hx_148 := hx_132.below hstep hx_132.lt
  clear hx_132
  have hx_149 := hx_133.below hstep hx_133.lt
  clear hx_133
  have hx_150 := hx_134.below hstep hx_134.lt
  clear hx_134
  have hsz_w17 := hstep.size
  clear hstep
  have hcr := HN_a.out _ _ _ _ hnew
  clear hnew
  obtain ⟨za, zcap, rfl⟩ := hcr.shape
  obtain ⟨bc_151a, bc_151b, bc_151c⟩ := hx_147.cells
  have bc_151h := hx_147.heap
  have bc_151l := hx_147.lt
  obtain ⟨bc_152a, bc_152b, bc_152c⟩ := hx_148.cells
  have bc_152h := hx_148.heap
  have bc_152l := hx_148.lt
  obtain ⟨bc_153a, bc_153b, bc_153c⟩ := hx_149.cells
  have bc_153h := hx_149.heap
  have bc_153l := hx_149.lt
  obtain ⟨bc_154a, bc_154b, bc_154c⟩ := hx_150.cells
  have bc_154h := hx_150.heap
  have bc_154l := hx_150.lt
  go_wp2_with fail
  clear bc_151a bc_151b bc_151c bc_151h bc_151l bc_152a bc_152b bc_152c bc_152h bc_152l bc_153a bc_153b bc_153c bc_153h bc_153l bc_154a bc_154b bc_154c bc_154h bc_154l
  refine (GE_a.out _ _ _ (HN_a.out _ _ _ _ ho_143) hcr).mono ?_
  clear hcr
  rintro e w18 ⟨rfl, hstep⟩
  have hb0_155 := Below.step hb0_140 hb0_140.size hstep
  clear hb0_140
  have hbA_156 := Below.step hbA_141 hbA_141.size hstep
  clear hbA_141
  have ho_157 := ho_142.same hstep.size (fun i _ h2 => hstep.block i (Nat.lt_of_lt_of_le h2 ho_142.hi))
  clear ho_142
  have ho_158 := ho_143.same hstep.size (fun i _ h2 => hstep.block i (Nat.lt_of_lt_of_le h2 ho_143.hi))
  clear ho_143
  have ho_159 := ho_144.same hstep.size (fun i _ h2 => hstep.block i (Nat.lt_of_lt_of_le h2 ho_144.hi))
  clear ho_144
  have ho_160 := ho_145.same hstep.size (fun i _ h2 => hstep.block i (Nat.lt_of_lt_of_le h2 ho_145.hi))
  clear ho_145
  have ho_161 := ho_146.same hstep.size (fun i _ h2 => hstep.block i (Nat.lt_of_lt_of_le h2 ho_146.hi))
  clear ho_146
  have hx_162 := hx_147.below hstep hx_147.lt
  clear hx_147
  have hx_163 := hx_148.below hstep hx_148.lt
  clear hx_148
  have hx_164 := hx_149.below hstep hx_149.lt
  clear hx_149
  have hx_165 := hx_150.below hstep hx_150.lt
  clear hx_150
  have hsz_w18 := hstep.size
  clear hstep
  obtain ⟨bc_166a, bc_166b, bc_166c⟩ := hx_162.cells
  have bc_166h := hx_162.heap
  have bc_166l := hx_162.lt
  obtain ⟨bc_167a, bc_167b, bc_167c⟩ := hx_163.cells
  have bc_167h := hx_163.heap
  have bc_167l := hx_163.lt
  obtain ⟨bc_168a, bc_168b, bc_168c⟩ := hx_164.cells
  have bc_168h := hx_164.heap
  have bc_168l := hx_164.lt
  obtain ⟨bc_169a, bc_169b, bc_169c⟩ := hx_165.cells
  have bc_169h := hx_165.heap
  have bc_169l := hx_165.lt
  go_wp2_with fail
  clear bc_166a bc_166b bc_166c bc_166h bc_166l bc_167a bc_167b bc_167c bc_167h bc_167l bc_168a bc_168b bc_168c bc_168h bc_168l bc_169a bc_169b bc_169c bc_169h bc_169l
  refine (GT_b.out _ hb0_155).mono ?_
  rintro e w19 ⟨c_, rfl, hnew, hstep⟩
  have hb0_170 := Below.step hb0_155 hb0_155.size hstep
  clear hb0_155
  have hbA_171 := Below.step hbA_156 hbA_156.size hstep
  clear hbA_156
  have ho_172 := ho_157.same hstep.size (fun i _ h2 => hstep.block i (Nat.lt_of_lt_of_le h2 ho_157.hi))
  clear ho_157
  have ho_173 := ho_158.same hstep.size (fun i _ h2 => hstep.block i (Nat.lt_of_lt_of_le h2 ho_158.hi))
  clear ho_158
  have ho_174 := ho_159.same hstep.size (fun i _ h2 => hstep.block i (Nat.lt_of_lt_of_le h2 ho_159.hi))
  clear ho_159
  have ho_175 := ho_160.same hstep.size (fun i _ h2 => hstep.block i (Nat.lt_of_lt_of_le h2 ho_160.hi))
  clear ho_160
  have ho_176 := ho_161.same hstep.size (fun i _ h2 => hstep.block i (Nat.lt_of_lt_of_le h2 ho_161.hi))
  clear ho_161
  have hx_177 := hx_162.below hstep hx_162.lt
  clear hx_162
  have hx_178 := hx_163.below hstep hx_163.lt
  clear hx_163
  have hx_179 := hx_164.below hstep hx_164.lt
  clear hx_164
  have hx_180 := hx_165.below hstep hx_165.lt
  clear hx_165
  have hsz_w19 := hstep.size
  clear hstep
  have hcr := HN_b.out _ _ _ _ hnew
  clear hnew
  obtain ⟨za, zcap, rfl⟩ := hcr.shape
  obtain ⟨bc_181a, bc_181b, bc_181c⟩ := hx_177.cells
  have bc_181h := hx_177.heap
  have bc_181l := hx_177.lt
  obtain ⟨bc_182a, bc_182b, bc_182c⟩ := hx_178.cells
  have bc_182h := hx_178.heap
  have bc_182l := hx_178.lt
  obtain ⟨bc_183a, bc_183b, bc_183c⟩ := hx_179.cells
  have bc_183h := hx_179.heap
  have bc_183l := hx_179.lt
  obtain ⟨bc_184a, bc_184b, bc_184c⟩ := hx_180.cells
  have bc_184h := hx_180.heap
  have bc_184l := hx_180.lt
  go_wp2_with fail
  clear bc_181a bc_181b bc_181c bc_181h bc_181l bc_182a bc_182b bc_182c bc_182h bc_182l bc_183a bc_183b bc_183c bc_183h bc_183l bc_184a bc_184b bc_184c bc_184h bc_184l
  refine (GE_b.out _ _ _ (HN_b.out _ _ _ _ ho_174) hcr).mono ?_
  clear hcr
  rintro e w20 ⟨rfl, hstep⟩
  have hb0_185 := Below.step hb0_170 hb0_170.size hstep
  clear hb0_170
  have hbA_186 := Below.step hbA_171 hbA_171.size hstep
  clear hbA_171
  have ho_187 := ho_172.same hstep.size (fun i _ h2 => hstep.block i (Nat.lt_of_lt_of_le h2 ho_172.hi))
  clear ho_172
  have ho_188 := ho_173.same hstep.size (fun i _ h2 => hstep.block i (Nat.lt_of_lt_of_le h2 ho_173.hi))
  clear ho_173
  have ho_189 := ho_174.same hstep.size (fun i _ h2 => hstep.block i (Nat.lt_of_lt_of_le h2 ho_174.hi))
  clear ho_174
  have ho_190 := ho_175.same hstep.size (fun i _ h2 => hstep.block i (Nat.lt_of_lt_of_le h2 ho_175.hi))
  clear ho_175
  have ho_191 := ho_176.same hstep.size (fun i _ h2 => hstep.block i (Nat.lt_of_lt_of_le h2 ho_176.hi))
  clear ho_176
  have hx_192 := hx_177.below hstep hx_177.lt
  clear hx_177
  have hx_193 := hx_178.below hstep hx_178.lt
  clear hx_178
  have hx_194 := hx_179.below hstep hx_179.lt
  clear hx_179
  have hx_195 := hx_180.below hstep hx_180.lt
  clear hx_180
  have hsz_w20 := hstep.size
  clear hstep
  obtain ⟨bc_196a, bc_196b, bc_196c⟩ := hx_192.cells
  have bc_196h := hx_192.heap
  have bc_196l := hx_192.lt
  obtain ⟨bc_197a, bc_197b, bc_197c⟩ := hx_193.cells
  have bc_197h := hx_193.heap
  have bc_197l := hx_193.lt
  obtain ⟨bc_198a, bc_198b, bc_198c⟩ := hx_194.cells
  have bc_198h := hx_194.heap
  have bc_198l := hx_194.lt
  obtain ⟨bc_199a, bc_199b, bc_199c⟩ := hx_195.cells
  have bc_199h := hx_195.heap
  have bc_199l := hx_195.lt
  go_wp2_with fail
  clear bc_196a bc_196b bc_196c bc_196h bc_196l bc_197a bc_197b bc_197c bc_197h bc_197l bc_198a bc_198b bc_198c bc_198h bc_198l bc_199a bc_199b bc_199c bc_199h bc_199l
  refine (GM_c.out _ _ _ (1) _ (by omega) (by omega) ho_187).mono ?_
  rintro e w21 ⟨rfl, hmk, htc⟩
  have hb0_200 := Touch.below hb0_185 (by omega) hb0_185.size htc
  clear hb0_185
  have hbA_201 := Touch.below hbA_186 (by omega) hbA_186.size htc
  clear hbA_186
  have ho_202 := ho_188.same htc.size (fun i h1 h2 => htc.block i (Nat.lt_of_lt_of_le h2 ho_188.hi) (by omega))
  clear ho_188
  have ho_203 := ho_189.same htc.size (fun i h1 h2 => htc.block i (Nat.lt_of_lt_of_le h2 ho_189.hi) (by omega))
  clear ho_189
  have ho_204 := ho_190.same htc.size (fun i h1 h2 => htc.block i (Nat.lt_of_lt_of_le h2 ho_190.hi) (by omega))
  clear ho_190
  have ho_205 := ho_191.same htc.size (fun i h1 h2 => htc.block i (Nat.lt_of_lt_of_le h2 ho_191.hi) (by omega))
  clear ho_191
  have hx_206 : Box3 w21 (w.heap.size) 56 (.int .i64 c.1) (.slice cga cgn cgc) (.slice coa con coc) := ⟨by rw [htc.block _ hx_192.lt (by omega)]; exact hx_192.heap⟩
  clear hx_192
  have hx_207 : Box3 w21 (w6.heap.size) 27 (.int .i64 R0.1) (.slice u0ga u0gn u0gc) (.slice u0oa u0on u0oc) := ⟨by rw [htc.block _ hx_193.lt (by omega)]; exact hx_193.heap⟩
  clear hx_193
  have hx_208 : Box3 w21 (w8.heap.size) 27 (.int .i64 c.1) (.slice xcga xcgn xcgc) (.slice xcoa xcon xcoc) := ⟨by rw [htc.block _ hx_194.lt (by omega)]; exact hx_194.heap⟩
  clear hx_194
  have hx_209 : Box3 w21 (w12.heap.size) 27 (.int .i64 R0.1) (.slice y0ga y0gn y0gc) (.slice y0oa y0on y0oc) := ⟨by rw [htc.block _ hx_195.lt (by omega)]; exact hx_195.heap⟩
  clear hx_195
  have hsz_w21 := htc.size
  have ho_210 := hmk
  clear hmk htc ho_187
  obtain ⟨bc_211a, bc_211b, bc_211c⟩ := hx_206.cells
  have bc_211h := hx_206.heap
  have bc_211l := hx_206.lt
  obtain ⟨bc_212a, bc_212b, bc_212c⟩ := hx_207.cells
  have bc_212h := hx_207.heap
  have bc_212l := hx_207.lt
  obtain ⟨bc_213a, bc_213b, bc_213c⟩ := hx_208.cells
  have bc_213h := hx_208.heap
  have bc_213l := hx_208.lt
  obtain ⟨bc_214a, bc_214b, bc_214c⟩ := hx_209.cells
  have bc_214h := hx_209.heap
  have bc_214l := hx_209.lt
  go_wp2_with fail
  clear bc_211a bc_211b bc_211c bc_211h bc_211l bc_212a bc_212b bc_212c bc_212h bc_212l bc_213a bc_213b bc_213c bc_213h bc_213l bc_214a bc_214b bc_214c bc_214h bc_214l
  refine (GM_a.out _ _ _ (1 + Lc) _ (by omega) (by omega) ho_202).mono ?_
  rintro e w22 ⟨rfl, hmk, htc⟩
  have hb0_215 := Touch.below hb0_200 (by omega) hb0_200.size htc
  clear hb0_200
  have hbA_216 := Touch.below hbA_201 (by omega) hbA_201.size htc
  clear hbA_201
  have ho_217 := ho_210.same htc.size (fun i h1 h2 => htc.block i (Nat.lt_of_lt_of_le h2 ho_210.hi) (by omega))
  clear ho_210
  have ho_218 := ho_203.same htc.size (fun i h1 h2 => htc.block i (Nat.lt_of_lt_of_le h2 ho_203.hi) (by omega))
  clear ho_203
  have ho_219 := ho_204.same htc.size (fun i h1 h2 => htc.block i (Nat.lt_of_lt_of_le h2 ho_204.hi) (by omega))
  clear ho_204
  have ho_220 := ho_205.same htc.size (fun i h1 h2 => htc.block i (Nat.lt_of_lt_of_le h2 ho_205.hi) (by omega))
  clear ho_205
  have hx_221 : Box3 w22 (w.heap.size) 56 (.int .i64 c.1) (.slice cga cgn cgc) (.slice coa con coc) := ⟨by rw [htc.block _ hx_206.lt (by omega)]; exact hx_206.heap⟩
  clear hx_206
  have hx_222 : Box3 w22 (w6.heap.size) 27 (.int .i64 R0.1) (.slice u0ga u0gn u0gc) (.slice u0oa u0on u0oc) := ⟨by rw [htc.block _ hx_207.lt (by omega)]; exact hx_207.heap⟩
  clear hx_207
  have hx_223 : Box3 w22 (w8.heap.size) 27 (.int .i64 c.1) (.slice xcga xcgn xcgc) (.slice xcoa xcon xcoc) := ⟨by rw [htc.block _ hx_208.lt (by omega)]; exact hx_208.heap⟩
  clear hx_208
  have hx_224 : Box3 w22 (w12.heap.size) 27 (.int .i64 R0.1) (.slice y0ga y0gn y0gc) (.slice y0oa y0on y0oc) := ⟨by rw [htc.block _ hx_209.lt (by omega)]; exact hx_209.heap⟩
  clear hx_209
  have hsz_w22 := htc.size
  have ho_225 := hmk
  clear hmk htc ho_202
  obtain ⟨bc_226a, bc_226b, bc_226c⟩ := hx_221.cells
  have bc_226h := hx_221.heap
  have bc_226l := hx_221.lt
  obtain ⟨bc_227a, bc_227b, bc_227c⟩ := hx_222.cells
  have bc_227h := hx_222.heap
  have bc_227l := hx_222.lt
  obtain ⟨bc_228a, bc_228b, bc_228c⟩ := hx_223.cells
  have bc_228h := hx_223.heap
  have bc_228l := hx_223.lt
  obtain ⟨bc_229a, bc_229b, bc_229c⟩ := hx_224.cells
  have bc_229h := hx_224.heap
  have bc_229l := hx_224.lt
  go_wp2_with fail
  clear bc_226a bc_226b bc_226c bc_226h bc_226l bc_227a bc_227b bc_227c bc_227h bc_227l bc_228a bc_228b bc_228c bc_228h bc_228l bc_229a bc_229b bc_229c bc_229h bc_229l
  refine (GM_b.out _ _ _ (1 + Lc + La) _ (by omega) (by omega) ho_218).mono ?_
  rintro e w23 ⟨rfl, hmk, htc⟩
  have hb0_230 := Touch.below hb0_215 (by omega) hb0_215.size htc
  clear hb0_215
  have hbA_231 := Touch.below hbA_216 (by omega) hbA_216.size htc
  clear hbA_216
  have ho_232 := ho_217.same htc.size (fun i h1 h2 => htc.block i (Nat.lt_of_lt_of_le h2 ho_217.hi) (by omega))
  clear ho_217
  have ho_233 := ho_225.same htc.size (fun i h1 h2 => htc.block i (Nat.lt_of_lt_of_le h2 ho_225.hi) (by omega))
  clear ho_225
  have ho_234 := ho_219.same htc.size (fun i h1 h2 => htc.block i (Nat.lt_of_lt_of_le h2 ho_219.hi) (by omega))
  clear ho_219
  have ho_235 := ho_220.same htc.size (fun i h1 h2 => htc.block i (Nat.lt_of_lt_of_le h2 ho_220.hi) (by omega))
  clear ho_220
  have hx_236 : Box3 w23 (w.heap.size) 56 (.int .i64 c.1) (.slice cga cgn cgc) (.slice coa con coc) := ⟨by rw [htc.block _ hx_221.lt (by omega)]; exact hx_221.heap⟩
  clear hx_221
  have hx_237 : Box3 w23 (w6.heap.size) 27 (.int .i64 R0.1) (.slice u0ga u0gn u0gc) (.slice u0oa u0on u0oc) := ⟨by rw [htc.block _ hx_222.lt (by omega)]; exact hx_222.heap⟩
  clear hx_222
  have hx_238 : Box3 w23 (w8.heap.size) 27 (.int .i64 c.1) (.slice xcga xcgn xcgc) (.slice xcoa xcon xcoc) := ⟨by rw [htc.block _ hx_223.lt (by omega)]; exact hx_223.heap⟩
  clear hx_223
  have hx_239 : Box3 w23 (w12.heap.size) 27 (.int .i64 R0.1) (.slice y0ga y0gn y0gc) (.slice y0oa y0on y0oc) := ⟨by rw [htc.block _ hx_224.lt (by omega)]; exact hx_224.heap⟩
  clear hx_224
  have hsz_w23 := htc.size
  have ho_240 := hmk
  clear hmk htc ho_218
  clear ho_232
  clear ho_233
  clear ho_240
  obtain ⟨bc_241a, bc_241b, bc_241c⟩ := hx_236.cells
  have bc_241h := hx_236.heap
  have bc_241l := hx_236.lt
  obtain ⟨bc_242a, bc_242b, bc_242c⟩ := hx_237.cells
  have bc_242h := hx_237.heap
  have bc_242l := hx_237.lt
  obtain ⟨bc_243a, bc_243b, bc_243c⟩ := hx_238.cells
  have bc_243h := hx_238.heap
  have bc_243l := hx_238.lt
  obtain ⟨bc_244a, bc_244b, bc_244c⟩ := hx_239.cells
  have bc_244h := hx_239.heap
  have bc_244l := hx_239.lt
  go_wp2_with fail
  clear bc_241a bc_241b bc_241c bc_241h bc_241l bc_242a bc_242b bc_242c bc_242h bc_242l bc_243a bc_243b bc_243c bc_243h bc_243l bc_244a bc_244b bc_244c bc_244h bc_244l
  refine (GE_R0.out _ _ _ (HN_R0.out _ _ _ _ ho_234) (HU0.out _ hbA_231)).mono ?_
  rintro e w24 ⟨rfl, hstep⟩
  have hb0_245 := Below.step hb0_230 hb0_230.size hstep
  clear hb0_230
  have hbA_246 := Below.step hbA_231 hbA_231.size hstep
  clear hbA_231
  have ho_247 := ho_234.same hstep.size (fun i _ h2 => hstep.block i (Nat.lt_of_lt_of_le h2 ho_234.hi))
  clear ho_234
  have ho_248 := ho_235.same hstep.size (fun i _ h2 => hstep.block i (Nat.lt_of_lt_of_le h2 ho_235.hi))
  clear ho_235
  have hx_249 := hx_236.below hstep hx_236.lt
  clear hx_236
  have hx_250 := hx_237.below hstep hx_237.lt
  clear hx_237
  have hx_251 := hx_238.below hstep hx_238.lt
  clear hx_238
  have hx_252 := hx_239.below hstep hx_239.lt
  clear hx_239
  have hsz_w24 := hstep.size
  clear hstep
  obtain ⟨bc_253a, bc_253b, bc_253c⟩ := hx_249.cells
  have bc_253h := hx_249.heap
  have bc_253l := hx_249.lt
  obtain ⟨bc_254a, bc_254b, bc_254c⟩ := hx_250.cells
  have bc_254h := hx_250.heap
  have bc_254l := hx_250.lt
  obtain ⟨bc_255a, bc_255b, bc_255c⟩ := hx_251.cells
  have bc_255h := hx_251.heap
  have bc_255l := hx_251.lt
  obtain ⟨bc_256a, bc_256b, bc_256c⟩ := hx_252.cells
  have bc_256h := hx_252.heap
  have bc_256l := hx_252.lt
  go_wp2_with fail
  clear bc_253a bc_253b bc_253c bc_253h bc_253l bc_254a bc_254b bc_254c bc_254h bc_254l bc_255a bc_255b bc_255c bc_255h bc_255l bc_256a bc_256b bc_256c bc_256h bc_256l
  refine (GE_R1.out _ _ _ (HN_R1.out _ _ _ _ ho_248) (HU1.out _ hbA_246)).mono ?_
  rintro e w25 ⟨rfl, hstep⟩
  have hb0_257 := Below.step hb0_245 hb0_245.size hstep
  clear hb0_245
  have hbA_258 := Below.step hbA_246 hbA_246.size hstep
  clear hbA_246
  have ho_259 := ho_247.same hstep.size (fun i _ h2 => hstep.block i (Nat.lt_of_lt_of_le h2 ho_247.hi))
  clear ho_247
  have ho_260 := ho_248.same hstep.size (fun i _ h2 => hstep.block i (Nat.lt_of_lt_of_le h2 ho_248.hi))
  clear ho_248
  have hx_261 := hx_249.below hstep hx_249.lt
  clear hx_249
  have hx_262 := hx_250.below hstep hx_250.lt
  clear hx_250
  have hx_263 := hx_251.below hstep hx_251.lt
  clear hx_251
  have hx_264 := hx_252.below hstep hx_252.lt
  clear hx_252
  have hsz_w25 := hstep.size
  clear hstep
  obtain ⟨bc_265a, bc_265b, bc_265c⟩ := hx_261.cells
  have bc_265h := hx_261.heap
  have bc_265l := hx_261.lt
  obtain ⟨bc_266a, bc_266b, bc_266c⟩ := hx_262.cells
  have bc_266h := hx_262.heap
  have bc_266l := hx_262.lt
  obtain ⟨bc_267a, bc_267b, bc_267c⟩ := hx_263.cells
  have bc_267h := hx_263.heap
  have bc_267l := hx_263.lt
  obtain ⟨bc_268a, bc_268b, bc_268c⟩ := hx_264.cells
  have bc_268h := hx_264.heap
  have bc_268l := hx_264.lt
  go_wp2_with fail
  clear bc_265a bc_265b bc_265c bc_265h bc_265l bc_266a bc_266b bc_266c bc_266h bc_266l bc_267a bc_267b bc_267c bc_267h bc_267l bc_268a bc_268b bc_268c bc_268h bc_268l
  refine (GM2_R0.out _ _ _ _ (1) _ (by omega) (by omega) ho_259 ho_260 HAPy.out).mono ?_
  rintro e w26 ⟨rfl, hmk, hoth, htc⟩
  have hb0_269 := Touch.below hb0_257 (by omega) hb0_257.size htc
  clear hb0_257
  have hbA_270 := Touch.below hbA_258 (by omega) hbA_258.size htc
  clear hbA_258
  have ho_271 := hoth
  clear hoth ho_260
  have hx_272 : Box3 w26 (w.heap.size) 56 (.int .i64 c.1) (.slice cga cgn cgc) (.slice coa con coc) := ⟨by rw [htc.block _ hx_261.lt (by omega)]; exact hx_261.heap⟩
  clear hx_261
  have hx_273 : Box3 w26 (w6.heap.size) 27 (.int .i64 R0.1) (.slice u0ga u0gn u0gc) (.slice u0oa u0on u0oc) := ⟨by rw [htc.block _ hx_262.lt (by omega)]; exact hx_262.heap⟩
  clear hx_262
  have hx_274 : Box3 w26 (w8.heap.size) 27 (.int .i64 c.1) (.slice xcga xcgn xcgc) (.slice xcoa xcon xcoc) := ⟨by rw [htc.block _ hx_263.lt (by omega)]; exact hx_263.heap⟩
  clear hx_263
  have hx_275 : Box3 w26 (w12.heap.size) 27 (.int .i64 R0.1) (.slice y0ga y0gn y0gc) (.slice y0oa y0on y0oc) := ⟨by rw [htc.block _ hx_264.lt (by omega)]; exact hx_264.heap⟩
  clear hx_264
  have hsz_w26 := htc.size
  have ho_276 := hmk
  clear hmk htc ho_259
  obtain ⟨bc_277a, bc_277b, bc_277c⟩ := hx_272.cells
  have bc_277h := hx_272.heap
  have bc_277l := hx_272.lt
  obtain ⟨bc_278a, bc_278b, bc_278c⟩ := hx_273.cells
  have bc_278h := hx_273.heap
  have bc_278l := hx_273.lt
  obtain ⟨bc_279a, bc_279b, bc_279c⟩ := hx_274.cells
  have bc_279h := hx_274.heap
  have bc_279l := hx_274.lt
  obtain ⟨bc_280a, bc_280b, bc_280c⟩ := hx_275.cells
  have bc_280h := hx_275.heap
  have bc_280l := hx_275.lt
  go_wp2_with fail
  clear bc_277a bc_277b bc_277c bc_277h bc_277l bc_278a bc_278b bc_278c bc_278h bc_278l bc_279a bc_279b bc_279c bc_279h bc_279l bc_280a bc_280b bc_280c bc_280h bc_280l
  refine (GM2_R1.out _ _ _ _ (1 + LR0) _ _ (by omega) (by omega) ho_276 ho_271 HAPy.out).mono ?_
  rintro e w27 ⟨rfl, hmk, hoth, htc⟩
  have hb0_281 := Touch.below hb0_269 (by omega) hb0_269.size htc
  clear hb0_269
  have hbA_282 := Touch.below hbA_270 (by omega) hbA_270.size htc
  clear hbA_270
  have ho_283 := hoth
  clear hoth ho_276
  have hx_284 : Box3 w27 (w.heap.size) 56 (.int .i64 c.1) (.slice cga cgn cgc) (.slice coa con coc) := ⟨by rw [htc.block _ hx_272.lt (by omega)]; exact hx_272.heap⟩
  clear hx_272
  have hx_285 : Box3 w27 (w6.heap.size) 27 (.int .i64 R0.1) (.slice u0ga u0gn u0gc) (.slice u0oa u0on u0oc) := ⟨by rw [htc.block _ hx_273.lt (by omega)]; exact hx_273.heap⟩
  clear hx_273
  have hx_286 : Box3 w27 (w8.heap.size) 27 (.int .i64 c.1) (.slice xcga xcgn xcgc) (.slice xcoa xcon xcoc) := ⟨by rw [htc.block _ hx_274.lt (by omega)]; exact hx_274.heap⟩
  clear hx_274
  have hx_287 : Box3 w27 (w12.heap.size) 27 (.int .i64 R0.1) (.slice y0ga y0gn y0gc) (.slice y0oa y0on y0oc) := ⟨by rw [htc.block _ hx_275.lt (by omega)]; exact hx_275.heap⟩
  clear hx_275
  have hsz_w27 := htc.size
  have ho_288 := hmk
  clear hmk htc ho_271
  obtain ⟨bc_289a, bc_289b, bc_289c⟩ := hx_284.cells
  have bc_289h := hx_284.heap
  have bc_289l := hx_284.lt
  obtain ⟨bc_290a, bc_290b, bc_290c⟩ := hx_285.cells
  have bc_290h := hx_285.heap
  have bc_290l := hx_285.lt
  obtain ⟨bc_291a, bc_291b, bc_291c⟩ := hx_286.cells
  have bc_291h := hx_286.heap
  have bc_291l := hx_286.lt
  obtain ⟨bc_292a, bc_292b, bc_292c⟩ := hx_287.cells
  have bc_292h := hx_287.heap
  have bc_292l := hx_287.lt
  go_wp2_with fail
  clear bc_289a bc_289b bc_289c bc_289h bc_289l bc_290a bc_290b bc_290c bc_290h bc_290l bc_291a bc_291b bc_291c bc_291h bc_291l bc_292a bc_292b bc_292c bc_292h bc_292l
  refine (GH_R0.out _ _ _ (1) _ (by omega) (by omega) ho_283).mono ?_
  rintro e w28 ⟨rfl, hstep⟩
  have hb0_293 := Below.step hb0_281 hb0_281.size hstep
  clear hb0_281
  have hbA_294 := Below.step hbA_282 hbA_282.size hstep
  clear hbA_282
  have ho_295 := ho_283.same hstep.size (fun i _ h2 => hstep.block i (Nat.lt_of_lt_of_le h2 ho_283.hi))
  clear ho_283
  have ho_296 := ho_288.same hstep.size (fun i _ h2 => hstep.block i (Nat.lt_of_lt_of_le h2 ho_288.hi))
  clear ho_288
  have hx_297 := hx_284.below hstep hx_284.lt
  clear hx_284
  have hx_298 := hx_285.below hstep hx_285.lt
  clear hx_285
  have hx_299 := hx_286.below hstep hx_286.lt
  clear hx_286
  have hx_300 := hx_287.below hstep hx_287.lt
  clear hx_287
  have hsz_w28 := hstep.size
  clear hstep
  obtain ⟨bc_301a, bc_301b, bc_301c⟩ := hx_297.cells
  have bc_301h := hx_297.heap
  have bc_301l := hx_297.lt
  obtain ⟨bc_302a, bc_302b, bc_302c⟩ := hx_298.cells
  have bc_302h := hx_298.heap
  have bc_302l := hx_298.lt
  obtain ⟨bc_303a, bc_303b, bc_303c⟩ := hx_299.cells
  have bc_303h := hx_299.heap
  have bc_303l := hx_299.lt
  obtain ⟨bc_304a, bc_304b, bc_304c⟩ := hx_300.cells
  have bc_304h := hx_300.heap
  have bc_304l := hx_300.lt
  go_wp2_with fail
  clear bc_301a bc_301b bc_301c bc_301h bc_301l bc_302a bc_302b bc_302c bc_302h bc_302l bc_303a bc_303b bc_303c bc_303h bc_303l bc_304a bc_304b bc_304c bc_304h bc_304l
  refine (GH_R1.out _ _ _ (1 + LR0) _ (by omega) (by omega) ho_296).mono ?_
  rintro e w29 ⟨rfl, hstep⟩
  have hb0_305 := Below.step hb0_293 hb0_293.size hstep
  clear hb0_293
  have hbA_306 := Below.step hbA_294 hbA_294.size hstep
  clear hbA_294
  have ho_307 := ho_295.same hstep.size (fun i _ h2 => hstep.block i (Nat.lt_of_lt_of_le h2 ho_295.hi))
  clear ho_295
  have ho_308 := ho_296.same hstep.size (fun i _ h2 => hstep.block i (Nat.lt_of_lt_of_le h2 ho_296.hi))
  clear ho_296
  have hx_309 := hx_297.below hstep hx_297.lt
  clear hx_297
  have hx_310 := hx_298.below hstep hx_298.lt
  clear hx_298
  have hx_311 := hx_299.below hstep hx_299.lt
  clear hx_299
  have hx_312 := hx_300.below hstep hx_300.lt
  clear hx_300
  have hsz_w29 := hstep.size
  clear hstep
  obtain ⟨bc_313a, bc_313b, bc_313c⟩ := hx_309.cells
  have bc_313h := hx_309.heap
  have bc_313l := hx_309.lt
  obtain ⟨bc_314a, bc_314b, bc_314c⟩ := hx_310.cells
  have bc_314h := hx_310.heap
  have bc_314l := hx_310.lt
  obtain ⟨bc_315a, bc_315b, bc_315c⟩ := hx_311.cells
  have bc_315h := hx_311.heap
  have bc_315l := hx_311.lt
  obtain ⟨bc_316a, bc_316b, bc_316c⟩ := hx_312.cells
  have bc_316h := hx_312.heap
  have bc_316l := hx_312.lt
  go_wp2_with fail
  clear bc_313a bc_313b bc_313c bc_313h bc_313l bc_314a bc_314b bc_314c bc_314h bc_314l bc_315a bc_315b bc_315c bc_315h bc_315l bc_316a bc_316b bc_316c bc_316h bc_316l
  refine (GT_c.out _ hb0_305).mono ?_
  rintro e w30 ⟨tc, rfl, hnew, hstep⟩
  have hb0_317 := Below.step hb0_305 hb0_305.size hstep
  clear hb0_305
  have hbA_318 := Below.step hbA_306 hbA_306.size hstep
  clear hbA_306
  have ho_319 := ho_307.same hstep.size (fun i _ h2 => hstep.block i (Nat.lt_of_lt_of_le h2 ho_307.hi))
  clear ho_307
  have ho_320 := ho_308.same hstep.size (fun i _ h2 => hstep.block i (Nat.lt_of_lt_of_le h2 ho_308.hi))
  clear ho_308
  have hx_321 := hx_309.below hstep hx_309.lt
  clear hx_309
  have hx_322 := hx_310.below hstep hx_310.lt
  clear hx_310
  have hx_323 := hx_311.below hstep hx_311.lt
  clear hx_311
  have hx_324 := hx_312.below hstep hx_312.lt
  clear hx_312
  have hsz_w30 := hstep.size
  clear hstep
  have ho_325 := hnew
  clear hnew
  obtain ⟨tcga, tcgn, tcgc, tcoa, tcon, tcoc, rfl⟩ := ho_325.shape
  obtain ⟨bc_326a, bc_326b, bc_326c⟩ := hx_321.cells
  have bc_326h := hx_321.heap
  have bc_326l := hx_321.lt
  obtain ⟨bc_327a, bc_327b, bc_327c⟩ := hx_322.cells
  have bc_327h := hx_322.heap
  have bc_327l := hx_322.lt
  obtain ⟨bc_328a, bc_328b, bc_328c⟩ := hx_323.cells
  have bc_328h := hx_323.heap
  have bc_328l := hx_323.lt
  obtain ⟨bc_329a, bc_329b, bc_329c⟩ := hx_324.cells
  have bc_329h := hx_324.heap
  have bc_329l := hx_324.lt
  go_wp2_with fail
  clear bc_326a bc_326b bc_326c bc_326h bc_326l bc_327a bc_327b bc_327c bc_327h bc_327l bc_328a bc_328b bc_328c bc_328h bc_328l bc_329a bc_329b bc_329c bc_329h bc_329l
  refine (GT_a.out _ hb0_317).mono ?_
  rintro e w31 ⟨ta, rfl, hnew, hstep⟩
  have hb0_330 := Below.step hb0_317 hb0_317.size hstep
  clear hb0_317
  have hbA_331 := Below.step hbA_318 hbA_318.size hstep
  clear hbA_318
  have ho_332 := ho_319.same hstep.size (fun i _ h2 => hstep.block i (Nat.lt_of_lt_of_le h2 ho_319.hi))
  clear ho_319
  have ho_333 := ho_320.same hstep.size (fun i _ h2 => hstep.block i (Nat.lt_of_lt_of_le h2 ho_320.hi))
  clear ho_320
  have ho_334 := ho_325.same hstep.size (fun i _ h2 => hstep.block i (Nat.lt_of_lt_of_le h2 ho_325.hi))
  clear ho_325
  have hx_335 := hx_321.below hstep hx_321.lt
  clear hx_321
  have hx_336 := hx_322.below hstep hx_322.lt
  clear hx_322
  have hx_337 := hx_323.below hstep hx_323.lt
  clear hx_323
  have hx_338 := hx_324.below hstep hx_324.lt
  clear hx_324
  have hsz_w31 := hstep.size
  clear hstep
  have ho_339 := hnew
  clear hnew
  obtain ⟨taa, tan, tacap, rfl⟩ := ho_339.shape
  obtain ⟨bc_340a, bc_340b, bc_340c⟩ := hx_335.cells
  have bc_340h := hx_335.heap
  have bc_340l := hx_335.lt
  obtain ⟨bc_341a, bc_341b, bc_341c⟩ := hx_336.cells
  have bc_341h := hx_336.heap
  have bc_341l := hx_336.lt
  obtain ⟨bc_342a, bc_342b, bc_342c⟩ := hx_337.cells
  have bc_342h := hx_337.heap
  have bc_342l := hx_337.lt
  obtain ⟨bc_343a, bc_343b, bc_343c⟩ := hx_338.cells
  have bc_343h := hx_338.heap
  have bc_343l := hx_338.lt
  go_wp2_with fail
  clear bc_340a bc_340b bc_340c bc_340h bc_340l bc_341a bc_341b bc_341c bc_341h bc_341l bc_342a bc_342b bc_342c bc_342h bc_342l bc_343a bc_343b bc_343c bc_343h bc_343l
  refine (GT_b.out _ hb0_330).mono ?_
  rintro e w32 ⟨tb, rfl, hnew, hstep⟩
  have hb0_344 := Below.step hb0_330 hb0_330.size hstep
  clear hb0_330
  have hbA_345 := Below.step hbA_331 hbA_331.size hstep
  clear hbA_331
  have ho_346 := ho_332.same hstep.size (fun i _ h2 => hstep.block i (Nat.lt_of_lt_of_le h2 ho_332.hi))
  clear ho_332
  have ho_347 := ho_333.same hstep.size (fun i _ h2 => hstep.block i (Nat.lt_of_lt_of_le h2 ho_333.hi))
  clear ho_333
  have ho_348 := ho_334.same hstep.size (fun i _ h2 => hstep.block i (Nat.lt_of_lt_of_le h2 ho_334.hi))
  clear ho_334
  have ho_349 := ho_339.same hstep.size (fun i _ h2 => hstep.block i (Nat.lt_of_lt_of_le h2 ho_339.hi))
  clear ho_339
  have hx_350 := hx_335.below hstep hx_335.lt
  clear hx_335
  have hx_351 := hx_336.below hstep hx_336.lt
  clear hx_336
  have hx_352 := hx_337.below hstep hx_337.lt
  clear hx_337
  have hx_353 := hx_338.below hstep hx_338.lt
  clear hx_338
  have hsz_w32 := hstep.size
  clear hstep
  have ho_354 := hnew
  clear hnew
  obtain ⟨tba, tbn, tbcap, rfl⟩ := ho_354.shape
  obtain ⟨bc_355a, bc_355b, bc_355c⟩ := hx_350.cells
  have bc_355h := hx_350.heap
  have bc_355l := hx_350.lt
  obtain ⟨bc_356a, bc_356b, bc_356c⟩ := hx_351.cells
  have bc_356h := hx_351.heap
  have bc_356l := hx_351.lt
  obtain ⟨bc_357a, bc_357b, bc_357c⟩ := hx_352.cells
  have bc_357h := hx_352.heap
  have bc_357l := hx_352.lt
  obtain ⟨bc_358a, bc_358b, bc_358c⟩ := hx_353.cells
  have bc_358h := hx_353.heap
  have bc_358l := hx_353.lt
  go_wp2_with fail
  clear bc_355a bc_355b bc_355c bc_355h bc_355l bc_356a bc_356b bc_356c bc_356h bc_356l bc_357a bc_357b bc_357c bc_357h bc_357l bc_358a bc_358b bc_358c bc_358h bc_358l
  refine (GI.out _ _ _ _ (HC_c.out _ _ _ _ ho_348) (HC_a.out _ _ _ _ ho_349) (HC_b.out _ _ _ _ ho_354)).mono ?_
  rintro e w33 ⟨h0, h1, rfl, hn0, hn1, hap_, hstep⟩
  have hb0_359 := Below.step hb0_344 hb0_344.size hstep
  clear hb0_344
  have hbA_360 := Below.step hbA_345 hbA_345.size hstep
  clear hbA_345
  have ho_361 := ho_346.same hstep.size (fun i _ h2 => hstep.block i (Nat.lt_of_lt_of_le h2 ho_346.hi))
  clear ho_346
  have ho_362 := ho_347.same hstep.size (fun i _ h2 => hstep.block i (Nat.lt_of_lt_of_le h2 ho_347.hi))
  clear ho_347
  have ho_363 := ho_348.same hstep.size (fun i _ h2 => hstep.block i (Nat.lt_of_lt_of_le h2 ho_348.hi))
  clear ho_348
  have ho_364 := ho_349.same hstep.size (fun i _ h2 => hstep.block i (Nat.lt_of_lt_of_le h2 ho_349.hi))
  clear ho_349
  have ho_365 := ho_354.same hstep.size (fun i _ h2 => hstep.block i (Nat.lt_of_lt_of_le h2 ho_354.hi))
  clear ho_354
  have hx_366 := hx_350.below hstep hx_350.lt
  clear hx_350
  have hx_367 := hx_351.below hstep hx_351.lt
  clear hx_351
  have hx_368 := hx_352.below hstep hx_352.lt
  clear hx_352
  have hx_369 := hx_353.below hstep hx_353.lt
  clear hx_353
  have hsz_w33 := hstep.size
  clear hstep
  have HAPh : Hid (Apart2 h0 h1) := hap_
  clear hap_
  have ho_370 := hn0
  clear hn0
  obtain ⟨h0ga, h0gn, h0gc, h0oa, h0on, h0oc, rfl⟩ := ho_370.shape
  have ho_371 := hn1
  clear hn1
  obtain ⟨h1a, h1n, h1cap, rfl⟩ := ho_371.shape
  clear ho_363
  clear ho_364
  clear ho_365
  obtain ⟨bc_372a, bc_372b, bc_372c⟩ := hx_366.cells
  have bc_372h := hx_366.heap
  have bc_372l := hx_366.lt
  obtain ⟨bc_373a, bc_373b, bc_373c⟩ := hx_367.cells
  have bc_373h := hx_367.heap
  have bc_373l := hx_367.lt
  obtain ⟨bc_374a, bc_374b, bc_374c⟩ := hx_368.cells
  have bc_374h := hx_368.heap
  have bc_374l := hx_368.lt
  obtain ⟨bc_375a, bc_375b, bc_375c⟩ := hx_369.cells
  have bc_375h := hx_369.heap
  have bc_375l := hx_369.lt
  go_wp2_with fail
  clear bc_372a bc_372b bc_372c bc_372h bc_372l bc_373a bc_373b bc_373c bc_373h bc_373l bc_374a bc_374b bc_374c bc_374h bc_374l bc_375a bc_375b bc_375c bc_375h bc_375l
  have hb0_376 := hb0_359.alloc hb0_359.size (.cells #[.int .i64 R0.1, .slice h0ga h0gn h0gc, .slice h0oa h0on h0oc] 27)
  clear hb0_359
  have hbA_377 := hbA_360.alloc hbA_360.size (.cells #[.int .i64 R0.1, .slice h0ga h0gn h0gc, .slice h0oa h0on h0oc] 27)
  clear hbA_360
  have hal := (Below.refl w33.heap.size w33).alloc (Nat.le_refl _) (.cells #[.int .i64 R0.1, .slice h0ga h0gn h0gc, .slice h0oa h0on h0oc] 27)
  have ho_378 := ho_361.same hal.size (fun i _ h2 => hal.block i (Nat.lt_of_lt_of_le h2 ho_361.hi))
  clear ho_361
  have ho_379 := ho_362.same hal.size (fun i _ h2 => hal.block i (Nat.lt_of_lt_of_le h2 ho_362.hi))
  clear ho_362
  have ho_380 := ho_370.same hal.size (fun i _ h2 => hal.block i (Nat.lt_of_lt_of_le h2 ho_370.hi))
  clear ho_370
  have ho_381 := ho_371.same hal.size (fun i _ h2 => hal.block i (Nat.lt_of_lt_of_le h2 ho_371.hi))
  clear ho_371
  have hx_382 := hx_366.alloc (.cells #[.int .i64 R0.1, .slice h0ga h0gn h0gc, .slice h0oa h0on h0oc] 27)
  clear hx_366
  have hx_383 := hx_367.alloc (.cells #[.int .i64 R0.1, .slice h0ga h0gn h0gc, .slice h0oa h0on h0oc] 27)
  clear hx_367
  have hx_384 := hx_368.alloc (.cells #[.int .i64 R0.1, .slice h0ga h0gn h0gc, .slice h0oa h0on h0oc] 27)
  clear hx_368
  have hx_385 := hx_369.alloc (.cells #[.int .i64 R0.1, .slice h0ga h0gn h0gc, .slice h0oa h0on h0oc] 27)
  clear hx_369
  have hx_386 := box3_alloc w33 27 (.int .i64 R0.1) (.slice h0ga h0gn h0gc) (.slice h0oa h0on h0oc)
  have hbl_h0 := hx_386.lt
  have hsz_w34 := hal.size
  clear hal
  generalize (w33.alloc (.cells #[.int .i64 R0.1, .slice h0ga h0gn h0gc, .slice h0oa h0on h0oc] 27)) = w34 at *
  refine (GE_R0.out _ _ _ (HN_R0.out _ _ _ _ ho_380) (HU0.out _ hbA_377)).mono ?_
  rintro e w35 ⟨rfl, hstep⟩
  have hb0_387 := Below.step hb0_376 hb0_376.size hstep
  clear hb0_376
  have hbA_388 := Below.step hbA_377 hbA_377.size hstep
  clear hbA_377
  have ho_389 := ho_378.same hstep.size (fun i _ h2 => hstep.block i (Nat.lt_of_lt_of_le h2 ho_378.hi))
  clear ho_378
  have ho_390 := ho_379.same hstep.size (fun i _ h2 => hstep.block i (Nat.lt_of_lt_of_le h2 ho_379.hi))
  clear ho_379
  have ho_391 := ho_380.same hstep.size (fun i _ h2 => hstep.block i (Nat.lt_of_lt_of_le h2 ho_380.hi))
  clear ho_380
  have ho_392 := ho_381.same hstep.size (fun i _ h2 => hstep.block i (Nat.lt_of_lt_of_le h2 ho_381.hi))
  clear ho_381
  have hx_393 := hx_382.below hstep hx_382.lt
  clear hx_382
  have hx_394 := hx_383.below hstep hx_383.lt
  clear hx_383
  have hx_395 := hx_384.below hstep hx_384.lt
  clear hx_384
  have hx_396 := hx_385.below hstep hx_385.lt
  clear hx_385
  have hx_397 := hx_386.below hstep hx_386.lt
  clear hx_386
  have hsz_w35 := hstep.size
  clear hstep
  obtain ⟨bc_398a, bc_398b, bc_398c⟩ := hx_393.cells
  have bc_398h := hx_393.heap
  have bc_398l := hx_393.lt
  obtain ⟨bc_399a, bc_399b, bc_399c⟩ := hx_394.cells
  have bc_399h := hx_394.heap
  have bc_399l := hx_394.lt
  obtain ⟨bc_400a, bc_400b, bc_400c⟩ := hx_395.cells
  have bc_400h := hx_395.heap
  have bc_400l := hx_395.lt
  obtain ⟨bc_401a, bc_401b, bc_401c⟩ := hx_396.cells
  have bc_401h := hx_396.heap
  have bc_401l := hx_396.lt
  obtain ⟨bc_402a, bc_402b, bc_402c⟩ := hx_397.cells
  have bc_402h := hx_397.heap
  have bc_402l := hx_397.lt
  go_wp2_with fail
  clear bc_398a bc_398b bc_398c bc_398h bc_398l bc_399a bc_399b bc_399c bc_399h bc_399l bc_400a bc_400b bc_400c bc_400h bc_400l bc_401a bc_401b bc_401c bc_401h bc_401l bc_402a bc_402b bc_402c bc_402h bc_402l
  refine (GE_R1.out _ _ _ (HN_R1.out _ _ _ _ ho_392) (HU1.out _ hbA_388)).mono ?_
  rintro e w36 ⟨rfl, hstep⟩
  have hb0_403 := Below.step hb0_387 hb0_387.size hstep
  clear hb0_387
  have hbA_404 := Below.step hbA_388 hbA_388.size hstep
  clear hbA_388
  have ho_405 := ho_389.same hstep.size (fun i _ h2 => hstep.block i (Nat.lt_of_lt_of_le h2 ho_389.hi))
  clear ho_389
  have ho_406 := ho_390.same hstep.size (fun i _ h2 => hstep.block i (Nat.lt_of_lt_of_le h2 ho_390.hi))
  clear ho_390
  have ho_407 := ho_391.same hstep.size (fun i _ h2 => hstep.block i (Nat.lt_of_lt_of_le h2 ho_391.hi))
  clear ho_391
  have ho_408 := ho_392.same hstep.size (fun i _ h2 => hstep.block i (Nat.lt_of_lt_of_le h2 ho_392.hi))
  clear ho_392
  have hx_409 := hx_393.below hstep hx_393.lt
  clear hx_393
  have hx_410 := hx_394.below hstep hx_394.lt
  clear hx_394
  have hx_411 := hx_395.below hstep hx_395.lt
  clear hx_395
  have hx_412 := hx_396.below hstep hx_396.lt
  clear hx_396
  have hx_413 := hx_397.below hstep hx_397.lt
  clear hx_397
  have hsz_w36 := hstep.size
  clear hstep
  clear ho_407
  clear ho_408
  obtain ⟨bc_414a, bc_414b, bc_414c⟩ := hx_409.cells
  have bc_414h := hx_409.heap
  have bc_414l := hx_409.lt
  obtain ⟨bc_415a, bc_415b, bc_415c⟩ := hx_410.cells
  have bc_415h := hx_410.heap
  have bc_415l := hx_410.lt
  obtain ⟨bc_416a, bc_416b, bc_416c⟩ := hx_411.cells
  have bc_416h := hx_411.heap
  have bc_416l := hx_411.lt
  obtain ⟨bc_417a, bc_417b, bc_417c⟩ := hx_412.cells
  have bc_417h := hx_412.heap
  have bc_417l := hx_412.lt
  obtain ⟨bc_418a, bc_418b, bc_418c⟩ := hx_413.cells
  have bc_418h := hx_413.heap
  have bc_418l := hx_413.lt
  go_wp2_with fail
  clear bc_414a bc_414b bc_414c bc_414h bc_414l bc_415a bc_415b bc_415c bc_415h bc_415l bc_416a bc_416b bc_416c bc_416h bc_416l bc_417a bc_417b bc_417c bc_417h bc_417l bc_418a bc_418b bc_418c bc_418h bc_418l
  refine (GH_R0.out _ _ _ (1) _ (by omega) (by omega) ho_405).mono ?_
  rintro e w37 ⟨rfl, hstep⟩
  have hb0_419 := Below.step hb0_403 hb0_403.size hstep
  clear hb0_403
  have hbA_420 := Below.step hbA_404 hbA_404.size hstep
  clear hbA_404
  have ho_421 := ho_405.same hstep.size (fun i _ h2 => hstep.block i (Nat.lt_of_lt_of_le h2 ho_405.hi))
  clear ho_405
  have ho_422 := ho_406.same hstep.size (fun i _ h2 => hstep.block i (Nat.lt_of_lt_of_le h2 ho_406.hi))
  clear ho_406
  have hx_423 := hx_409.below hstep hx_409.lt
  clear hx_409
  have hx_424 := hx_410.below hstep hx_410.lt
  clear hx_410
  have hx_425 := hx_411.below hstep hx_411.lt
  clear hx_411
  have hx_426 := hx_412.below hstep hx_412.lt
  clear hx_412
  have hx_427 := hx_413.below hstep hx_413.lt
  clear hx_413
  have hsz_w37 := hstep.size
  clear hstep
  obtain ⟨bc_428a, bc_428b, bc_428c⟩ := hx_423.cells
  have bc_428h := hx_423.heap
  have bc_428l := hx_423.lt
  obtain ⟨bc_429a, bc_429b, bc_429c⟩ := hx_424.cells
  have bc_429h := hx_424.heap
  have bc_429l := hx_424.lt
  obtain ⟨bc_430a, bc_430b, bc_430c⟩ := hx_425.cells
  have bc_430h := hx_425.heap
  have bc_430l := hx_425.lt
  obtain ⟨bc_431a, bc_431b, bc_431c⟩ := hx_426.cells
  have bc_431h := hx_426.heap
  have bc_431l := hx_426.lt
  obtain ⟨bc_432a, bc_432b, bc_432c⟩ := hx_427.cells
  have bc_432h := hx_427.heap
  have bc_432l := hx_427.lt
  go_wp2_with fail
  clear bc_428a bc_428b bc_428c bc_428h bc_428l bc_429a bc_429b bc_429c bc_429h bc_429l bc_430a bc_430b bc_430c bc_430h bc_430l bc_431a bc_431b bc_431c bc_431h bc_431l bc_432a bc_432b bc_432c bc_432h bc_432l
  refine (GH_R1.out _ _ _ (1 + LR0) _ (by omega) (by omega) ho_422).mono ?_
  rintro e w38 ⟨rfl, hstep⟩
  have hb0_433 := Below.step hb0_419 hb0_419.size hstep
  clear hb0_419
  have hbA_434 := Below.step hbA_420 hbA_420.size hstep
  clear hbA_420
  have ho_435 := ho_421.same hstep.size (fun i _ h2 => hstep.block i (Nat.lt_of_lt_of_le h2 ho_421.hi))
  clear ho_421
  have ho_436 := ho_422.same hstep.size (fun i _ h2 => hstep.block i (Nat.lt_of_lt_of_le h2 ho_422.hi))
  clear ho_422
  have hx_437 := hx_423.below hstep hx_423.lt
  clear hx_423
  have hx_438 := hx_424.below hstep hx_424.lt
  clear hx_424
  have hx_439 := hx_425.below hstep hx_425.lt
  clear hx_425
  have hx_440 := hx_426.below hstep hx_426.lt
  clear hx_426
  have hx_441 := hx_427.below hstep hx_427.lt
  clear hx_427
  have hsz_w38 := hstep.size
  clear hstep
  have HB : Hid (Below w.heap.size w w38) := hb0_433
  clear ho_435
  clear ho_436
  obtain ⟨bc_442a, bc_442b, bc_442c⟩ := hx_437.cells
  have bc_442h := hx_437.heap
  have bc_442l := hx_437.lt
  obtain ⟨bc_443a, bc_443b, bc_443c⟩ := hx_438.cells
  have bc_443h := hx_438.heap
  have bc_443l := hx_438.lt
  obtain ⟨bc_444a, bc_444b, bc_444c⟩ := hx_439.cells
  have bc_444h := hx_439.heap
  have bc_444l := hx_439.lt
  obtain ⟨bc_445a, bc_445b, bc_445c⟩ := hx_440.cells
  have bc_445h := hx_440.heap
  have bc_445l := hx_440.lt
  obtain ⟨bc_446a, bc_446b, bc_446c⟩ := hx_441.cells
  have bc_446h := hx_441.heap
  have bc_446l := hx_441.lt
  go_wp2_with fail
  go_ret
  exact ⟨rfl, HB.out⟩
set_option maxRecDepth 100000 in
set_option maxHeartbeats 2000000 in
theorem addGates_big0 (c : Ci) (cv : Value) (a : List Int) (av : Value) (b : List Int) (bv : Value) (carry : Int)  (hz : 1048576 < a.length) (w : World) (h_c : AtCirc w cv c) (h_a : IntsAt w av a) (h_b : IntsAt w bv b) :
    Calls Try.prog 11 #[cv, av, bv, .int .i64 carry] w fun e w' => e = .returned (.bool true) ∧ Below w.heap.size w w' := by
  have hm_a := h_a.1
  obtain ⟨aa, acap, rfl⟩ := h_a.shape
  have hm_b := h_b.1
  obtain ⟨ba, bcap, rfl⟩ := h_b.shape
  obtain ⟨cga, cgn, cgc, coa, con, coc, rfl⟩ := h_c.shape
  generalize a.length = an at *
  generalize b.length = bn at *
  clear h_c h_a h_b
  have HB0 : Hid (Below w.heap.size w (w.alloc (.cells #[.int .i64 c.1, .slice cga cgn cgc, .slice coa con coc] 56))) := (Below.refl _ _).alloc (Nat.le_refl _) _
  go_enter Try.func11, Try.ntmps11
  go_wp2_with fail
  go_ret
  exact ⟨rfl, HB0.out⟩
set_option maxRecDepth 100000 in
set_option maxHeartbeats 2000000 in
theorem addGates_big1 (c : Ci) (cv : Value) (a : List Int) (av : Value) (b : List Int) (bv : Value) (carry : Int) (hl_a : a.length ≤ 1048576) (hz : 1048576 < b.length) (w : World) (h_c : AtCirc w cv c) (h_a : IntsAt w av a) (h_b : IntsAt w bv b) :
    Calls Try.prog 11 #[cv, av, bv, .int .i64 carry] w fun e w' => e = .returned (.bool true) ∧ Below w.heap.size w w' := by
  have hm_a := h_a.1
  obtain ⟨aa, acap, rfl⟩ := h_a.shape
  have hm_b := h_b.1
  obtain ⟨ba, bcap, rfl⟩ := h_b.shape
  obtain ⟨cga, cgn, cgc, coa, con, coc, rfl⟩ := h_c.shape
  generalize a.length = an at *
  generalize b.length = bn at *
  clear h_c h_a h_b
  have HB0 : Hid (Below w.heap.size w (w.alloc (.cells #[.int .i64 c.1, .slice cga cgn cgc, .slice coa con coc] 56))) := (Below.refl _ _).alloc (Nat.le_refl _) _
  go_enter Try.func11, Try.ntmps11
  go_wp2_with fail
  go_ret
  exact ⟨rfl, HB0.out⟩
set_option maxRecDepth 100000 in
set_option maxHeartbeats 2000000 in
theorem addGates_big2 (c : Ci) (cv : Value) (a : List Int) (av : Value) (b : List Int) (bv : Value) (carry : Int) (hl_a : a.length ≤ 1048576) (hl_b : b.length ≤ 1048576) (hz : 1048576 < c.2.1.length + c.2.2.length) (w : World) (h_c : AtCirc w cv c) (h_a : IntsAt w av a) (h_b : IntsAt w bv b) :
    Calls Try.prog 11 #[cv, av, bv, .int .i64 carry] w fun e w' => e = .returned (.bool true) ∧ Below w.heap.size w w' := by
  have Z : Hid (∀ w1 : World, Below w.heap.size w w1 → Calls Try.prog 41 #[cv, .int .i64 1048576] w1 fun e w' => e = .returned (.int .i64 (-1)) ∧ Below w1.heap.size w1 w') := fun w1 hb => szCircuit_big cv c hz w1 (h_c.below hb)
  have hm_a := h_a.1
  obtain ⟨aa, acap, rfl⟩ := h_a.shape
  have hm_b := h_b.1
  obtain ⟨ba, bcap, rfl⟩ := h_b.shape
  obtain ⟨cga, cgn, cgc, coa, con, coc, rfl⟩ := h_c.shape
  clear hz
  generalize a.length = an at *
  generalize b.length = bn at *
  clear h_c h_a h_b
  have HB0 : Hid (Below w.heap.size w (w.alloc (.cells #[.int .i64 c.1, .slice cga cgn cgc, .slice coa con coc] 56))) := (Below.refl _ _).alloc (Nat.le_refl _) _
  go_enter Try.func11, Try.ntmps11
  go_wp2_with fail
  refine (Z.out _ HB0.out).mono ?_
  rintro e w1 ⟨rfl, hstep⟩
  have HB1 : Hid (Below w.heap.size w w1) := Below.step HB0.out HB0.out.size hstep
  clear hstep Z
  go_wp2_with fail
  go_ret
  exact ⟨rfl, HB1.out⟩
theorem addGates_law (c : Ci) (cv : Value) (a : List Int) (av : Value) (b : List Int) (bv : Value) (carry : Int) (hf_carry : Fit carry) (R0 : Ci) (R1 : List Int) (R2 : Bool) (hR0 : CiOk c → c.2.1.length + c.2.2.length ≤ 1048576 → a.length ≤ 1048576 → b.length ≤ 1048576 → CiOk R0) (hR1 : CiOk c → c.2.1.length + c.2.2.length ≤ 1048576 → a.length ≤ 1048576 → b.length ≤ 1048576 → R1.length ≤ 1048576) (w : World) (h_c : AtCirc w cv c) (h_a : IntsAt w av a) (h_b : IntsAt w bv b) (GS0 : CiOk c → c.2.1.length + c.2.2.length ≤ 1048576 → a.length ≤ 1048576 → b.length ≤ 1048576 → ∀ (c1 a1 b1 : Value) (w1 : World), AtC w1 c1 c → AtIS w1 a1 a → AtIS w1 b1 b → Calls Try.prog 17 #[c1, a1, b1, .int .i64 carry] w1 fun e w' => ∃ r0, ∃ r1, e = .returned (.tuple #[r0, r1, .bool R2]) ∧ OwnCirc w' w1.heap.size w'.heap.size r0 R0 ∧ OwnIS w' w1.heap.size w'.heap.size r1 R1 ∧ Apart2 r0 r1 ∧ Below w1.heap.size w1 w') (GI0 : CiOk c → c.2.1.length + c.2.2.length ≤ 1048576 → a.length ≤ 1048576 → b.length ≤ 1048576 → ∀ (c1 a1 b1 : Value) (w1 : World), AtC w1 c1 c → AtIS w1 a1 a → AtIS w1 b1 b → Calls Try.prog 16 #[c1, a1, b1, .int .i64 carry] w1 fun e w' => ∃ r0, ∃ r1, e = .returned (.tuple #[r0, r1, .bool R2]) ∧ OwnCirc w' w1.heap.size w'.heap.size r0 R0 ∧ OwnIS w' w1.heap.size w'.heap.size r1 R1 ∧ Apart2 r0 r1 ∧ Below w1.heap.size w1 w') :
    Calls Try.prog 11 #[cv, av, bv, .int .i64 carry] w fun e w' => e = .returned (.bool true) ∧ Below w.heap.size w w' := by
  by_cases hl_a : a.length ≤ 1048576
  case neg => exact addGates_big0 c cv a av b bv carry  (by omega) w h_c h_a h_b
  by_cases hl_b : b.length ≤ 1048576
  case neg => exact addGates_big1 c cv a av b bv carry hl_a (by omega) w h_c h_a h_b
  by_cases htot : c.2.1.length + c.2.2.length ≤ 1048576
  case neg => exact addGates_big2 c cv a av b bv carry hl_a hl_b (by omega) w h_c h_a h_b
  have hok : CiOk c := by
    obtain ⟨h0, g, o, _, h1, h2⟩ := h_c
    exact ⟨h0, h1.1, by omega, by omega⟩
  exact addGates_small c cv a av b bv carry hf_carry R0 R1 R2 (hR0 hok htot hl_a hl_b) (hR1 hok htot hl_a hl_b) hok hl_a hl_b htot w h_c h_a h_b (GS0 hok htot hl_a hl_b) (GI0 hok htot hl_a hl_b)
end Go.Proofs.Ytnagaanagcmdgaa
