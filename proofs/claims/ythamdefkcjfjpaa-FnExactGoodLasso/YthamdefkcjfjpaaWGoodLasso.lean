/-
  The walk of the exact law of GoodLasso, out of what the model's and the program's function do.
-/
import Derived.Test.YthamdefkcjfjpaaLasso
import Derived.Test.YthamdefkcjfjpaaCutT
import Derived.Test.YthamdefkcjfjpaaOwn5
namespace Go.Proofs.Ythamdefkcjfjpaa
open Go Go.RowKit
open M
set_option linter.unusedVariables false

set_option maxRecDepth 100000 in
set_option maxHeartbeats 8000000 in
theorem goodLasso_small (l : La) (lv : Value) (R0 : Bool) (hok_l : LaOk l) (htot_l : l.1.length + l.2.length ≤ 1048576) (w : World) (h_l : AtLa w lv l) (GS0 : ∀ (l1 : Value) (w1 : World), Below w.heap.size w w1 → AtLS w1 l1 l → Calls Try.prog 21 #[l1] w1 fun e w' => e = .returned (.bool R0) ∧ Below w1.heap.size w1 w') (GI0 : ∀ (l1 : Value) (w1 : World), Below w.heap.size w w1 → AtLS w1 l1 l → Calls Try.prog 20 #[l1] w1 fun e w' => e = .returned (.bool R0) ∧ Below w1.heap.size w1 w') :
    Calls Try.prog 5 #[lv] w fun e w' => e = .returned (.bool true) ∧ Below w.heap.size w w' := by
  have GS : Hid (∀ (l1 : Value) (w1 : World), Below w.heap.size w w1 → AtLS w1 l1 l → Calls Try.prog 21 #[l1] w1 fun e w' => e = .returned (.bool R0) ∧ Below w1.heap.size w1 w') := GS0
  have GI : Hid (∀ (l1 : Value) (w1 : World), Below w.heap.size w w1 → AtLS w1 l1 l → Calls Try.prog 20 #[l1] w1 fun e w' => e = .returned (.bool R0) ∧ Below w1.heap.size w1 w') := GI0
  clear GS0 GI0
  have Z : Hid (∀ w1 : World, Below w.heap.size w w1 → Calls Try.prog 36 #[lv, .int .i64 1048576] w1 fun e w' => e = .returned (.int .i64 (1048576 - (l.1.length : Int) - (l.2.length : Int))) ∧ Below w1.heap.size w1 w') := fun w1 hb => szLasso_small lv l htot_l w1 (h_l.below hb)
  obtain ⟨n0, hn0⟩ : ∃ n0 : Int, (1048576 - (l.1.length : Int) - (l.2.length : Int)) = n0 := ⟨_, rfl⟩
  have hn1 : 0 ≤ n0 := by omega
  rw [hn0] at Z
  have GT_l : Hid (∀ w1 : World, Below w.heap.size w w1 → Calls Try.prog 37 #[lv] w1 fun e w' => ∃ v', e = .returned v' ∧ OwnLa w' w1.heap.size w'.heap.size v' l ∧ Below w1.heap.size w1 w') := fun w1 hb => toLasso_any lv l hok_l w1 (h_l.below hb)
  have GE_l : Hid (∀ (u v : Value) (w1 : World), AtLa w1 u l → AtLa w1 v l → Calls Try.prog 38 #[u, v] w1 fun e w' => e = .returned (.bool true) ∧ Below w1.heap.size w1 w') := fun u v w1 h1 h2 => eqLasso_same u v l w1 h1 h2
  have HN_l : Hid (∀ (w1 : World) (lo hi : Nat) (v1 : Value), OwnLa w1 lo hi v1 l → AtLa w1 v1 l) := fun w1 lo hi v1 ho => ho.reads hok_l
  have HC_l : Hid (∀ (w1 : World) (lo hi : Nat) (v1 : Value), OwnLa w1 lo hi v1 l → AtLS w1 v1 l) := fun w1 lo hi v1 ho => ho.hands hok_l
  obtain ⟨lsa, lsn, lsc, loa, lon, loc, rfl⟩ := h_l.shape
  clear hn0 htot_l
  clear h_l hok_l 
  go_enter Try.func5, Try.ntmps5
  have hb0_0 := Below.refl w.heap.size w
  go_wp2_with fail
  have hb0_1 := hb0_0.alloc hb0_0.size (.cells #[.slice lsa lsn lsc, .slice loa lon loc] 44)
  clear hb0_0
  have hal := (Below.refl w.heap.size w).alloc (Nat.le_refl _) (.cells #[.slice lsa lsn lsc, .slice loa lon loc] 44)
  have hx_2 := box2_alloc w 44 (.slice lsa lsn lsc) (.slice loa lon loc)
  have hbl_a_l := hx_2.lt
  have hsz_w1 := hal.size
  clear hal
  generalize (w.alloc (.cells #[.slice lsa lsn lsc, .slice loa lon loc] 44)) = w1 at *
  refine (Z.out _ hb0_1).mono ?_
  rintro e w2 ⟨rfl, hstep⟩
  have hb0_3 := Below.step hb0_1 hb0_1.size hstep
  clear hb0_1
  have hx_4 := hx_2.below hstep hx_2.lt
  clear hx_2
  have hsz_w2 := hstep.size
  clear hstep
  clear Z
  obtain ⟨bc_5a, bc_5b⟩ := hx_4.cells
  have bc_5h := hx_4.heap
  have bc_5l := hx_4.lt
  go_wp2_with fail
  clear bc_5a bc_5b bc_5h bc_5l
  refine (GT_l.out _ hb0_3).mono ?_
  rintro e w3 ⟨sl, rfl, hnew, hstep⟩
  have hb0_6 := Below.step hb0_3 hb0_3.size hstep
  clear hb0_3
  have hx_7 := hx_4.below hstep hx_4.lt
  clear hx_4
  have hsz_w3 := hstep.size
  clear hstep
  have ho_8 := hnew
  clear hnew
  obtain ⟨slsa, slsn, slsc, sloa, slon, sloc, rfl⟩ := ho_8.shape
  obtain ⟨bc_9a, bc_9b⟩ := hx_7.cells
  have bc_9h := hx_7.heap
  have bc_9l := hx_7.lt
  go_wp2_with fail
  clear bc_9a bc_9b bc_9h bc_9l
  refine (GS.out _ _ hb0_6 (HC_l.out _ _ _ _ ho_8)).mono ?_
  rintro e w4 ⟨rfl, hstep⟩
  have hb0_10 := Below.step hb0_6 hb0_6.size hstep
  clear hb0_6
  have ho_11 := ho_8.same hstep.size (fun i _ h2 => hstep.block i (Nat.lt_of_lt_of_le h2 ho_8.hi))
  clear ho_8
  have hx_12 := hx_7.below hstep hx_7.lt
  clear hx_7
  have hsz_w4 := hstep.size
  clear hstep
  clear GS
  clear ho_11
  obtain ⟨bc_13a, bc_13b⟩ := hx_12.cells
  have bc_13h := hx_12.heap
  have bc_13l := hx_12.lt
  go_wp2_with fail
  clear bc_13a bc_13b bc_13h bc_13l
  refine (GT_l.out _ hb0_10).mono ?_
  rintro e w5 ⟨xl, rfl, hnew, hstep⟩
  have hb0_14 := Below.step hb0_10 hb0_10.size hstep
  clear hb0_10
  have hx_15 := hx_12.below hstep hx_12.lt
  clear hx_12
  have hsz_w5 := hstep.size
  clear hstep
  have ho_16 := hnew
  clear hnew
  obtain ⟨xlsa, xlsn, xlsc, xloa, xlon, xloc, rfl⟩ := ho_16.shape
  obtain ⟨bc_17a, bc_17b⟩ := hx_15.cells
  have bc_17h := hx_15.heap
  have bc_17l := hx_15.lt
  go_wp2_with fail
  clear bc_17a bc_17b bc_17h bc_17l
  have hb0_18 := hb0_14.alloc hb0_14.size (.cells #[.slice xlsa xlsn xlsc, .slice xloa xlon xloc] 26)
  clear hb0_14
  have hal := (Below.refl w5.heap.size w5).alloc (Nat.le_refl _) (.cells #[.slice xlsa xlsn xlsc, .slice xloa xlon xloc] 26)
  have ho_19 := ho_16.same hal.size (fun i _ h2 => hal.block i (Nat.lt_of_lt_of_le h2 ho_16.hi))
  clear ho_16
  have hx_20 := hx_15.alloc (.cells #[.slice xlsa xlsn xlsc, .slice xloa xlon xloc] 26)
  clear hx_15
  have hx_21 := box2_alloc w5 26 (.slice xlsa xlsn xlsc) (.slice xloa xlon xloc)
  have hbl_xl := hx_21.lt
  have hsz_w6 := hal.size
  clear hal
  generalize (w5.alloc (.cells #[.slice xlsa xlsn xlsc, .slice xloa xlon xloc] 26)) = w6 at *
  refine (GI.out _ _ hb0_18 (HC_l.out _ _ _ _ ho_19)).mono ?_
  rintro e w7 ⟨rfl, hstep⟩
  have hb0_22 := Below.step hb0_18 hb0_18.size hstep
  clear hb0_18
  have ho_23 := ho_19.same hstep.size (fun i _ h2 => hstep.block i (Nat.lt_of_lt_of_le h2 ho_19.hi))
  clear ho_19
  have hx_24 := hx_20.below hstep hx_20.lt
  clear hx_20
  have hx_25 := hx_21.below hstep hx_21.lt
  clear hx_21
  have hsz_w7 := hstep.size
  clear hstep
  obtain ⟨bc_26a, bc_26b⟩ := hx_24.cells
  have bc_26h := hx_24.heap
  have bc_26l := hx_24.lt
  obtain ⟨bc_27a, bc_27b⟩ := hx_25.cells
  have bc_27h := hx_25.heap
  have bc_27l := hx_25.lt
  go_wp2_with fail
  clear bc_26a bc_26b bc_26h bc_26l bc_27a bc_27b bc_27h bc_27l
  have HXA : Hid (∀ w_ : World, Below w7.heap.size w7 w_ → AtLa w_ (.agg #[.slice xlsa xlsn xlsc, .slice xloa xlon xloc]) l) := fun w_ hb => (HN_l.out _ _ _ _ ho_23).below hb
  have HH_a_l : Hid (∀ w_ : World, Below w7.heap.size w7 w_ → Box2 w_ (w.heap.size) 44 (.slice lsa lsn lsc) (.slice loa lon loc)) := fun w_ hb => hx_24.below hb hx_24.lt
  have HH_xl : Hid (∀ w_ : World, Below w7.heap.size w7 w_ → Box2 w_ (w5.heap.size) 26 (.slice xlsa xlsn xlsc) (.slice xloa xlon xloc)) := fun w_ hb => hx_25.below hb hx_25.lt
  go_cut [26] from 22 to 26 (fun s wx => s = .bool false ∧ Hid (Below w7.heap.size w7 wx))
  case first =>
    obtain ⟨bc_28a, bc_28b⟩ := hx_24.cells
    have bc_28h := hx_24.heap
    have bc_28l := hx_24.lt
    obtain ⟨bc_29a, bc_29b⟩ := hx_25.cells
    have bc_29h := hx_25.heap
    have bc_29l := hx_25.lt
    have HB0 : Hid (Below w.heap.size w w7) := hb0_22
    clear hb0_22 ho_23 hx_24 hx_25
    go_region_with (first | (go_at_call 37; refine (GT_l.out _ (by first | exact HB0.out | exact HB0.out.drew | exact HB0.out.drew.drew | exact HB0.out.drew.drew.drew)).mono ?_; rintro e wn ⟨c_, rfl, hnew, hstep⟩; have HS : Hid (Below w7.heap.size w7 wn) := (by first | exact hstep | exact (Below.refl _ _).drew.trans hstep | exact (Below.refl _ _).drew.drew.trans hstep); have hcr := HN_l.out _ _ _ _ hnew; obtain ⟨zsa, zsn, zsc, zoa, zon, zoc, rfl⟩ := hcr.shape; have HC : Hid (AtLa wn (.agg #[.slice zsa zsn zsc, .slice zoa zon zoc]) l) := hcr; have yx := HH_xl.out _ HS.out; have yxh := yx.heap; obtain ⟨yx0, yx1⟩ := yx.cells; have yxl := yx.lt; clear hstep hnew hcr yx) | (go_at_call 38; refine (GE_l.out _ _ _ (HXA.out _ (by first | exact HS.out | exact HS.out.drew | exact HS.out.drew.drew | exact HS.out.drew.drew.drew)) (by first | exact HC.out | exact HC.out.below (Below.refl _ _).drew | exact HC.out.below (Below.refl _ _).drew.drew)).mono ?_; rintro e wm ⟨rfl, hstep⟩; have HS2 : Hid (Below w7.heap.size w7 wm) := (by first | exact HS.out.trans (hstep.mono HS.out.size) | exact HS.out.drew.trans (hstep.mono HS.out.size) | exact HS.out.drew.drew.trans (hstep.mono HS.out.size)); clear hstep))
    all_goals
      go_wp2_with fail
      go_meet
      case rel => exact ⟨rfl, by first | exact HS2 | exact HS2.out.drew | exact HS2.out.drew.drew⟩
  obtain ⟨rfl, HCUT⟩ := hcut
  have hstep := HCUT.out
  clear HCUT HXA HH_a_l HH_xl
  have hb0_30 := Below.step hb0_22 hb0_22.size hstep
  clear hb0_22
  have ho_31 := ho_23.same hstep.size (fun i _ h2 => hstep.block i (Nat.lt_of_lt_of_le h2 ho_23.hi))
  clear ho_23
  have hx_32 := hx_24.below hstep hx_24.lt
  clear hx_24
  have hx_33 := hx_25.below hstep hx_25.lt
  clear hx_25
  have hsz_wc_34 := hstep.size
  clear hstep
  have HB : Hid (Below w.heap.size w wc) := hb0_30
  clear ho_31
  obtain ⟨bc_35a, bc_35b⟩ := hx_32.cells
  have bc_35h := hx_32.heap
  have bc_35l := hx_32.lt
  obtain ⟨bc_36a, bc_36b⟩ := hx_33.cells
  have bc_36h := hx_33.heap
  have bc_36l := hx_33.lt
  go_wp2_with fail
  go_ret
  exact ⟨rfl, HB.out⟩
set_option maxRecDepth 100000 in
set_option maxHeartbeats 2000000 in
theorem goodLasso_big0 (l : La) (lv : Value)  (hz : 1048576 < l.1.length + l.2.length) (w : World) (h_l : AtLa w lv l) :
    Calls Try.prog 5 #[lv] w fun e w' => e = .returned (.bool true) ∧ Below w.heap.size w w' := by
  have Z : Hid (∀ w1 : World, Below w.heap.size w w1 → Calls Try.prog 36 #[lv, .int .i64 1048576] w1 fun e w' => e = .returned (.int .i64 (-1)) ∧ Below w1.heap.size w1 w') := fun w1 hb => szLasso_big lv l hz w1 (h_l.below hb)
  obtain ⟨lsa, lsn, lsc, loa, lon, loc, rfl⟩ := h_l.shape
  clear hz
  clear h_l
  have HB0 : Hid (Below w.heap.size w (w.alloc (.cells #[.slice lsa lsn lsc, .slice loa lon loc] 44))) := (Below.refl _ _).alloc (Nat.le_refl _) _
  go_enter Try.func5, Try.ntmps5
  go_wp2_with fail
  refine (Z.out _ HB0.out).mono ?_
  rintro e w1 ⟨rfl, hstep⟩
  have HB1 : Hid (Below w.heap.size w w1) := Below.step HB0.out HB0.out.size hstep
  clear hstep Z
  go_wp2_with fail
  go_ret
  exact ⟨rfl, HB1.out⟩
theorem goodLasso_law (l : La) (lv : Value)  (R0 : Bool)  (w : World) (h_l : AtLa w lv l) (GS0 : LaOk l → l.1.length + l.2.length ≤ 1048576 → ∀ (l1 : Value) (w1 : World), Below w.heap.size w w1 → AtLS w1 l1 l → Calls Try.prog 21 #[l1] w1 fun e w' => e = .returned (.bool R0) ∧ Below w1.heap.size w1 w') (GI0 : LaOk l → l.1.length + l.2.length ≤ 1048576 → ∀ (l1 : Value) (w1 : World), Below w.heap.size w w1 → AtLS w1 l1 l → Calls Try.prog 20 #[l1] w1 fun e w' => e = .returned (.bool R0) ∧ Below w1.heap.size w1 w') :
    Calls Try.prog 5 #[lv] w fun e w' => e = .returned (.bool true) ∧ Below w.heap.size w w' := by
  by_cases hs_l : l.1.length + l.2.length ≤ 1048576
  case neg => exact goodLasso_big0 l lv  (by omega) w h_l
  have hok_l : LaOk l := ⟨by omega, by omega⟩
  exact goodLasso_small l lv R0  hok_l hs_l w h_l (GS0 hok_l hs_l) (GI0 hok_l hs_l)
end Go.Proofs.Ythamdefkcjfjpaa
