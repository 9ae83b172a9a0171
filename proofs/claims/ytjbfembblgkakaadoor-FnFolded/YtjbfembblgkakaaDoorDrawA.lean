/-
  The drawing of conditions (the model's asked).
-/
import Derived.Test.YtjbfembblgkakaaDoorDrawT
namespace Go.Proofs.YtjbfembblgkakaaDoor
open Go Go.RowKit
open M
set_option linter.unusedVariables false

theorem num0 : NumP 0 10 1 := number_zero
theorem num1 : NumP 1 40 3 := number_step 0 10 1 (by omega) (by omega) (by omega) (by omega) num0
theorem num2 : NumP 2 100 7 := number_step 1 40 3 (by omega) (by omega) (by omega) (by omega) num1
theorem num3 : NumP 3 220 15 := number_step 2 100 7 (by omega) (by omega) (by omega) (by omega) num2
/-- what asked does at a depth -/
def AskP (d M L : Nat) : Prop := ∀ (B b m : Nat) (sv : Value) (k : Nat) (vars : Int) (w : World), 1 ≤ k → k ≤ 64 → 1 ≤ vars → vars ≤ 5 → Cur B b m sv w → m + M ≤ 5000000 →
  Calls Tryd.prog 133 #[ptr b, .int .i64 k, .int .i64 vars, .int .i64 (d : Int)] w fun e w' => ∃ v t, e = .returned v ∧ Drawn B b (m + M) sv L w w' v t
set_option maxRecDepth 100000 in
set_option maxHeartbeats 4000000 in
theorem asked_zero : AskP 0 100 7 := by
  intro B b m sv k vars w hk1 hk hv1 hv5 hc hm
  have GP : Hid (∀ (n : Int) (m' : Nat) (w1 : World), 1 ≤ n → n ≤ 50 → Cur B b m' sv w1 → m' ≤ 9000000 → Calls Tryd.prog 94 #[ptr b, .int .i64 n] w1 fun e w' => ∃ x : Int, (0 ≤ x ∧ x < n) ∧ e = .returned (.int .i64 x) ∧ Only b w1 w' ∧ Cur B b (m' + 2) sv w') := fun n m' w1 h1 h2 hc' hm' => pick_any B b m' sv n h1 (by omega) w1 hc' (by omega)
  have GO : Hid (∀ (n : Int) (m' : Nat) (w1 : World), 1 ≤ n → n ≤ 50 → Cur B b m' sv w1 → m' ≤ 9000000 → Calls Tryd.prog 95 #[ptr b, .int .i64 n] w1 fun e w' => ∃ x : Bool, e = .returned (.bool x) ∧ Only b w1 w' ∧ Cur B b (m' + 2) sv w') := fun n m' w1 h1 h2 hc' hm' => one_any B b m' sv n h1 (by omega) w1 hc' (by omega)
  have GA : Hid (∀ (l : List Int) (lo hi : Int) (m' : Nat) (w1 : World), 1 ≤ l.length → l.length ≤ 20 → (∀ x ∈ l, lo ≤ x ∧ x ≤ hi) → Cur B b m' sv w1 → m' ≤ 9000000 → Calls Tryd.prog 132 #[ptr b, .slice (some ⟨w1.heap.size, 0, none⟩) l.length l.length] (w1.alloc (.cells (nums l) 3)) fun e w' => ∃ x : Int, (lo ≤ x ∧ x ≤ hi) ∧ e = .returned (.int .i64 x) ∧ Only b w1 w' ∧ Cur B b (m' + 2) sv w') := by
    intro l lo hi m' w1 h1 h2 h3 hc' hm'
    have hlies := hc'.lies
    refine (among_any B b m' sv w1.heap.size l.length l.length lo hi h1 (by omega) _ (hc'.alloc _) (by omega) (by omega) (by simp) (nums_at h3 w1)).mono ?_
    rintro e w' ⟨x, hx, he, ho, hc2⟩
    exact ⟨x, hx, he, ((Only.refl b w1).alloc _).trans ho, hc2⟩
  have GY : Hid (∀ (y : Int) (m' : Nat) (w1 : World), 0 ≤ y → y < 2 → Cur B b m' sv w1 → m' + 40 ≤ 5000000 → Calls Tryd.prog 134 #[ptr b, .int .i64 k, .int .i64 vars, .int .i64 y] w1 fun e w' => ∃ v t, e = .returned v ∧ Drawn B b (m' + 40) sv 3 w1 w' v t) := by
    intro y m' w1 h0 h2 hc' hm'
    rcases (show y = 0 ∨ y = 1 by omega) with rfl | rfl
    · refine (num0 B b m' sv k vars w1 hk1 hk hv1 hv5 hc' (by omega)).mono ?_
      rintro e w' ⟨v, t, he, hd⟩
      exact ⟨v, t, he, hd.more (by omega) (by omega)⟩
    · exact num1 B b m' sv k vars w1 hk1 hk hv1 hv5 hc' (by omega)
  have HC0 : Hid _ := hc
  have HBW : Hid (b < w.heap.size) := hc.lies
  obtain ⟨i0, hi, hz0, hz1, hz2⟩ := info_parts infoNode
  have g1 := GO.out 20 m w (by omega) (by omega) hc (by omega)
  clear hc
  go_enter Tryd.func133, Tryd.ntmps133
  go_wp2_with fail
  refine g1.mono ?_
  rintro e w0 ⟨x0, rfl, ho0, hc0⟩
  clear g1
  have HO0 : Hid (Only b w w0) := ho0
  have HC1 : Hid _ := hc0
  clear ho0 hc0
  cases x0 with
  | true =>
    have g3 := GP.out 2 _ w0 (by omega) (by omega) HC1.out (by omega)
    go_wp2_with fail
    refine g3.mono ?_
    rintro e w2 ⟨y, ⟨hy0, hy1⟩, rfl, ho2, hc2⟩
    have HD : Hid (Drawn B b _ sv 1 w _ _ _) := drawn_one (B := B) (b := b) (w := w) 20 y (by omega) (by omega) hy0 (by omega) (HO0.out.trans ho2) hc2
    clear g3 ho2 hc2
    go_wp2_with fail
    go_ret
    exact ⟨_, _, rfl, Drawn.more HD.out (by omega) (by omega)⟩
  | false =>
    have HCN : Hid _ := HC1.out
    clear HC1
    have g3 := GY.out 1 _ w0 (by omega) (by omega) HCN.out (by omega)
    go_wp2_with fail
    refine g3.mono ?_
    rintro e w2 ⟨v2, t2, rfl, hd2⟩
    have gp := GP.out 2 _ w2 (by omega) (by omega) hd2.cur (by omega)
    have HD2a : Hid (Drawn B b _ sv 3 w w2 v2 t2) := hd2.since HO0.out
    clear g3 hd2 HCN
    go_wp2_with fail
    refine gp.mono ?_
    rintro e w2b ⟨y, ⟨hy0, hy1⟩, rfl, ho2b, hc2b⟩
    have HD2 : Hid (Drawn B b _ sv 3 w w2b v2 t2) := HD2a.out.only HBW.out ho2b hc2b
    have g4 := GY.out y _ w2b hy0 hy1 hc2b (by omega)
    clear gp HD2a ho2b hc2b
    go_wp2_with fail
    refine g4.mono ?_
    rintro e w3 ⟨v3, t3, rfl, hd3⟩
    have hdx := HD2.out.only HBW.out hd3.2.2.2.2.1 hd3.cur
    have HDX : Hid (Drawn B b _ sv _ w w3 v2 t2) := hdx
    have own1 : w3.ownsRow w.heap.size 112 2 v2 t2.length (flat t2) := hdx.1
    have hl2 : t2.length ≤ 1000 := by have := hdx.2.2.2.1; omega
    have hl3 : t3.length ≤ 1000 := by have := hd3.2.2.2.1; omega
    have HS2 : Hid (w.heap.size ≤ w3.heap.size) := hdx.2.2.2.2.1.size
    have HK3 : Hid (∀ x ∈ t3, NdOk x) := hd3.2.1
    have HL3 : Hid (t3.length ≤ 3) := hd3.2.2.2.1
    have hn3 : NodesAt w3 v3 t3 := nodes_of_own hd3.2.1 (by omega) hd3.1
    rcases hn3.2.2 with ⟨h, _⟩ | ⟨pb, po, pc, rfl, hplt, hpc⟩
    · have := hd3.2.2.1
      rw [h] at this
      simp at this
    have cells6 : ∀ (j : Nat) (x : Value), (flat t3)[j]? = some x → w3.cell? ((⟨pb, po, none⟩ : Addr).add j) = some x := flat_from hpc
    clear g4 hd3 hdx hn3 hpc HD2
    go_wp2_with (at_builtin; refine wpList_append_own _ rfl _ _ 24 rfl w.heap.size 112 i0 (.agg #[.int .i64 0, .int .u64 0]) 2 16 Tryd.underlying24 hi hz0 hz1 hz2 rfl (by decide) _ _ _ rfl own1 ⟨pb, po, none⟩ t3.length pc (flat t3) rfl (flat_len t3) cells6 (flat_one t3) (by unfold maxLen; omega) (by omega) HS2.out ?_)
    intro v7 w7 own7 grow7 _
    have hd7 := HDX.out.append HBW.out (ys := t3) own7 grow7 HK3.out
    have HD7 : Hid (Drawn B b _ sv _ w w7 v7 (t2 ++ t3)) := hd7
    have HLX : Hid (3 + t3.length ≤ 6) := (by have := HL3.out; omega : 3 + t3.length ≤ 6)
    have g5 := GA.out [14, 15, 15, 16] 14 16 _ w7 (by simp) (by simp) (by decide) hd7.cur (by omega)
    clear own1 own7 grow7 cells6 hd7 HDX
    generalize t2 ++ t3 = R at *
    go_wp2_with fail
    refine g5.mono ?_
    rintro e w8 ⟨op8, hop8, rfl, ho8, hc8⟩
    have HD8 : Hid (Drawn B b _ sv _ w w8 v7 R) := HD7.out.only HBW.out ho8 hc8
    clear g5 ho8 hc8 HD7
    have hdy := HD8.out.alloc (.cells #[.int .i64 op8, .int .u64 0] 112)
    have HDY : Hid (Drawn B b _ sv _ w (w8.alloc (.cells #[.int .i64 op8, .int .u64 0] 112)) v7 _) := hdy
    have own2 : (w8.alloc (.cells #[.int .i64 op8, .int .u64 0] 112)).ownsRow w.heap.size 112 2 v7 _ (flat _) := hdy.1
    have hlr := hdy.2.2.2.1
    have cellsA := one_cells2 w8 op8 0
    have HSA : Hid (w.heap.size ≤ (w8.alloc (.cells #[.int .i64 op8, .int .u64 0] 112)).heap.size) := hdy.2.2.2.2.1.size
    clear hdy
    go_wp2_with (at_builtin; refine wpList_append_own _ rfl _ _ 24 rfl w.heap.size 112 i0 (.agg #[.int .i64 0, .int .u64 0]) 2 16 Tryd.underlying24 hi hz0 hz1 hz2 rfl (by decide) _ _ _ rfl own2 ⟨w8.heap.size, 0, none⟩ 1 1 [.int .i64 op8, .int .u64 0] rfl rfl cellsA (flat_one [(op8, 0)]) (by unfold maxLen; omega) (by omega) HSA.out ?_)
    intro vb wb ownb growb _
    have HDB : Hid (Drawn B b _ sv _ w wb vb _) := HDY.out.append HBW.out (ys := [(op8, 0)]) ownb growb (one_ok (by omega) (by omega) (by omega) (by omega))
    clear own2 ownb growb cellsA
    go_wp2_with fail
    go_ret
    exact ⟨_, _, rfl, Drawn.more HDB.out (by omega) (by have := HLX.out; simp only [List.length_singleton]; omega)⟩
set_option maxRecDepth 100000 in
set_option maxHeartbeats 8000000 in
theorem asked_step (d M L : Nat) (hd : d ≤ 100) (hM : M ≤ 1000) (hM1 : 100 ≤ M) (hL : L ≤ 1000) (hL1 : 7 ≤ L) (ih : AskP d M L) : AskP (d + 1) (2 * M + 20) (2 * L + 1) := by
  intro B b m sv k vars w hk1 hk hv1 hv5 hc hm
  have GP : Hid (∀ (n : Int) (m' : Nat) (w1 : World), 1 ≤ n → n ≤ 50 → Cur B b m' sv w1 → m' ≤ 9000000 → Calls Tryd.prog 94 #[ptr b, .int .i64 n] w1 fun e w' => ∃ x : Int, (0 ≤ x ∧ x < n) ∧ e = .returned (.int .i64 x) ∧ Only b w1 w' ∧ Cur B b (m' + 2) sv w') := fun n m' w1 h1 h2 hc' hm' => pick_any B b m' sv n h1 (by omega) w1 hc' (by omega)
  have GO : Hid (∀ (n : Int) (m' : Nat) (w1 : World), 1 ≤ n → n ≤ 50 → Cur B b m' sv w1 → m' ≤ 9000000 → Calls Tryd.prog 95 #[ptr b, .int .i64 n] w1 fun e w' => ∃ x : Bool, e = .returned (.bool x) ∧ Only b w1 w' ∧ Cur B b (m' + 2) sv w') := fun n m' w1 h1 h2 hc' hm' => one_any B b m' sv n h1 (by omega) w1 hc' (by omega)
  have GA : Hid (∀ (l : List Int) (lo hi : Int) (m' : Nat) (w1 : World), 1 ≤ l.length → l.length ≤ 20 → (∀ x ∈ l, lo ≤ x ∧ x ≤ hi) → Cur B b m' sv w1 → m' ≤ 9000000 → Calls Tryd.prog 132 #[ptr b, .slice (some ⟨w1.heap.size, 0, none⟩) l.length l.length] (w1.alloc (.cells (nums l) 3)) fun e w' => ∃ x : Int, (lo ≤ x ∧ x ≤ hi) ∧ e = .returned (.int .i64 x) ∧ Only b w1 w' ∧ Cur B b (m' + 2) sv w') := by
    intro l lo hi m' w1 h1 h2 h3 hc' hm'
    have hlies := hc'.lies
    refine (among_any B b m' sv w1.heap.size l.length l.length lo hi h1 (by omega) _ (hc'.alloc _) (by omega) (by omega) (by simp) (nums_at h3 w1)).mono ?_
    rintro e w' ⟨x, hx, he, ho, hc2⟩
    exact ⟨x, hx, he, ((Only.refl b w1).alloc _).trans ho, hc2⟩
  have GY : Hid (∀ (y : Int) (m' : Nat) (w1 : World), 0 ≤ y → y < 2 → Cur B b m' sv w1 → m' + 40 ≤ 5000000 → Calls Tryd.prog 134 #[ptr b, .int .i64 k, .int .i64 vars, .int .i64 y] w1 fun e w' => ∃ v t, e = .returned v ∧ Drawn B b (m' + 40) sv 3 w1 w' v t) := by
    intro y m' w1 h0 h2 hc' hm'
    rcases (show y = 0 ∨ y = 1 by omega) with rfl | rfl
    · refine (num0 B b m' sv k vars w1 hk1 hk hv1 hv5 hc' (by omega)).mono ?_
      rintro e w' ⟨v, t, he, hd⟩
      exact ⟨v, t, he, hd.more (by omega) (by omega)⟩
    · exact num1 B b m' sv k vars w1 hk1 hk hv1 hv5 hc' (by omega)
  have HC0 : Hid _ := hc
  have HBW : Hid (b < w.heap.size) := hc.lies
  obtain ⟨i0, hi, hz0, hz1, hz2⟩ := info_parts infoNode
  have GI : Hid (∀ (m' : Nat) (w1 : World), Cur B b m' sv w1 → m' + M ≤ 5000000 → Calls Tryd.prog 133 #[ptr b, .int .i64 k, .int .i64 vars, .int .i64 (d : Int)] w1 fun e w' => ∃ v t, e = .returned v ∧ Drawn B b (m' + M) sv L w1 w' v t) := fun m' w1 hc' hm' => ih B b m' sv k vars w1 hk1 hk hv1 hv5 hc' hm'
  have hd0 : (0 : Int) < ((d + 1 : Nat) : Int) := by omega
  have hd1 : ((d + 1 : Nat) : Int) - 1 = (d : Int) := by omega
  generalize ((d + 1 : Nat) : Int) = dd at *
  clear ih
  have g1 := GO.out 20 m w (by omega) (by omega) hc (by omega)
  clear hc
  go_enter Tryd.func133, Tryd.ntmps133
  go_wp2_with fail
  refine g1.mono ?_
  rintro e w0 ⟨x0, rfl, ho0, hc0⟩
  clear g1
  have HO0 : Hid (Only b w w0) := ho0
  have HC1 : Hid _ := hc0
  clear ho0 hc0
  cases x0 with
  | true =>
    have g3 := GP.out 2 _ w0 (by omega) (by omega) HC1.out (by omega)
    go_wp2_with fail
    refine g3.mono ?_
    rintro e w2 ⟨y, ⟨hy0, hy1⟩, rfl, ho2, hc2⟩
    have HD : Hid (Drawn B b _ sv 1 w _ _ _) := drawn_one (B := B) (b := b) (w := w) 20 y (by omega) (by omega) hy0 (by omega) (HO0.out.trans ho2) hc2
    clear g3 ho2 hc2
    go_wp2_with fail
    go_ret
    exact ⟨_, _, rfl, Drawn.more HD.out (by omega) (by omega)⟩
  | false =>
    have g2 := GO.out 4 _ w0 (by omega) (by omega) HC1.out (by omega)
    go_wp2_with fail
    refine g2.mono ?_
    rintro e w1 ⟨x1, rfl, ho1, hc1⟩
    clear g2
    have HO1 : Hid (Only b w w1) := HO0.out.trans ho1
    have HC2 : Hid _ := hc1
    clear ho1 hc1 HC1 HO0
    cases x1 with
    | true =>
      have g3 := GI.out _ w1 HC2.out (by omega)
      go_wp2_with fail
      refine g3.mono ?_
      rintro e w2 ⟨v2, t2, rfl, hd2⟩
      have HD2 : Hid (Drawn B b _ sv L w w2 v2 t2) := hd2.since HO1.out
      have HLX : Hid (L ≤ 2 * L) := (by omega : L ≤ 2 * L)
      clear g3 hd2
      have hdy := HD2.out.alloc (.cells #[.int .i64 19, .int .u64 0] 112)
      have HDY : Hid (Drawn B b _ sv _ w (w2.alloc (.cells #[.int .i64 19, .int .u64 0] 112)) v2 _) := hdy
      have own2 : (w2.alloc (.cells #[.int .i64 19, .int .u64 0] 112)).ownsRow w.heap.size 112 2 v2 _ (flat _) := hdy.1
      have hlr := hdy.2.2.2.1
      have cellsA := one_cells2 w2 19 0
      have HSA : Hid (w.heap.size ≤ (w2.alloc (.cells #[.int .i64 19, .int .u64 0] 112)).heap.size) := hdy.2.2.2.2.1.size
      clear hdy
      go_wp2_with (at_builtin; refine wpList_append_own _ rfl _ _ 24 rfl w.heap.size 112 i0 (.agg #[.int .i64 0, .int .u64 0]) 2 16 Tryd.underlying24 hi hz0 hz1 hz2 rfl (by decide) _ _ _ rfl own2 ⟨w2.heap.size, 0, none⟩ 1 1 [.int .i64 19, .int .u64 0] rfl rfl cellsA (flat_one [(19, 0)]) (by unfold maxLen; omega) (by omega) HSA.out ?_)
      intro vb wb ownb growb _
      have HDB : Hid (Drawn B b _ sv _ w wb vb _) := HDY.out.append HBW.out (ys := [(19, 0)]) ownb growb (one_ok (by omega) (by omega) (by omega) (by omega))
      clear own2 ownb growb cellsA
      go_wp2_with fail
      go_ret
      exact ⟨_, _, rfl, Drawn.more HDB.out (by omega) (by have := HLX.out; simp only [List.length_singleton]; omega)⟩
    | false =>
      have g2 := GO.out 2 _ w1 (by omega) (by omega) HC2.out (by omega)
      go_wp2_with fail
      refine g2.mono ?_
      rintro e w1' ⟨x2, rfl, ho1, hc1⟩
      clear g2
      have HO2 : Hid (Only b w w1') := HO1.out.trans ho1
      have HCN : Hid _ := hc1
      clear ho1 hc1 HC2 HO1
      cases x2 with
      | true =>
        have g3 := GI.out _ w1' HCN.out (by omega)
        go_wp2_with fail
        refine g3.mono ?_
        rintro e w2 ⟨v2, t2, rfl, hd2⟩
        have g4 := GI.out _ w2 hd2.cur (by omega)
        have HD2 : Hid (Drawn B b _ sv L w w2 v2 t2) := hd2.since HO2.out
        clear g3 hd2 HCN
        go_wp2_with fail
        refine g4.mono ?_
        rintro e w3 ⟨v3, t3, rfl, hd3⟩
        have hdx := HD2.out.only HBW.out hd3.2.2.2.2.1 hd3.cur
        have HDX : Hid (Drawn B b _ sv _ w w3 v2 t2) := hdx
        have own1 : w3.ownsRow w.heap.size 112 2 v2 t2.length (flat t2) := hdx.1
        have hl2 : t2.length ≤ 1000 := by have := hdx.2.2.2.1; omega
        have hl3 : t3.length ≤ 1000 := by have := hd3.2.2.2.1; omega
        have HS2 : Hid (w.heap.size ≤ w3.heap.size) := hdx.2.2.2.2.1.size
        have HK3 : Hid (∀ x ∈ t3, NdOk x) := hd3.2.1
        have HL3 : Hid (t3.length ≤ L) := hd3.2.2.2.1
        have hn3 : NodesAt w3 v3 t3 := nodes_of_own hd3.2.1 (by omega) hd3.1
        rcases hn3.2.2 with ⟨h, _⟩ | ⟨pb, po, pc, rfl, hplt, hpc⟩
        · have := hd3.2.2.1
          rw [h] at this
          simp at this
        have cells6 : ∀ (j : Nat) (x : Value), (flat t3)[j]? = some x → w3.cell? ((⟨pb, po, none⟩ : Addr).add j) = some x := flat_from hpc
        clear g4 hd3 hdx hn3 hpc HD2
        go_wp2_with (at_builtin; refine wpList_append_own _ rfl _ _ 24 rfl w.heap.size 112 i0 (.agg #[.int .i64 0, .int .u64 0]) 2 16 Tryd.underlying24 hi hz0 hz1 hz2 rfl (by decide) _ _ _ rfl own1 ⟨pb, po, none⟩ t3.length pc (flat t3) rfl (flat_len t3) cells6 (flat_one t3) (by unfold maxLen; omega) (by omega) HS2.out ?_)
        intro v7 w7 own7 grow7 _
        have hd7 := HDX.out.append HBW.out (ys := t3) own7 grow7 HK3.out
        have HD7 : Hid (Drawn B b _ sv _ w w7 v7 (t2 ++ t3)) := hd7
        have HLX : Hid (L + t3.length ≤ 2 * L) := (by have := HL3.out; omega : L + t3.length ≤ 2 * L)
        have g5 := GA.out [17, 18] 17 18 _ w7 (by simp) (by simp) (by decide) hd7.cur (by omega)
        clear own1 own7 grow7 cells6 hd7 HDX
        generalize t2 ++ t3 = R at *
        go_wp2_with fail
        refine g5.mono ?_
        rintro e w8 ⟨op8, hop8, rfl, ho8, hc8⟩
        have HD8 : Hid (Drawn B b _ sv _ w w8 v7 R) := HD7.out.only HBW.out ho8 hc8
        clear g5 ho8 hc8 HD7
        have hdy := HD8.out.alloc (.cells #[.int .i64 op8, .int .u64 0] 112)
        have HDY : Hid (Drawn B b _ sv _ w (w8.alloc (.cells #[.int .i64 op8, .int .u64 0] 112)) v7 _) := hdy
        have own2 : (w8.alloc (.cells #[.int .i64 op8, .int .u64 0] 112)).ownsRow w.heap.size 112 2 v7 _ (flat _) := hdy.1
        have hlr := hdy.2.2.2.1
        have cellsA := one_cells2 w8 op8 0
        have HSA : Hid (w.heap.size ≤ (w8.alloc (.cells #[.int .i64 op8, .int .u64 0] 112)).heap.size) := hdy.2.2.2.2.1.size
        clear hdy
        go_wp2_with (at_builtin; refine wpList_append_own _ rfl _ _ 24 rfl w.heap.size 112 i0 (.agg #[.int .i64 0, .int .u64 0]) 2 16 Tryd.underlying24 hi hz0 hz1 hz2 rfl (by decide) _ _ _ rfl own2 ⟨w8.heap.size, 0, none⟩ 1 1 [.int .i64 op8, .int .u64 0] rfl rfl cellsA (flat_one [(op8, 0)]) (by unfold maxLen; omega) (by omega) HSA.out ?_)
        intro vb wb ownb growb _
        have HDB : Hid (Drawn B b _ sv _ w wb vb _) := HDY.out.append HBW.out (ys := [(op8, 0)]) ownb growb (one_ok (by omega) (by omega) (by omega) (by omega))
        clear own2 ownb growb cellsA
        go_wp2_with fail
        go_ret
        exact ⟨_, _, rfl, Drawn.more HDB.out (by omega) (by have := HLX.out; simp only [List.length_singleton]; omega)⟩
      | false =>
        have g3 := GY.out 1 _ w1' (by omega) (by omega) HCN.out (by omega)
        go_wp2_with fail
        refine g3.mono ?_
        rintro e w2 ⟨v2, t2, rfl, hd2⟩
        have gp := GP.out 2 _ w2 (by omega) (by omega) hd2.cur (by omega)
        have HD2a : Hid (Drawn B b _ sv 3 w w2 v2 t2) := hd2.since HO2.out
        clear g3 hd2 HCN
        go_wp2_with fail
        refine gp.mono ?_
        rintro e w2b ⟨y, ⟨hy0, hy1⟩, rfl, ho2b, hc2b⟩
        have HD2 : Hid (Drawn B b _ sv 3 w w2b v2 t2) := HD2a.out.only HBW.out ho2b hc2b
        have g4 := GY.out y _ w2b hy0 hy1 hc2b (by omega)
        clear gp HD2a ho2b hc2b
        go_wp2_with fail
        refine g4.mono ?_
        rintro e w3 ⟨v3, t3, rfl, hd3⟩
        have hdx := HD2.out.only HBW.out hd3.2.2.2.2.1 hd3.cur
        have HDX : Hid (Drawn B b _ sv _ w w3 v2 t2) := hdx
        have own1 : w3.ownsRow w.heap.size 112 2 v2 t2.length (flat t2) := hdx.1
        have hl2 : t2.length ≤ 1000 := by have := hdx.2.2.2.1; omega
        have hl3 : t3.length ≤ 1000 := by have := hd3.2.2.2.1; omega
        have HS2 : Hid (w.heap.size ≤ w3.heap.size) := hdx.2.2.2.2.1.size
        have HK3 : Hid (∀ x ∈ t3, NdOk x) := hd3.2.1
        have HL3 : Hid (t3.length ≤ 3) := hd3.2.2.2.1
        have hn3 : NodesAt w3 v3 t3 := nodes_of_own hd3.2.1 (by omega) hd3.1
        rcases hn3.2.2 with ⟨h, _⟩ | ⟨pb, po, pc, rfl, hplt, hpc⟩
        · have := hd3.2.2.1
          rw [h] at this
          simp at this
        have cells6 : ∀ (j : Nat) (x : Value), (flat t3)[j]? = some x → w3.cell? ((⟨pb, po, none⟩ : Addr).add j) = some x := flat_from hpc
        clear g4 hd3 hdx hn3 hpc HD2
        go_wp2_with (at_builtin; refine wpList_append_own _ rfl _ _ 24 rfl w.heap.size 112 i0 (.agg #[.int .i64 0, .int .u64 0]) 2 16 Tryd.underlying24 hi hz0 hz1 hz2 rfl (by decide) _ _ _ rfl own1 ⟨pb, po, none⟩ t3.length pc (flat t3) rfl (flat_len t3) cells6 (flat_one t3) (by unfold maxLen; omega) (by omega) HS2.out ?_)
        intro v7 w7 own7 grow7 _
        have hd7 := HDX.out.append HBW.out (ys := t3) own7 grow7 HK3.out
        have HD7 : Hid (Drawn B b _ sv _ w w7 v7 (t2 ++ t3)) := hd7
        have HLX : Hid (3 + t3.length ≤ 6) := (by have := HL3.out; omega : 3 + t3.length ≤ 6)
        have g5 := GA.out [14, 15, 15, 16] 14 16 _ w7 (by simp) (by simp) (by decide) hd7.cur (by omega)
        clear own1 own7 grow7 cells6 hd7 HDX
        generalize t2 ++ t3 = R at *
        go_wp2_with fail
        refine g5.mono ?_
        rintro e w8 ⟨op8, hop8, rfl, ho8, hc8⟩
        have HD8 : Hid (Drawn B b _ sv _ w w8 v7 R) := HD7.out.only HBW.out ho8 hc8
        clear g5 ho8 hc8 HD7
        have hdy := HD8.out.alloc (.cells #[.int .i64 op8, .int .u64 0] 112)
        have HDY : Hid (Drawn B b _ sv _ w (w8.alloc (.cells #[.int .i64 op8, .int .u64 0] 112)) v7 _) := hdy
        have own2 : (w8.alloc (.cells #[.int .i64 op8, .int .u64 0] 112)).ownsRow w.heap.size 112 2 v7 _ (flat _) := hdy.1
        have hlr := hdy.2.2.2.1
        have cellsA := one_cells2 w8 op8 0
        have HSA : Hid (w.heap.size ≤ (w8.alloc (.cells #[.int .i64 op8, .int .u64 0] 112)).heap.size) := hdy.2.2.2.2.1.size
        clear hdy
        go_wp2_with (at_builtin; refine wpList_append_own _ rfl _ _ 24 rfl w.heap.size 112 i0 (.agg #[.int .i64 0, .int .u64 0]) 2 16 Tryd.underlying24 hi hz0 hz1 hz2 rfl (by decide) _ _ _ rfl own2 ⟨w8.heap.size, 0, none⟩ 1 1 [.int .i64 op8, .int .u64 0] rfl rfl cellsA (flat_one [(op8, 0)]) (by unfold maxLen; omega) (by omega) HSA.out ?_)
        intro vb wb ownb growb _
        have HDB : Hid (Drawn B b _ sv _ w wb vb _) := HDY.out.append HBW.out (ys := [(op8, 0)]) ownb growb (one_ok (by omega) (by omega) (by omega) (by omega))
        clear own2 ownb growb cellsA
        go_wp2_with fail
        go_ret
        exact ⟨_, _, rfl, Drawn.more HDB.out (by omega) (by have := HLX.out; simp only [List.length_singleton]; omega)⟩
theorem ask0 : AskP 0 100 7 := asked_zero
theorem ask1 : AskP 1 220 15 := asked_step 0 100 7 (by omega) (by omega) (by omega) (by omega) (by omega) ask0
theorem ask2 : AskP 2 460 31 := asked_step 1 220 15 (by omega) (by omega) (by omega) (by omega) (by omega) ask1
end Go.Proofs.YtjbfembblgkakaaDoor
