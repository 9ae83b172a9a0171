/-
  ConeOf of the model and of the program.
-/
import Derived.Test.YtnagaanagcmdgaaSCone
namespace Go.Proofs.Ytnagaanagcmdgaa
open Go Go.RowKit
open M
set_option linter.unusedVariables false

/-- what ConeOf tells -/
def coneB (c : Ci) (x : Int) : Bool := goodC c && inB (c.1 + c.2.1.length) x
def coneL (c : Ci) (x : Int) : List Int := if coneB c x = true then upF (coneF c [x]) (coneF c [x]).length else []
theorem coneL_len (c : Ci) (x : Int) : (coneL c x).length ≤ 1048576 := by
  unfold coneL
  split
  · rename_i h
    unfold coneB at h
    simp only [Bool.and_eq_true] at h
    obtain ⟨h0, h1, h2, _⟩ := goodC_ins h.1
    have := upF_len (coneF c [x]) (coneF c [x]).length
    rw [coneF_len] at *
    omega
  · simp
theorem ints_lit (w : World) (x : Int) : IntsAt (w.alloc (.cells #[.int .i64 x] 3)) (.slice (some ⟨w.heap.size, 0, none⟩) 1 1) [x] := ints_of_own (by simp) (own_ints_one w x)
set_option maxRecDepth 100000 in
set_option maxHeartbeats 4000000 in
theorem sConeOf_any (v : Value) (c : Ci) (x : Int) (hfx : Fit x) (w : World) (h : AtC w v c) :
    Calls Try.prog 39 #[v, .int .i64 x] w fun e w' => ∃ r, e = .returned (.tuple #[r, .bool (coneB c x)]) ∧ OwnIS w' w.heap.size w'.heap.size r (coneL c x) ∧ Below w.heap.size w w' := by
  obtain ⟨ga, gn, gc, oa, on, oc, hv⟩ := h.at.shape
  have hgn : gn = c.2.1.length := by
    obtain ⟨_, g, o, hv', h1, _⟩ := h
    obtain ⟨a, cap, hg⟩ := h1.shape
    rw [hv] at hv'
    rw [hg] at hv'
    simp at hv'
    exact hv'.1.2.1
  subst hv hgn
  have x0 := box3_alloc w 27 (.int .i64 c.1) (.slice ga c.2.1.length gc) (.slice oa on oc)
  have hb0 : Below w.heap.size w (w.alloc (.cells #[.int .i64 c.1, .slice ga c.2.1.length gc, .slice oa on oc] 27)) := (Below.refl _ _).alloc (Nat.le_refl _) _
  have g1 := sGood_any _ c _ (h.below hb0).at
  have hsz : (w.alloc (.cells #[.int .i64 c.1, .slice ga c.2.1.length gc, .slice oa on oc] 27)).heap.size = w.heap.size + 1 := by simp only [World.size_alloc]
  have hlt0 := x0.lt
  obtain ⟨hf0, hf1⟩ := hfx
  cases hgd : goodC c with
  | false =>
    have e1 : coneB c x = false := by unfold coneB; rw [hgd]; rfl
    have e2 : coneL c x = [] := by unfold coneL; rw [e1]; rfl
    rw [e1, e2]
    rw [hgd] at g1
    go_enter Try.func39, Try.ntmps39
    go_wp2_with fail
    refine g1.mono ?_
    rintro e w1 ⟨rfl, hs⟩
    have HB : Hid (Below w.heap.size w w1) := Below.step hb0 hb0.size hs
    clear g1 h
    go_wp2_with fail
    go_ret2
    exact ⟨_, rfl, rowIn_of (World.ownsRow_nil _ _ _ _), HB.out⟩
  | true =>
    rw [hgd] at g1
    obtain ⟨hI0, hI1, hG, hO, _, _⟩ := goodC_ins hgd
    have GC : Hid (∀ (w1 : World), Below w.heap.size w w1 → 0 ≤ x ∧ x < c.1 + c.2.1.length → Calls Try.prog 82 #[.agg #[.int .i64 c.1, .slice ga c.2.1.length gc, .slice oa on oc], .slice (some ⟨w1.heap.size, 0, none⟩) 1 1] (w1.alloc (.cells #[.int .i64 x] 3)) fun e w' => ∃ r, e = .returned r ∧ VarsOwn w' (w1.heap.size + 1) r (upF (coneF c [x]) (coneF c [x]).length) ∧ Below (w1.heap.size + 1) (w1.alloc (.cells #[.int .i64 x] 3)) w') := fun w1 hb hx => by
      have g := l4Cone_any (.agg #[.int .i64 c.1, .slice ga c.2.1.length gc, .slice oa on oc]) _ c [x] hgd (by intro y hy; simp at hy; subst hy; exact hx) (w1.alloc (.cells #[.int .i64 x] 3)) (h.at.below (hb.alloc hb.size _)) (ints_lit w1 x)
      rw [World.size_alloc] at g
      exact g
    have GW : Hid (∀ w1 : World, Calls Try.prog 59 #[.agg #[.int .i64 c.1, .slice ga c.2.1.length gc, .slice oa on oc]] w1 _) := fun w1 => l4Wires_raw c.1 ga c.2.1.length gc (.slice oa on oc) (by omega) (by omega) (by omega) w1
    obtain ⟨n0, hn0⟩ : ∃ n0 : Int, c.1 + (c.2.1.length : Int) = n0 := ⟨_, rfl⟩
    have hn1 : 0 ≤ n0 := by omega
    have hn2 : n0 ≤ 1000 := by omega
    have e1 : coneB c x = decide (0 ≤ x ∧ x < n0) := by unfold coneB; rw [hgd, hn0]; rfl
    by_cases hx : 0 ≤ x ∧ x < n0
    · rw [decide_eq_true hx] at e1
      have e2 : coneL c x = upF (coneF c [x]) (coneF c [x]).length := by unfold coneL; rw [e1]; rfl
      rw [e1, e2]
      have GA : Hid (∀ w1 : World, Calls Try.prog 66 #[.int .i64 x, .int .i64 0, .int .i64 (n0 - 1)] w1 fun e w' => e = .returned (.bool true) ∧ w' = w1) := fun w1 => by
        have g := l1In_any x 0 (n0 - 1) w1
        rw [decide_eq_true (by omega)] at g
        exact g
      rw [hn0] at GC GW
      generalize hcl : upF (coneF c [x]) (coneF c [x]).length = cl at *
      clear e1 e2 hcl h
      go_enter Try.func39, Try.ntmps39
      go_wp2_with fail
      refine g1.mono ?_
      rintro e w1 ⟨rfl, hs⟩
      have hb1 := Below.step hb0 hb0.size hs
      have x1 := x0.below hs (by omega)
      obtain ⟨c0, c1, c2⟩ := x1.cells
      have hh := x1.heap
      have hlt1 := x1.lt
      clear g1
      go_wp2_with fail
      refine (GW.out _).mono ?_
      rintro e w2 ⟨rfl, hw2⟩
      have hb2 : Below w.heap.size w w2 := by
        rw [hw2]
        exact hb1.alloc hb1.size _
      have x2 : Box3 w2 w.heap.size 27 (.int .i64 c.1) (.slice ga c.2.1.length gc) (.slice oa on oc) := by
        rw [hw2]
        exact x1.alloc _
      clear hw2 c0 c1 c2 hh hlt1 x1 hb1
      obtain ⟨c0, c1, c2⟩ := x2.cells
      have hh := x2.heap
      have hlt1 := x2.lt
      have g3 := GA.out w2
      go_wp2_with fail
      refine g3.mono ?_
      rintro e w3 ⟨rfl, rfl⟩
      have g4 := GC.out w3 hb2 hx
      have hb4 : Below w.heap.size w (w3.alloc (.cells #[.int .i64 x] 3)) := hb2.alloc hb2.size _
      have hs2 := hb2.size
      have x4 := x2.alloc (.cells #[.int .i64 x] 3)
      obtain ⟨k0, k1, k2⟩ := x4.cells
      clear g3
      go_wp2_with fail
      refine g4.mono ?_
      rintro e w4 ⟨r, rfl, ho, hs4⟩
      have HO : Hid (OwnIS w4 w.heap.size w4.heap.size r cl) := rowIn_of (own_base ho.1 (by omega))
      have HB : Hid (Below w.heap.size w w4) := hb4.trans (hs4.mono (by omega))
      clear g4 ho hs4 hb4
      go_wp2_with fail
      go_ret2
      exact ⟨_, rfl, HO.out, HB.out⟩
    · rw [decide_eq_false hx] at e1
      have e2 : coneL c x = [] := by unfold coneL; rw [e1]; rfl
      rw [e1, e2]
      have GA : Hid (∀ w1 : World, Calls Try.prog 66 #[.int .i64 x, .int .i64 0, .int .i64 (n0 - 1)] w1 fun e w' => e = .returned (.bool false) ∧ w' = w1) := fun w1 => by
        have g := l1In_any x 0 (n0 - 1) w1
        rw [decide_eq_false (by omega)] at g
        exact g
      rw [hn0] at GW
      clear e1 e2 h GC
      go_enter Try.func39, Try.ntmps39
      go_wp2_with fail
      refine g1.mono ?_
      rintro e w1 ⟨rfl, hs⟩
      have hb1 := Below.step hb0 hb0.size hs
      have x1 := x0.below hs (by omega)
      obtain ⟨c0, c1, c2⟩ := x1.cells
      have hh := x1.heap
      have hlt1 := x1.lt
      clear g1
      go_wp2_with fail
      refine (GW.out _).mono ?_
      rintro e w2 ⟨rfl, hw2⟩
      have HB2 : Hid (Below w.heap.size w w2) := by
        show Below w.heap.size w w2
        rw [hw2]
        exact hb1.alloc hb1.size _
      clear hw2 c0 c1 c2 hh hlt1 x1 hb1
      have g3 := GA.out w2
      go_wp2_with fail
      refine g3.mono ?_
      rintro e w3 ⟨rfl, rfl⟩
      clear g3
      go_wp2_with fail
      go_ret2
      exact ⟨_, rfl, rowIn_of (World.ownsRow_nil _ _ _ _), HB2.out⟩
set_option maxRecDepth 100000 in
set_option maxHeartbeats 4000000 in
theorem iConeOf_any (v : Value) (c : Ci) (x : Int) (hfx : Fit x) (w : World) (h : AtC w v c) :
    Calls Try.prog 38 #[v, .int .i64 x] w fun e w' => ∃ r, e = .returned (.tuple #[r, .bool (coneB c x)]) ∧ OwnIS w' w.heap.size w'.heap.size r (coneL c x) ∧ Below w.heap.size w w' := by
  obtain ⟨ga, gn, gc, oa, on, oc, hv⟩ := h.at.shape
  have hgn : gn = c.2.1.length := by
    obtain ⟨_, g, o, hv', h1, _⟩ := h
    obtain ⟨a, cap, hg⟩ := h1.shape
    rw [hv] at hv'
    rw [hg] at hv'
    simp at hv'
    exact hv'.1.2.1
  subst hv hgn
  have x0 := box3_alloc w 27 (.int .i64 c.1) (.slice ga c.2.1.length gc) (.slice oa on oc)
  have hb0 : Below w.heap.size w (w.alloc (.cells #[.int .i64 c.1, .slice ga c.2.1.length gc, .slice oa on oc] 27)) := (Below.refl _ _).alloc (Nat.le_refl _) _
  have g1 := iGood_any _ c _ (h.below hb0).at
  have hsz : (w.alloc (.cells #[.int .i64 c.1, .slice ga c.2.1.length gc, .slice oa on oc] 27)).heap.size = w.heap.size + 1 := by simp only [World.size_alloc]
  have hlt0 := x0.lt
  obtain ⟨hf0, hf1⟩ := hfx
  cases hgd : goodC c with
  | false =>
    have e1 : coneB c x = false := by unfold coneB; rw [hgd]; rfl
    have e2 : coneL c x = [] := by unfold coneL; rw [e1]; rfl
    rw [e1, e2]
    rw [hgd] at g1
    go_enter Try.func38, Try.ntmps38
    go_wp2_with fail
    refine g1.mono ?_
    rintro e w1 ⟨rfl, hs⟩
    have HB : Hid (Below w.heap.size w w1) := Below.step hb0 hb0.size hs
    clear g1 h
    go_wp2_with fail
    go_ret2
    exact ⟨_, rfl, rowIn_of (World.ownsRow_nil _ _ _ _), HB.out⟩
  | true =>
    rw [hgd] at g1
    obtain ⟨hI0, hI1, hG, hO, _, _⟩ := goodC_ins hgd
    have GC : Hid (∀ (w1 : World), Below w.heap.size w w1 → 0 ≤ x ∧ x < c.1 + c.2.1.length → Calls Try.prog 80 #[.agg #[.int .i64 c.1, .slice ga c.2.1.length gc, .slice oa on oc], .slice (some ⟨w1.heap.size, 0, none⟩) 1 1] (w1.alloc (.cells #[.int .i64 x] 3)) fun e w' => ∃ r, e = .returned r ∧ OwnBools w' (w1.heap.size + 1) r (coneF c [x]) ∧ Below (w1.heap.size + 1) (w1.alloc (.cells #[.int .i64 x] 3)) w') := fun w1 hb hx => by
      have g := cone_any (.agg #[.int .i64 c.1, .slice ga c.2.1.length gc, .slice oa on oc]) _ c [x] hgd (by intro y hy; simp at hy; subst hy; exact hx) (w1.alloc (.cells #[.int .i64 x] 3)) (h.at.below (hb.alloc hb.size _)) (ints_lit w1 x)
      rw [World.size_alloc] at g
      exact g
    have GW : Hid (∀ w1 : World, Calls Try.prog 62 #[.agg #[.int .i64 c.1, .slice ga c.2.1.length gc, .slice oa on oc]] w1 _) := fun w1 => size_raw c.1 ga c.2.1.length gc (.slice oa on oc) (by omega) (by omega) (by omega) w1
    obtain ⟨n0, hn0⟩ : ∃ n0 : Int, c.1 + (c.2.1.length : Int) = n0 := ⟨_, rfl⟩
    have hn1 : 0 ≤ n0 := by omega
    have hn2 : n0 ≤ 1000 := by omega
    have e1 : coneB c x = decide (0 ≤ x ∧ x < n0) := by unfold coneB; rw [hgd, hn0]; rfl
    have GA : Hid (∀ w1 : World, Calls Try.prog 61 #[.int .i64 n0, .slice (some ⟨w1.heap.size, 0, none⟩) 1 1] (w1.alloc (.cells #[.int .i64 x] 3)) fun e w' => e = .returned (.bool (decide (0 ≤ x ∧ x < n0))) ∧ w' = (w1.alloc (.cells #[.int .i64 x] 3))) := fun w1 => by
      have g := goodWires_any _ [x] n0 _ (ints_lit w1 x)
      rw [show ([x].all (inB n0)) = decide (0 ≤ x ∧ x < n0) from by simp [inB]] at g
      exact g
    have hFl := coneF_len c [x]
    by_cases hx : 0 ≤ x ∧ x < n0
    · rw [decide_eq_true hx] at e1 GA
      have e2 : coneL c x = upF (coneF c [x]) (coneF c [x]).length := by unfold coneL; rw [e1]; rfl
      rw [e1, e2]
      rw [hn0] at GC GW
      generalize coneF c [x] = F at *
      obtain ⟨i0, hi, hz0, hz1, hz2⟩ := info_parts infoInt
      have hFb : F.length ≤ 1000 := by omega
      clear e1 e2 h hFl
      go_enter Try.func38, Try.ntmps38
      go_wp2_with fail
      refine g1.mono ?_
      rintro e w1 ⟨rfl, hs⟩
      have hb1 := Below.step hb0 hb0.size hs
      have x1 := x0.below hs (by omega)
      obtain ⟨c0, c1, c2⟩ := x1.cells
      have hh := x1.heap
      have hlt1 := x1.lt
      clear g1
      go_wp2_with fail
      refine (GW.out _).mono ?_
      rintro e w2 ⟨rfl, hw2⟩
      have hb2 : Below w.heap.size w w2 := by
        rw [hw2]
        exact hb1.alloc hb1.size _
      have x2 : Box3 w2 w.heap.size 27 (.int .i64 c.1) (.slice ga c.2.1.length gc) (.slice oa on oc) := by
        rw [hw2]
        exact x1.alloc _
      clear hw2 c0 c1 c2 hh hlt1 x1 hb1
      have g3 := GA.out w2
      go_wp2_with fail
      refine g3.mono ?_
      rintro e w3 ⟨rfl, hw3⟩
      have hb3 : Below w.heap.size w w3 := by
        rw [hw3]
        exact hb2.alloc hb2.size _
      have x3 : Box3 w3 w.heap.size 27 (.int .i64 c.1) (.slice ga c.2.1.length gc) (.slice oa on oc) := by
        rw [hw3]
        exact x2.alloc _
      clear hw3 g3 x2 hb2
      have g4 := GC.out w3 hb3 hx
      have hs3 := hb3.size
      have hb4 : Below w.heap.size w (w3.alloc (.cells #[.int .i64 x] 3)) := hb3.alloc hb3.size _
      have x4 := x3.alloc (.cells #[.int .i64 x] 3)
      obtain ⟨k0, k1, k2⟩ := x3.cells
      have hh := x3.heap
      have hlt1 := x3.lt
      go_wp2_with fail
      refine g4.mono ?_
      rintro e w4 ⟨r, rfl, ho, hs4⟩
      have HB4 : Hid (Below w.heap.size w w4) := hb4.trans (hs4.mono (by omega))
      have hw4 := HB4.out.size
      obtain ⟨ra, rcap, hr⟩ := own_shape ho
      subst hr
      have HR : Hid (∀ w2 : World, Below w4.heap.size w4 w2 → BoolsAt w2 (.slice ra F.length rcap) F) := fun w2 hb => (bools_of_own (by omega) ho).below hb
      clear g4 ho hs4 hb4 x4 k0 k1 k2 hh hlt1 x3 GC GW GA
      go_wp2_with fail
      go_loopw [6, 25] (fun v i wr => ∃ j : Nat, j ≤ F.length ∧ i = .int .i64 j ∧ Hid (OwnInts wr w4.heap.size v (upF F j)) ∧ Hid (Below w4.heap.size w4 wr)) (fun _ i _ => F.length - (intOf i).toNat)
      case atStart => exact ⟨0, by omega, rfl, World.ownsRow_nil _ _ _ _, Below.refl _ _⟩
      case round =>
        obtain ⟨j, hj, rfl, HO, HB⟩ := hrel
        have hszr := HB.out.size
        by_cases hlt : j < F.length
        · obtain ⟨z, hz⟩ : ∃ z, F[j]? = some z := ⟨F[j], List.getElem?_eq_getElem hlt⟩
          obtain ⟨_, _, hrr, hrc⟩ := (HR.out wr HB.out).opened
          injection hrr with er1 er2 er3
          subst er1 er3
          obtain ⟨rb, roff, rfl, hrb, d0⟩ := hrc j z hz
          have hgd' : F.getD j false = z := by rw [List.getD_eq_getElem?_getD, hz]; rfl
          have hul := upF_len F j
          cases z with
          | false =>
            have HN : Hid (OwnInts wr w4.heap.size u6 (upF F (j + 1))) := by
              have h1 := HO.out
              show OwnInts wr w4.heap.size u6 (upF F (j + 1))
              rw [upF, if_neg (by rw [hgd']; decide), List.append_nil]
              exact h1
            clear HO hz hrc HR hgd'
            go_wp2_with fail
            go_roundw
            case rel => exact ⟨j + 1, by omega, by go_num, HN, HB⟩
            case measure => simp [intOf]; omega
          | true =>
            have HNX : Hid (∀ (v2 : Value) (w2 : World), w2.ownsRow w4.heap.size 3 1 v2 ((upF F j).length + 1) ((upF F j).map (Value.int .i64) ++ [.int .i64 (j : Int)]) → OwnInts w2 w4.heap.size v2 (upF F (j + 1))) := by
              intro v2 w2 ho2
              show OwnInts w2 w4.heap.size v2 (upF F (j + 1))
              rw [upF, if_pos hgd']
              unfold OwnInts
              rw [List.length_append, List.map_append]
              exact ho2
            have own5 : wr.ownsRow w4.heap.size 3 1 u6 (upF F j).length ((upF F j).map (Value.int .i64)) := HO.out
            obtain ⟨va, vc5, hv5⟩ := own_shape own5
            subst hv5
            have own6 := own5.alloc (.cells #[.int .i64 (j : Int)] 3)
            have hb6 : Below w4.heap.size w4 (wr.alloc (.cells #[.int .i64 (j : Int)] 3)) := HB.out.alloc hszr _
            have hs6 := hb6.size
            clear HO hz hrc HR hgd' own5 HB
            generalize (upF F j).length = un at *
            generalize ((upF F j).map (Value.int .i64)) = cb at *
            go_wp2_with (at_builtin; refine wpList_append_own _ rfl _ _ 25 rfl w4.heap.size 3 i0 (.int .i64 0) 1 8 Try.underlying25 hi hz0 hz1 hz2 rfl (by decide) _ _ _ rfl own6 ⟨wr.heap.size, 0, none⟩ 1 1 [.int .i64 (j : Int)] rfl rfl (oneI_cells wr j) (ints_one [(j : Int)]) (by unfold maxLen; omega) (by omega) (by omega) ?_)
            intro v2 w2' own7 grow7 _
            have HB7 : Hid (Below w4.heap.size w4 w2') := below_app hb6 (by omega) (Nat.le_refl _) own6 grow7
            have HO7 : Hid (OwnInts w2' w4.heap.size v2 (upF F (j + 1))) := HNX.out v2 w2' own7
            clear own6 own7 grow7 hb6 HNX
            go_wp2_with fail
            go_roundw
            case rel => exact ⟨j + 1, by omega, by go_num, HO7, HB7⟩
            case measure => simp [intOf]; omega
        · obtain rfl : j = F.length := by omega
          have HN : Hid (OwnIS wr w.heap.size wr.heap.size u6 (upF F F.length)) := rowIn_of (own_base HO.out hw4)
          have HB2 : Hid (Below w.heap.size w wr) := HB4.out.trans (HB.out.mono hw4)
          clear HO HB HR
          go_wp2_with fail
          go_ret2
          exact ⟨_, rfl, HN.out, HB2.out⟩
    · rw [decide_eq_false hx] at e1 GA
      have e2 : coneL c x = [] := by unfold coneL; rw [e1]; rfl
      rw [e1, e2]
      rw [hn0] at GW
      clear e1 e2 h hFl GC
      go_enter Try.func38, Try.ntmps38
      go_wp2_with fail
      refine g1.mono ?_
      rintro e w1 ⟨rfl, hs⟩
      have hb1 := Below.step hb0 hb0.size hs
      have x1 := x0.below hs (by omega)
      obtain ⟨c0, c1, c2⟩ := x1.cells
      have hh := x1.heap
      have hlt1 := x1.lt
      clear g1
      go_wp2_with fail
      refine (GW.out _).mono ?_
      rintro e w2 ⟨rfl, hw2⟩
      have hb2 : Below w.heap.size w w2 := by
        rw [hw2]
        exact hb1.alloc hb1.size _
      clear hw2 c0 c1 c2 hh hlt1 x1 hb1
      have g3 := GA.out w2
      go_wp2_with fail
      refine g3.mono ?_
      rintro e w3 ⟨rfl, hw3⟩
      have HB3 : Hid (Below w.heap.size w w3) := by
        show Below w.heap.size w w3
        rw [hw3]
        exact hb2.alloc hb2.size _
      clear hw3 g3 hb2
      go_wp2_with fail
      go_ret2
      exact ⟨_, rfl, rowIn_of (World.ownsRow_nil _ _ _ _), HB3.out⟩
end Go.Proofs.Ytnagaanagcmdgaa
