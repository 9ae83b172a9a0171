/-
  The model's PruneCircuit.
-/
import Derived.Test.YtnagaanagcmdgaaBut
import Derived.Test.YtnagaanagcmdgaaSCone
namespace Go.Proofs.Ytnagaanagcmdgaa
open Go Go.RowKit
open M
set_option linter.unusedVariables false
set_option linter.unusedSimpArgs false

set_option maxRecDepth 100000 in
theorem l1Has_any (v : Value) (t : List Int) (n : Int) (w : World) (h : IntsAt w v t) :
    Calls Try.prog 83 #[v, .int .i64 n] w fun e w' => e = .returned (.bool (decide (n ∈ t))) ∧ w' = w := by
  have hl := h.1
  obtain ⟨a, cap, rfl, hc⟩ := h.opened
  clear h
  go_enter Try.func83, Try.ntmps83
  go_wp2_with fail
  go_loop [9] (fun i => ∃ j : Nat, j ≤ t.length ∧ i = .int .i64 j ∧ Hid (n ∉ t.take j)) (fun i => t.length - (intOf i).toNat)
  case atStart => exact ⟨0, by omega, rfl, List.not_mem_nil⟩
  case round =>
    obtain ⟨j, hj, rfl, HA⟩ := hrel
    by_cases hlt : j < t.length
    · obtain ⟨x, hx⟩ : ∃ x, t[j]? = some x := ⟨t[j], List.getElem?_eq_getElem hlt⟩
      obtain ⟨b, off, rfl, hb, c0⟩ := hc j x hx
      by_cases hp : x = n
      · have HN : Hid (decide (n ∈ t) = true) := decide_eq_true (by rw [← hp]; exact List.mem_of_getElem? hx)
        have hpe : (x == n) = true := by simp [hp]
        clear hc hx HA hp
        go_wp2_with fail
        go_ret
        exact ⟨ret_bool HN.out.symm, rfl⟩
      · have HN : Hid (n ∉ t.take (j + 1)) := by
          show n ∉ t.take (j + 1)
          rw [List.take_add_one, hx]
          intro h
          simp only [Option.toList_some, List.mem_append, List.mem_singleton] at h
          rcases h with h | h
          · exact HA.out h
          · exact hp h.symm
        have hpe : (x == n) = false := by simp [hp]
        clear hc hx HA hp
        go_wp2_with fail
        go_round
        case rel => exact ⟨j + 1, by omega, by go_num, HN⟩
        case measure => simp [intOf]; omega
    · obtain rfl : j = t.length := by omega
      have HN : Hid (decide (n ∈ t) = false) := by
        have h1 := HA.out
        rw [List.take_length] at h1
        exact decide_eq_false h1
      clear hc HA
      go_wp2_with fail
      go_ret
      exact ⟨ret_bool HN.out.symm, rfl⟩
theorem upF_mem {F : List Bool} {k : Nat} (hk : k < F.length) : decide ((k : Int) ∈ upF F F.length) = F.getD k false := by
  cases h : F.getD k false with
  | true => exact decide_eq_true (upF_has F F.length k hk h)
  | false =>
    refine decide_eq_false (fun hm => ?_)
    have := (upF_lt F F.length _ hm).2.2
    rw [Int.toNat_natCast, h] at this
    cases this
set_option maxRecDepth 100000 in
set_option maxHeartbeats 4000000 in
theorem sPrune_bad (v : Value) (c : Ci) (hgd : goodC c = false) (w : World) (h : AtC w v c) :
    Calls Try.prog 36 #[v] w fun e w' => ∃ r, e = .returned (.tuple #[r, .bool (goodC c)]) ∧ OwnCirc w' w.heap.size w'.heap.size r (pruneL c) ∧ Below w.heap.size w w' := by
  obtain ⟨ga, gn, gc, oa, on, oc, hv⟩ := h.at.shape
  subst hv
  have hb0 : Below w.heap.size w ((w.alloc (.cells #[.int .i64 c.1, .slice ga gn gc, .slice oa on oc] 27)).alloc (.cells #[.int .i64 0, .slice none 0 0, .slice none 0 0] 27)) := below2 _ _ _
  have x1 := box3_alloc (w.alloc (.cells #[.int .i64 c.1, .slice ga gn gc, .slice oa on oc] 27)) 27 (.int .i64 0) (.slice none 0 0) (.slice none 0 0)
  simp only [World.size_alloc] at x1
  have g1 := sGood_any _ c _ (h.below hb0).at
  have hpl : pruneL c = (0, [], []) := by unfold pruneL; rw [if_neg (by rw [hgd]; decide)]
  rw [hpl, hgd]
  rw [hgd] at g1
  have hsz : ((w.alloc (.cells #[.int .i64 c.1, .slice ga gn gc, .slice oa on oc] 27)).alloc (.cells #[.int .i64 0, .slice none 0 0, .slice none 0 0] 27)).heap.size = w.heap.size + 1 + 1 := by simp only [World.size_alloc]
  go_enter Try.func36, Try.ntmps36
  go_wp2_with fail
  refine g1.mono ?_
  rintro e w1 ⟨rfl, hs⟩
  have hb1 := Below.step hb0 hb0.size hs
  have y1 := x1.below hs (by omega)
  obtain ⟨c0, c1, c2⟩ := y1.cells
  have f0 := y1.frozen 0
  have f1 := y1.frozen 1
  have f2 := y1.frozen 2
  have hh := y1.heap
  have hlt1 := y1.lt
  clear g1 h
  go_wp2_with fail
  have z1 := ((y1.set0 (.int .i64 0)).set1 (.slice none 0 0)).set2 (.slice none 0 0)
  have hb2 := ((hb1.setCell (p := ⟨w.heap.size + 1, 0, none⟩) (Nat.le_succ _) (.int .i64 0)).setCell (p := ⟨w.heap.size + 1, 1, none⟩) (Nat.le_succ _) (.slice none 0 0)).setCell (p := ⟨w.heap.size + 1, 2, none⟩) (Nat.le_succ _) (.slice none 0 0)
  refine bodyPost_ret (results_c1 rfl _ _ (w.heap.size + 1) 27 _ (0, 0) _ rfl z1.heap Try.underlying27 rfl (by kernel_rfl)) rfl ?_
  exact ⟨_, rfl, ⟨_, _, rfl, rowIn_of (World.ownsRow_nil _ _ _ _), rowIn_of (World.ownsRow_nil _ _ _ _)⟩, hb2⟩
set_option maxRecDepth 100000 in
set_option maxHeartbeats 8000000 in
theorem sPrune_good (v : Value) (c : Ci) (hgd : goodC c = true) (w : World) (h : AtC w v c) :
    Calls Try.prog 36 #[v] w fun e w' => ∃ r, e = .returned (.tuple #[r, .bool true]) ∧ OwnCirc w' w.heap.size w'.heap.size r (pruneC c) ∧ Below w.heap.size w w' := by
  have hat := h.at
  obtain ⟨hfit, gw, o, hv, h1, h2, _⟩ := h
  obtain ⟨ga, gc, hgw, hg⟩ := h1.opened
  obtain ⟨oa, oc, ho, hoc⟩ := h2.opened
  subst hgw ho hv
  obtain ⟨hI0, hI1, hG, hO, hgb, hout⟩ := goodC_ins hgd
  have hb0 : Below w.heap.size w ((w.alloc (.cells #[.int .i64 c.1, .slice ga c.2.1.length gc, .slice oa c.2.2.length oc] 27)).alloc (.cells #[.int .i64 0, .slice none 0 0, .slice none 0 0] 27)) := below2 _ _ _
  have x0 := (box3_alloc w 27 (.int .i64 c.1) (.slice ga c.2.1.length gc) (.slice oa c.2.2.length oc)).alloc (.cells #[.int .i64 0, .slice none 0 0, .slice none 0 0] 27)
  have x1 := box3_alloc (w.alloc (.cells #[.int .i64 c.1, .slice ga c.2.1.length gc, .slice oa c.2.2.length oc] 27)) 27 (.int .i64 0) (.slice none 0 0) (.slice none 0 0)
  simp only [World.size_alloc] at x1
  have g1 := sGood_any _ c _ (hat.below hb0)
  rw [hgd] at g1
  have hsz : ((w.alloc (.cells #[.int .i64 c.1, .slice ga c.2.1.length gc, .slice oa c.2.2.length oc] 27)).alloc (.cells #[.int .i64 0, .slice none 0 0, .slice none 0 0] 27)).heap.size = w.heap.size + 1 + 1 := by simp only [World.size_alloc]
  have HG : Hid (∀ (w1 : World), Below w.heap.size w w1 → ∀ (i : Nat) (x : Gt), c.2.1[i]? = some x → ∃ b off : Nat, ga = some ⟨b, off, none⟩ ∧ b < w.heap.size ∧ GateAt w1 b (off + i * 3) x) := fun w1 hb i x hx => by
    obtain ⟨b, off, e, hlt, hat⟩ := hg i x hx
    exact ⟨b, off, e, hlt, hat.below hb hlt⟩
  have HOC : Hid (∀ (w1 : World), Below w.heap.size w w1 → ∀ (i : Nat) (x : Int), c.2.2[i]? = some x → ∃ b off : Nat, oa = some ⟨b, off, none⟩ ∧ b < w.heap.size ∧ w1.cell? ⟨b, off + i, none⟩ = some (.int .i64 x)) := fun w1 hb i x hx => by
    obtain ⟨b, off, e, hlt, hc⟩ := hoc i x hx
    exact ⟨b, off, e, hlt, by rw [hb.cell (p := ⟨b, off + i, none⟩) hlt]; exact hc⟩
  have HGB : Hid (∀ (i : Nat) (x : Gt), c.2.1[i]? = some x → gateB (c.1 + i) x = true) := fun i x hx => gatesB_at hgb hx
  have HOU : Hid (∀ x ∈ c.2.2, 0 ≤ x ∧ x < c.1 + c.2.1.length) := hout
  have GC : Hid (∀ (w1 : World), Below w.heap.size w w1 → Calls Try.prog 82 #[.agg #[.int .i64 c.1, .slice ga c.2.1.length gc, .slice oa c.2.2.length oc], .slice oa c.2.2.length oc] w1 fun e w' => ∃ r, e = .returned r ∧ VarsOwn w' w1.heap.size r (upF (coneF c c.2.2) (coneF c c.2.2).length) ∧ Below w1.heap.size w1 w') := fun w1 hb => l4Cone_any _ _ c c.2.2 hgd hout w1 (hat.below hb) (h2.below hb)
  have hFl := coneF_len c c.2.2
  unfold pruneC pruneG
  generalize coneF c c.2.2 = F at *
  obtain ⟨ins, gs, os⟩ := c
  simp only at *
  clear hg hoc h1 h2 hgb hfit hgd hout hat
  obtain ⟨I, rfl⟩ := Int.eq_ofNat_of_zero_le hI0
  rw [Int.toNat_natCast] at *
  obtain ⟨N, hN⟩ : ∃ N : Nat, I + gs.length = N := ⟨_, rfl⟩
  have hNI : (I : Int) + (gs.length : Int) = (N : Int) := by omega
  have HNI : Hid ((I : Int) + (gs.length : Int) = (N : Int)) := hNI
  have GW : Hid (∀ w1 : World, Calls Try.prog 59 #[.agg #[.int .i64 (I : Int), .slice ga gs.length gc, .slice oa os.length oc]] w1 fun e w' => e = .returned (.int .i64 (N : Int)) ∧ Below w1.heap.size w1 w') := fun w1 => by
    have g := l4Wires_raw (I : Int) ga gs.length gc (.slice oa os.length oc) (by omega) (by omega) (by omega) w1
    rw [hNI] at g
    refine g.mono ?_
    rintro e w' ⟨he, hw⟩
    exact ⟨he, by rw [hw]; exact (Below.refl _ _).alloc (Nat.le_refl _) _⟩
  have HPA : Hid (pruneJ F I gs N = pruneK F I gs gs.length) := by
    show pruneJ F I gs N = pruneK F I gs gs.length
    rw [← hN]
    exact pruneJ_all _ _ _
  rw [← HPA.out]
  clear hNI
  have hlt0 := x0.lt
  obtain ⟨i0, hi, hz0, hz1, hz2⟩ := info_parts infoInt
  obtain ⟨j0, hj, hy0, hy1, hy2⟩ := info_parts infoGate
  go_enter Try.func36, Try.ntmps36
  go_wp2_with fail
  refine g1.mono ?_
  rintro e w1 ⟨rfl, hs⟩
  have hb1 := Below.step hb0 hb0.size hs
  have y0 := x0.below hs (by omega)
  have y1 := x1.below hs (by omega)
  obtain ⟨c0, c1, c2⟩ := y0.cells
  have hh := y0.heap
  have hlt1 := y0.lt
  have hsz1 := hs.size
  rw [hsz] at hsz1
  clear g1 hs hb0 x0 x1 hsz hlt0
  have hb2 : Below w.heap.size w (w1.alloc (.cells #[.int .i64 (I : Int), .slice none 0 0, .slice none 0 0] 27)) := hb1.alloc hb1.size _
  have y0' := y0.alloc (.cells #[.int .i64 (I : Int), .slice none 0 0, .slice none 0 0] 27)
  have y1' := y1.alloc (.cells #[.int .i64 (I : Int), .slice none 0 0, .slice none 0 0] 27)
  have y2' := box3_alloc w1 27 (.int .i64 (I : Int)) (.slice none 0 0) (.slice none 0 0)
  go_wp2_with fail
  refine (GW.out _).mono ?_
  rintro e w2 ⟨rfl, hs2⟩
  have hsa : (w1.alloc (.cells #[.int .i64 (I : Int), .slice none 0 0, .slice none 0 0] 27)).heap.size = w1.heap.size + 1 := by simp only [World.size_alloc]
  rw [hsa] at hs2
  have hsz2 := hs2.size
  rw [hsa] at hsz2
  have hb3 : Below w.heap.size w w2 := hb2.trans (hs2.mono (by omega))
  have z0 := y0'.below hs2 (by omega)
  have z1 := y1'.below hs2 (by omega)
  have z2 := y2'.below hs2 (by omega)
  clear c0 c1 c2 hh hlt1 y0 y1 y0' y1' y2' hb2 hsa hs2 hb1
  generalize hP : w1.heap.size = P at *
  go_wp2_with (at_make; refine wpList_make_full _ rfl _ _ 25 rfl (P + 1) 3 i0 (.int .i64 0) 1 Try.underlying25 hi hz0 hz1 .i64 .i64 _ _ N rfl rfl (by omega) (by omega) (by rw [hz2]; omega) (by unfold maxLen; omega) (by omega) ?_)
  intro w3 hown hgrow
  have hb4 : Below w2.heap.size w2 w3 := (Below.refl _ _).grown hgrow (Nat.le_refl _) (fun k hk => by cases hk)
  have own3 : w3.ownsRow (P + 1) 3 1 (.slice (some ⟨w2.heap.size, 0, none⟩) N N) N (cellsI (List.replicate N 0)) := by
    have h2 := hown
    rw [toList_madeCells_one] at h2
    unfold cellsI
    rw [List.map_replicate]
    exact h2
  clear hown hgrow
  have z0' := z0.below hb4 (by omega)
  have z1' := z1.below hb4 (by omega)
  have z2' := z2.below hb4 (by omega)
  have hb5 : Below w.heap.size w w3 := hb3.trans (hb4.mono (by omega))
  have hq3 : w2.heap.size < w3.heap.size := (own_block own3 rfl).2
  clear z0 z1 z2 hb3 hb4
  generalize hQ : w2.heap.size = q at *
  go_wp2_with fail
  have HX0 : Hid (Box3 w3 w.heap.size 27 (.int .i64 (I : Int)) (.slice ga gs.length gc) (.slice oa os.length oc)) := z0'
  have HX1 : Hid (Box3 w3 (w.heap.size + 1) 27 (.int .i64 0) (.slice none 0 0) (.slice none 0 0)) := z1'
  have HX2 : Hid (Box3 w3 P 27 (.int .i64 (I : Int)) (.slice none 0 0) (.slice none 0 0)) := z2'
  have HB5 : Hid (Below w.heap.size w w3) := hb5
  have HL3 : Hid (w3.ownsRow (P + 1) 3 1 (.slice (some ⟨q, 0, none⟩) N N) N (cellsI (pruneJ F I gs 0).1)) := by
    show w3.ownsRow (P + 1) 3 1 (.slice (some ⟨q, 0, none⟩) N N) N (cellsI (pruneJ F I gs 0).1)
    rw [pruneJ_zero, hN]
    exact own3
  clear z0' z1' z2' hb5 own3
  go_loopw [6] (fun i wr => ∃ j : Nat, j ≤ I ∧ i = .int .i64 j ∧ Hid (wr.ownsRow (P + 1) 3 1 (.slice (some ⟨q, 0, none⟩) N N) N (cellsI (pruneJ F I gs j).1)) ∧ Hid (But2 q q w3 wr)) (fun i _ => I - (intOf i).toNat)
  case atStart => exact ⟨0, by omega, rfl, HL3, But2.refl _ _ _⟩
  case round =>
    clear HL3
    obtain ⟨j, hj', rfl, HL, HB⟩ := hrel
    have hszr := HB.out.size
    have u0 := HX0.out.but HB.out (by omega) (by omega)
    obtain ⟨c0, c1, c2⟩ := u0.cells
    have hh := u0.heap
    have hlt1 := u0.lt
    clear u0
    by_cases hlt : j < I
    · obtain ⟨⟨u0, e0⟩, f0, o0⟩ := put_at HL.out j (by omega) (j : Int)
      have HL2 : Hid ((wr.setCell ⟨q, j, none⟩ (.int .i64 (j : Int))).ownsRow (P + 1) 3 1 (.slice (some ⟨q, 0, none⟩) N N) N (cellsI (pruneJ F I gs (j + 1)).1)) := by
        show (wr.setCell ⟨q, j, none⟩ (.int .i64 (j : Int))).ownsRow (P + 1) 3 1 (.slice (some ⟨q, 0, none⟩) N N) N (cellsI (pruneJ F I gs (j + 1)).1)
        rw [pruneJ_in F I gs j hlt]
        exact o0
      have HB2 : Hid (But2 q q w3 (wr.setCell ⟨q, j, none⟩ (.int .i64 (j : Int)))) := HB.out.set (Or.inl rfl)
      have hjN : (j : Int) < (N : Int) := by omega
      clear HL HB o0 HG HOC HGB HOU HX0 HX1 HX2 HPA HB5 GC
      go_wp2_with fail
      go_roundw
      case rel => exact ⟨j + 1, by omega, by go_num, HL2, HB2⟩
      case measure => simp [intOf]; omega
    · obtain rfl : I = j := by omega
      have hBw : Below w.heap.size w wr := HB.out.out HB5.out (by omega) (by omega) (by omega)
      have HY0 := HX0.out.but HB.out (by omega) (by omega)
      have HY1 := HX1.out.but HB.out (by omega) (by omega)
      have HY2 := HX2.out.but HB.out (by omega) (by omega)
      clear HX0 HX1 HX2 HB
      have hq4 := (own_block HL.out rfl).2
      have hw3r := hBw.size
      rename World => w4
      go_wp2_with fail
      refine (GC.out w4 hBw).mono ?_
      rintro e wx ⟨r, rfl, hor, hs6⟩
      have HBX : Hid (Below w.heap.size w wx) := hBw.trans (hs6.mono (by omega))
      have HX0 : Hid _ := HY0.below hs6 HY0.lt
      have HX1 : Hid _ := HY1.below hs6 HY1.lt
      have HX2 : Hid _ := HY2.below hs6 HY2.lt
      have HPL : Hid (wx.ownsRow (P + 1) 3 1 (.slice (some ⟨q, 0, none⟩) N N) N (cellsI (pruneJ F I gs (I + 0)).1)) := owns_below HL.out hs6
      have hsx := hs6.size
      have hqx : q < wx.heap.size := by omega
      have hFl2 : F.length = N := by omega
      rw [hFl2] at hor
      have hul := upF_len F N
      have HC : Hid (∀ w7 : World, But2 P q wx w7 → ∀ k : Nat, k < N → Calls Try.prog 83 #[r, .int .i64 (k : Int)] w7 fun e w' => e = .returned (.bool (F.getD k false)) ∧ w' = w7) := by
        intro w7 hb7 k hk
        have h1 : IntsAt w7 r (upF F N) := ints_of_own (by omega) (own_but hor.1 hb7 (by omega) (by omega))
        have g := l1Has_any r (upF F N) (k : Int) w7 h1
        have e1 := upF_mem (F := F) (k := k) (by omega)
        rw [hFl2] at e1
        rw [e1] at g
        exact g
      obtain ⟨ra, rcap, hr⟩ := own_shape hor.1
      subst hr
      clear hor hs6 HY0 HY1 HY2 HL hBw c0 c1 c2 hh hlt1 GC HB5
      obtain ⟨c0, c1, c2⟩ := HX0.out.cells
      have hh := HX0.out.heap
      have hlt1 := HX0.out.lt
      generalize (upF F N).length = un at *
      go_wp2_with fail
      clear c0 c1 c2 hh hlt1
      go_loopw [39] (fun i wr => ∃ (k : Nat) (gsl : Value), k ≤ gs.length ∧ i = .int .i64 k ∧ Hid (Box3 wr P 27 (.int .i64 (I : Int)) gsl (.slice none 0 0)) ∧ Hid (wr.ownsRow (P + 1) 3 1 (.slice (some ⟨q, 0, none⟩) N N) N (cellsI (pruneJ F I gs (I + k)).1)) ∧ Hid (OwnGates wr wx.heap.size gsl (pruneJ F I gs (I + k)).2) ∧ Hid (But2 P q wx wr)) (fun i _ => gs.length - (intOf i).toNat)
      case atStart =>
        refine ⟨0, _, by omega, rfl, HX2, HPL, ?_, But2.refl _ _ _⟩
        show OwnGates wx wx.heap.size _ (pruneJ F I gs (I + 0)).2
        rw [show (pruneJ F I gs (I + 0)).2 = [] from by unfold pruneJ; rw [if_neg (by omega), Nat.add_sub_cancel_left]; rfl]
        exact World.ownsRow_nil _ _ _ _
      case round =>
        clear HX2 HPL
        obtain ⟨k, gsl, hk', rfl, HP, HL, HO, HB⟩ := hrel
        have hszr := HB.out.size
        have hBw : Below w.heap.size w wr := HB.out.out HBX.out (by omega) (by omega) (by omega)
        obtain ⟨hpl1, hpl2⟩ := pruneJ_len F I gs (I + k) (by omega)
        have u0 := HX0.out.but HB.out (by omega) (by omega)
        by_cases hlt : k < gs.length
        · obtain ⟨x, hx⟩ : ∃ x, gs[k]? = some x := ⟨gs[k], List.getElem?_eq_getElem hlt⟩
          obtain ⟨b, off, rfl, hbw, d0, d1, d2⟩ := HG.out wr hBw k x hx
          have hgg := HGB.out k x hx
          obtain ⟨Kk, hKk⟩ : ∃ Kk : Nat, (I : Int) + (k : Int) = (Kk : Int) := ⟨I + k, by omega⟩
          have hKW : IntKind.i64.wrap (Kk : Int) = (Kk : Int) := IntWalk.i64_in _ (by omega)
          have hKN : Kk < N := by omega
          have hKe : I + k = Kk := by omega
          rw [hKk] at hgg
          have hno := pruneJ_no F I gs (I + k) (by omega)
          have hyes := pruneJ_yes F I gs (I + k) x (by omega) (by rw [Nat.add_sub_cancel_left]; exact hx)
          rw [hKe] at hno hyes hpl1 hpl2 HL HO
          rw [show Kk + 1 = I + (k + 1) from by omega] at hno hyes
          obtain ⟨kk, xa, xb⟩ := x
          simp only at d0 d1 d2
          have v0 := u0.alloc (.cells #[.int .i64 kk, .int .i64 xa, .int .i64 xb] 91)
          have HPa := HP.out.alloc (.cells #[.int .i64 kk, .int .i64 xa, .int .i64 xb] 91)
          have HLa := World.ownsRow.alloc HL.out (.cells #[.int .i64 kk, .int .i64 xa, .int .i64 xb] 91)
          have HOa := World.ownsRow.alloc HO.out (.cells #[.int .i64 kk, .int .i64 xa, .int .i64 xb] 91)
          have HBa := HB.out.alloc (.cells #[.int .i64 kk, .int .i64 xa, .int .i64 xb] 91)
          have HGa := box3_alloc wr 91 (.int .i64 kk) (.int .i64 xa) (.int .i64 xb)
          have g1 := HC.out _ HBa Kk hKN
          obtain ⟨c0, c1, c2⟩ := u0.cells
          have hh := u0.heap
          have hlt1 := u0.lt
          cases hz : F.getD Kk false with
          | false =>
            rw [hz] at g1
            have HL2 : Hid ((wr.alloc (.cells #[.int .i64 kk, .int .i64 xa, .int .i64 xb] 91)).ownsRow (P + 1) 3 1 (.slice (some ⟨q, 0, none⟩) N N) N (cellsI (pruneJ F I gs (I + (k + 1))).1)) := by
              show World.ownsRow _ (P + 1) 3 1 (.slice (some ⟨q, 0, none⟩) N N) N (cellsI (pruneJ F I gs (I + (k + 1))).1)
              rw [hno hz]
              exact HLa
            have HO2 : Hid (OwnGates (wr.alloc (.cells #[.int .i64 kk, .int .i64 xa, .int .i64 xb] 91)) wx.heap.size gsl (pruneJ F I gs (I + (k + 1))).2) := by
              show OwnGates _ wx.heap.size gsl (pruneJ F I gs (I + (k + 1))).2
              rw [hno hz]
              exact HOa
            have HP2 : Hid _ := HPa
            have HB2 : Hid _ := HBa
            clear HLa HOa HPa HBa HGa HL HO HP HB hno hyes hx HG HOC HGB HOU HX0 HX1 HPA hBw HBX u0 HC
            go_wp2_with fail
            refine g1.mono ?_
            rintro e w5 ⟨rfl, rfl⟩
            clear g1
            go_wp2_with fail
            go_roundw
            case rel => exact ⟨k + 1, gsl, by omega, by go_num, HP2, HL2, HO2, HB2⟩
            case measure => simp [intOf]; omega
          | true =>
            rw [hz] at g1
            have hst := hyes hz
            obtain ⟨sa, scap, hsl⟩ := own_shape HO.out
            have g5 := fun w1 => l4Wires_raw (I : Int) sa (pruneJ F I gs Kk).2.length scap (.slice none 0 0) (by omega) (by omega) (by omega) w1
            obtain ⟨V, hV⟩ : ∃ V : Nat, (I : Int) + ((pruneJ F I gs Kk).2.length : Int) = (V : Int) := ⟨I + (pruneJ F I gs Kk).2.length, by omega⟩
            rw [hV] at g5 hst
            have hV1 : V ≤ 1000 := by omega
            have HST1 : Hid ((pruneJ F I gs Kk).1.set Kk (V : Int) = (pruneJ F I gs (I + (k + 1))).1) := (congrArg Prod.fst hst).symm
            have HST2 : Hid ((pruneJ F I gs Kk).2 ++ [movedL (pruneJ F I gs Kk).1 (kk, xa, xb)] = (pruneJ F I gs (I + (k + 1))).2) := (congrArg Prod.snd hst).symm
            clear hst hV hyes hno
            have hgk := gateB_kind hgg
            simp only at hgk
            generalize (pruneJ F I gs Kk).1 = p at *
            generalize (pruneJ F I gs Kk).2 = og at *
            subst hsl
            have hpN : p.length = N := by omega
            have hon : og.length ≤ 400 := by omega
            obtain ⟨l0, l1, l2⟩ := HP.out.cells
            have hhP := HP.out.heap
            have hPlt := HP.out.lt
            have hqlt := (own_block HL.out rfl).2
            have hqW : (Kk : Int) < (N : Int) := by omega
            have HT : Hid (∀ (mk ma mb : Int), movedL p (kk, xa, xb) = (mk, ma, mb) → ∀ w6 : World, Below (wr.heap.size + 1) (wr.alloc (.cells #[.int .i64 mk, .int .i64 ma, .int .i64 mb] 91)) w6 →
                (Box3 w6 w.heap.size 27 (.int .i64 (I : Int)) (.slice (some ⟨b, off, none⟩) gs.length gc) (.slice oa os.length oc) ∧ Box3 w6 P 27 (.int .i64 (I : Int)) (.slice sa og.length scap) (.slice none 0 0) ∧ (∃ u, w6.cell? ⟨q, Kk, none⟩ = some u) ∧ w6.frozen? ⟨q, Kk, none⟩ = false ∧ Box3 (w6.setCell ⟨q, Kk, none⟩ (.int .i64 (V : Int))) P 27 (.int .i64 (I : Int)) (.slice sa og.length scap) (.slice none 0 0) ∧ Box3 (w6.setCell ⟨q, Kk, none⟩ (.int .i64 (V : Int))) wr.heap.size 91 (.int .i64 mk) (.int .i64 ma) (.int .i64 mb) ∧ wr.heap.size + 1 ≤ w6.heap.size) ∧
                (((w6.setCell ⟨q, Kk, none⟩ (.int .i64 (V : Int))).alloc (.cells #[.int .i64 mk, .int .i64 ma, .int .i64 mb] 91)).ownsRow wx.heap.size 91 3 (.slice sa og.length scap) og.length (flat3 og) ∧ wx.heap.size ≤ ((w6.setCell ⟨q, Kk, none⟩ (.int .i64 (V : Int))).alloc (.cells #[.int .i64 mk, .int .i64 ma, .int .i64 mb] 91)).heap.size) ∧
                ∀ (v8 : Value) (w8 : World), w8.ownsRow wx.heap.size 91 3 v8 (og.length + 1) (flat3 og ++ [.int .i64 mk, .int .i64 ma, .int .i64 mb]) → ((w6.setCell ⟨q, Kk, none⟩ (.int .i64 (V : Int))).alloc (.cells #[.int .i64 mk, .int .i64 ma, .int .i64 mb] 91)).grownBy w8 (Value.slice sa og.length scap).ownBlock →
                  Box3 w8 P 27 (.int .i64 (I : Int)) (.slice sa og.length scap) (.slice none 0 0) ∧ Hid (But2 P q wx (w8.setCell ⟨P, 1, none⟩ v8)) ∧ Hid ((w8.setCell ⟨P, 1, none⟩ v8).ownsRow (P + 1) 3 1 (.slice (some ⟨q, 0, none⟩) N N) N (cellsI (pruneJ F I gs (I + (k + 1))).1)) ∧ Hid (OwnGates (w8.setCell ⟨P, 1, none⟩ v8) wx.heap.size v8 (pruneJ F I gs (I + (k + 1))).2)) := by
              intro mk ma mb hmv w6 hs6
              have hsa : (wr.alloc (.cells #[.int .i64 mk, .int .i64 ma, .int .i64 mb] 91)).heap.size = wr.heap.size + 1 := by simp only [World.size_alloc]
              have hsz6 := hs6.size
              rw [hsa] at hsz6
              have hP6 := (HP.out.alloc (.cells #[.int .i64 mk, .int .i64 ma, .int .i64 mb] 91)).below hs6 (by omega)
              have hL6 : w6.ownsRow (P + 1) 3 1 (.slice (some ⟨q, 0, none⟩) N N) N (cellsI p) := own_keep (World.ownsRow.alloc HL.out (.cells #[.int .i64 mk, .int .i64 ma, .int .i64 mb] 91)) (fun g hg => hs6.block g (by have := own_block HL.out hg; omega))
              have hO6 : w6.ownsRow wx.heap.size 91 3 (.slice sa og.length scap) og.length (flat3 og) := own_keep (World.ownsRow.alloc HO.out (.cells #[.int .i64 mk, .int .i64 ma, .int .i64 mb] 91)) (fun g hg => hs6.block g (by have := own_block HO.out hg; omega))
              have hB6 : But2 P q wx w6 := (HB.out.alloc (.cells #[.int .i64 mk, .int .i64 ma, .int .i64 mb] 91)).below hs6 (by omega)
              have hG6 := (box3_alloc wr 91 (.int .i64 mk) (.int .i64 ma) (.int .i64 mb)).below hs6 (Nat.lt_succ_self _)
              obtain ⟨pu, pf, pl⟩ := put_at hL6 Kk hKN (V : Int)
              have hP7 := hP6.other (b' := q) (o := Kk) (by omega) (.int .i64 (V : Int))
              have hG7 := hG6.other (b' := q) (o := Kk) (by omega) (.int .i64 (V : Int))
              have hB7 : But2 P q wx ((w6.setCell ⟨q, Kk, none⟩ (.int .i64 (V : Int))).alloc (.cells #[.int .i64 mk, .int .i64 ma, .int .i64 mb] 91)) := (hB6.set (o := Kk) (v := .int .i64 (V : Int)) (Or.inr (Or.inl rfl))).alloc _
              have hO7 : ((w6.setCell ⟨q, Kk, none⟩ (.int .i64 (V : Int))).alloc (.cells #[.int .i64 mk, .int .i64 ma, .int .i64 mb] 91)).ownsRow wx.heap.size 91 3 (.slice sa og.length scap) og.length (flat3 og) := World.ownsRow.alloc (own_set hO6 hqx) (.cells #[.int .i64 mk, .int .i64 ma, .int .i64 mb] 91)
              have hL7 : ((w6.setCell ⟨q, Kk, none⟩ (.int .i64 (V : Int))).alloc (.cells #[.int .i64 mk, .int .i64 ma, .int .i64 mb] 91)).ownsRow (P + 1) 3 1 (.slice (some ⟨q, 0, none⟩) N N) N (cellsI (p.set Kk (V : Int))) := World.ownsRow.alloc pl (.cells #[.int .i64 mk, .int .i64 ma, .int .i64 mb] 91)
              have hP7' : Box3 ((w6.setCell ⟨q, Kk, none⟩ (.int .i64 (V : Int))).alloc (.cells #[.int .i64 mk, .int .i64 ma, .int .i64 mb] 91)) P 27 (.int .i64 (I : Int)) (.slice sa og.length scap) (.slice none 0 0) := hP7.alloc (.cells #[.int .i64 mk, .int .i64 ma, .int .i64 mb] 91)
              refine ⟨⟨(u0.alloc (.cells #[.int .i64 mk, .int .i64 ma, .int .i64 mb] 91)).below hs6 (by omega), hP6, pu, pf, hP7, hG7, hsz6⟩, ⟨hO7, hB7.size⟩, ?_⟩
              intro v8 w8 own8 grow8
              have hgr := grow_row (w' := w8) hO7
              refine ⟨hP7'.grown grow8 (fun e => by have := hgr _ e; omega), (hB7.grown grow8 hgr).set (Or.inl rfl), ?_, ?_⟩
              · have h1 := own_set' (b := P) (o := 1) (u := v8) (own_grown hL7 grow8 (fun e => by have := hgr _ e; omega)) (by omega)
                rw [HST1.out] at h1
                exact h1
              · have h1 := own_set (b := P) (o := 1) (u := v8) own8 (by omega)
                show OwnGates _ wx.heap.size v8 (pruneJ F I gs (I + (k + 1))).2
                rw [← HST2.out, hmv]
                unfold OwnGates
                rw [List.length_append, flat3_append]
                exact h1
            have G5 : Hid (∀ (mk ma mb : Int) (w1 : World), Below (wr.heap.size + 1) (wr.alloc (.cells #[.int .i64 mk, .int .i64 ma, .int .i64 mb] 91)) w1 → Calls Try.prog 59 #[.agg #[.int .i64 (I : Int), .slice sa og.length scap, .slice none 0 0]] w1 fun e w' => e = .returned (.int .i64 (V : Int)) ∧ Below (wr.heap.size + 1) (wr.alloc (.cells #[.int .i64 mk, .int .i64 ma, .int .i64 mb] 91)) w') := by
              intro mk ma mb w1 hb
              refine (g5 w1).mono ?_
              rintro e w' ⟨he, hw⟩
              refine ⟨he, ?_⟩
              rw [hw]
              exact hb.alloc (by have := hb.size; rw [World.size_alloc] at this; exact this) _
            have HRD : Hid (∀ A : Nat, A < N → wr.cell? ⟨q, A, none⟩ = some (.int .i64 (atI p A))) := fun A hA => ints_read HL.out A hA
            clear g5 HLa HOa HPa HBa HGa HL HO HP HB HST1 HST2 HG HOC HGB HOU HX0 HX1 HPA hBw HBX HC v0 hz
            rcases hgk with ⟨rfl, ha0, ha1, rfl⟩ | ⟨rfl, ⟨ha0, ha1⟩, rfl⟩ | ⟨hk, ⟨ha0, ha1⟩, ⟨hb0, hb1⟩⟩
            · have hT := HT.out 1 xa 0 (by simp [movedL])
              have g5 := G5.out 1 xa 0
              have HT1 : Hid _ := hT
              have G51 : Hid _ := g5
              clear HT G5 hT g5
              go_wp2_with fail
              refine g1.mono ?_
              rintro e w5 ⟨rfl, rfl⟩
              clear g1
              go_wp2_with fail
              go_region_with (go_at_call 59; refine (G51.out _ (by first | exact Below.refl _ _ | exact (Below.refl _ _).drew | exact (Below.refl _ _).drew.drew)).mono ?_; rintro e w6 ⟨rfl, hs6⟩; obtain ⟨⟨t1, t2, ⟨tu, t3⟩, t4, t5, t6, t7⟩, ⟨t8, t9⟩, t10⟩ := HT1.out w6 hs6; obtain ⟨ta0, ta1, ta2⟩ := t1.cells; have tah := t1.heap; have tal := t1.lt; obtain ⟨tb0, tb1, tb2⟩ := t2.cells; have tbh := t2.heap; have tbl := t2.lt; have HS6 : Hid _ := hs6; clear hs6 t1 t2)
              all_goals
                obtain ⟨tc0, tc1, tc2⟩ := t5.cells
                have tch := t5.heap
                have tcl := t5.lt
                obtain ⟨td0, td1, td2⟩ := t6.cells
                have tdh := t6.heap
                have tdl := t6.lt
                clear t5 t6
                go_wp2_with (at_builtin; refine wpList_append_own _ rfl _ _ 24 rfl wx.heap.size 91 j0 (.agg #[.int .i64 0, .int .i64 0, .int .i64 0]) 3 24 Try.underlying24 hj hy0 hy1 hy2 rfl (by decide) _ _ _ rfl t8 ⟨(w6.setCell ⟨q, Kk, none⟩ (.int .i64 (V : Int))).heap.size, 0, none⟩ 1 1 [.int .i64 1, .int .i64 xa, .int .i64 0] (by simp [Act.eval, Act.put, World.setCell]) rfl (oneG_cells (w6.setCell ⟨q, Kk, none⟩ (.int .i64 (V : Int))) 1 xa 0) (flat3_one [(1, xa, 0)]) (by unfold maxLen; omega) (by omega) t9 ?_)
                intro v8 w8 own8 grow8 _
                obtain ⟨HP8, HB9, HL9, HO9⟩ := t10 v8 w8 own8 grow8
                obtain ⟨va, vcap, hv8⟩ := own_shape own8
                subst hv8
                obtain ⟨r0, r1, r2⟩ := HP8.cells
                have hhP8 := HP8.heap
                have hPlt8 := HP8.lt
                have rf1 := HP8.frozen 1
                have HP9 : Hid _ := HP8.set1 (.slice va (og.length + 1) vcap)
                clear t8 t9 t10 HP8 own8 grow8
                go_wp2_with fail
                go_roundw
                case rel => exact ⟨k + 1, _, by omega, by go_num, HP9, HL9, HO9, HB9⟩
                case measure => simp [intOf]; omega
            · obtain ⟨A, rfl⟩ := Int.eq_ofNat_of_zero_le ha0
              have rA := HRD.out A (by omega)
              have hT := HT.out 2 (atI p A) 0 (by simp [movedL])
              have g5 := G5.out 2 (atI p A) 0
              have hAN : (A : Int) < (N : Int) := by omega
              generalize atI p (A : Int) = na at *
              have HT1 : Hid _ := hT
              have G51 : Hid _ := g5
              clear HT G5 hT g5
              go_wp2_with fail
              refine g1.mono ?_
              rintro e w5 ⟨rfl, rfl⟩
              clear g1
              go_wp2_with fail
              go_region_with (go_at_call 59; refine (G51.out _ (by first | exact Below.refl _ _ | exact (Below.refl _ _).drew | exact (Below.refl _ _).drew.drew)).mono ?_; rintro e w6 ⟨rfl, hs6⟩; obtain ⟨⟨t1, t2, ⟨tu, t3⟩, t4, t5, t6, t7⟩, ⟨t8, t9⟩, t10⟩ := HT1.out w6 hs6; obtain ⟨ta0, ta1, ta2⟩ := t1.cells; have tah := t1.heap; have tal := t1.lt; obtain ⟨tb0, tb1, tb2⟩ := t2.cells; have tbh := t2.heap; have tbl := t2.lt; have HS6 : Hid _ := hs6; clear hs6 t1 t2)
              all_goals
                obtain ⟨tc0, tc1, tc2⟩ := t5.cells
                have tch := t5.heap
                have tcl := t5.lt
                obtain ⟨td0, td1, td2⟩ := t6.cells
                have tdh := t6.heap
                have tdl := t6.lt
                clear t5 t6
                go_wp2_with (at_builtin; refine wpList_append_own _ rfl _ _ 24 rfl wx.heap.size 91 j0 (.agg #[.int .i64 0, .int .i64 0, .int .i64 0]) 3 24 Try.underlying24 hj hy0 hy1 hy2 rfl (by decide) _ _ _ rfl t8 ⟨(w6.setCell ⟨q, Kk, none⟩ (.int .i64 (V : Int))).heap.size, 0, none⟩ 1 1 [.int .i64 2, .int .i64 na, .int .i64 0] (by simp [Act.eval, Act.put, World.setCell]) rfl (oneG_cells (w6.setCell ⟨q, Kk, none⟩ (.int .i64 (V : Int))) 2 na 0) (flat3_one [(2, na, 0)]) (by unfold maxLen; omega) (by omega) t9 ?_)
                intro v8 w8 own8 grow8 _
                obtain ⟨HP8, HB9, HL9, HO9⟩ := t10 v8 w8 own8 grow8
                obtain ⟨va, vcap, hv8⟩ := own_shape own8
                subst hv8
                obtain ⟨r0, r1, r2⟩ := HP8.cells
                have hhP8 := HP8.heap
                have hPlt8 := HP8.lt
                have rf1 := HP8.frozen 1
                have HP9 : Hid _ := HP8.set1 (.slice va (og.length + 1) vcap)
                clear t8 t9 t10 HP8 own8 grow8
                go_wp2_with fail
                go_roundw
                case rel => exact ⟨k + 1, _, by omega, by go_num, HP9, HL9, HO9, HB9⟩
                case measure => simp [intOf]; omega
            · obtain ⟨A, rfl⟩ := Int.eq_ofNat_of_zero_le ha0
              obtain ⟨Bw, rfl⟩ := Int.eq_ofNat_of_zero_le hb0
              have rA := HRD.out A (by omega)
              have rB := HRD.out Bw (by omega)
              have hT := HT.out kk (atI p A) (atI p Bw) (by unfold movedL; rw [if_pos hk])
              have g5 := G5.out kk (atI p A) (atI p Bw)
              have hAN : (A : Int) < (N : Int) := by omega
              have hBN : (Bw : Int) < (N : Int) := by omega
              generalize atI p (A : Int) = na at *
              generalize atI p (Bw : Int) = nb at *
              rcases hk with rfl | rfl | rfl
              all_goals
                have HT1 : Hid _ := hT
                have G51 : Hid _ := g5
                clear HT G5 hT g5
                go_wp2_with fail
                refine g1.mono ?_
                rintro e w5 ⟨rfl, rfl⟩
                clear g1
                go_wp2_with fail
                go_region_with (go_at_call 59; refine (G51.out _ (by first | exact Below.refl _ _ | exact (Below.refl _ _).drew | exact (Below.refl _ _).drew.drew)).mono ?_; rintro e w6 ⟨rfl, hs6⟩; obtain ⟨⟨t1, t2, ⟨tu, t3⟩, t4, t5, t6, t7⟩, ⟨t8, t9⟩, t10⟩ := HT1.out w6 hs6; obtain ⟨ta0, ta1, ta2⟩ := t1.cells; have tah := t1.heap; have tal := t1.lt; obtain ⟨tb0, tb1, tb2⟩ := t2.cells; have tbh := t2.heap; have tbl := t2.lt; have HS6 : Hid _ := hs6; clear hs6 t1 t2)
                all_goals
                  obtain ⟨tc0, tc1, tc2⟩ := t5.cells
                  have tch := t5.heap
                  have tcl := t5.lt
                  obtain ⟨td0, td1, td2⟩ := t6.cells
                  have tdh := t6.heap
                  have tdl := t6.lt
                  clear t5 t6
                  go_wp2_with (at_builtin; refine wpList_append_own _ rfl _ _ 24 rfl wx.heap.size 91 j0 (.agg #[.int .i64 0, .int .i64 0, .int .i64 0]) 3 24 Try.underlying24 hj hy0 hy1 hy2 rfl (by decide) _ _ _ rfl t8 ⟨(w6.setCell ⟨q, Kk, none⟩ (.int .i64 (V : Int))).heap.size, 0, none⟩ 1 1 [.int .i64 _, .int .i64 na, .int .i64 nb] (by simp [Act.eval, Act.put, World.setCell]) rfl (oneG_cells (w6.setCell ⟨q, Kk, none⟩ (.int .i64 (V : Int))) _ na nb) (flat3_one [(_, na, nb)]) (by unfold maxLen; omega) (by omega) t9 ?_)
                  intro v8 w8 own8 grow8 _
                  obtain ⟨HP8, HB9, HL9, HO9⟩ := t10 v8 w8 own8 grow8
                  obtain ⟨va, vcap, hv8⟩ := own_shape own8
                  subst hv8
                  obtain ⟨r0, r1, r2⟩ := HP8.cells
                  have hhP8 := HP8.heap
                  have hPlt8 := HP8.lt
                  have rf1 := HP8.frozen 1
                  have HP9 : Hid _ := HP8.set1 (.slice va (og.length + 1) vcap)
                  clear t8 t9 t10 HP8 own8 grow8
                  go_wp2_with fail
                  go_roundw
                  case rel => exact ⟨k + 1, _, by omega, by go_num, HP9, HL9, HO9, HB9⟩
                  case measure => simp [intOf]; omega
        · obtain rfl : k = gs.length := by omega
          rw [hN] at HL HO hpl1 hpl2
          have HOw : Hid (wr.ownsRow wx.heap.size 91 3 gsl (pruneJ F I gs N).2.length (flat3 (pruneJ F I gs N).2)) := HO.out
          obtain ⟨sa, scap, hsl⟩ := own_shape HOw.out
          subst hsl
          have HX1' : Hid (Box3 wr (w.heap.size + 1) 27 (.int .i64 0) (.slice none 0 0) (.slice none 0 0)) := HX1.out.but HB.out (by omega) (by omega)
          have HBw : Hid (Below w.heap.size w wr) := hBw
          have hw := hBw.size
          clear HO HX0 HB HBX HX1 HPA HG HGB hBw HC
          obtain ⟨p, HPp⟩ : ∃ p, Hid ((pruneJ F I gs N).1 = p) := ⟨_, rfl⟩
          obtain ⟨og, HPo⟩ : ∃ og, Hid ((pruneJ F I gs N).2 = og) := ⟨_, rfl⟩
          rw [HPp.out] at HL hpl1
          rw [HPo.out] at HOw hpl2 HP
          obtain ⟨ogn, hogn⟩ : ∃ ogn, og.length = ogn := ⟨_, rfl⟩
          rw [hogn] at HP HOw hpl2
          have HGN : Hid (og.length = ogn) := hogn
          clear hogn
          obtain ⟨c0, c1, c2⟩ := u0.cells
          have hh := u0.heap
          have hlt1 := u0.lt
          clear u0
          have hPr := HP.out.lt
          have hqr := (own_block HL.out rfl).2
          go_wp2_with fail
          clear c0 c1 c2 hh hlt1
          rename World => wy
          rename World => wy
          go_loopw [87] (fun i w6 => ∃ (jj : Nat) (osl : Value), jj ≤ os.length ∧ i = .int .i64 jj ∧ Hid (Box3 w6 P 27 (.int .i64 (I : Int)) (.slice sa ogn scap) osl) ∧ Hid (w6.ownsRow (P + 1) 3 1 (.slice (some ⟨q, 0, none⟩) N N) N (cellsI p)) ∧ Hid (w6.ownsRow wx.heap.size 91 3 (.slice sa ogn scap) ogn (flat3 og)) ∧ Hid (OwnInts w6 wy.heap.size osl ((os.take jj).map (atI p))) ∧ Hid (But2 P q wy w6)) (fun i _ => os.length - (intOf i).toNat)
          case atStart => exact ⟨0, _, by omega, rfl, HP, HL, HOw, World.ownsRow_nil _ _ _ _, But2.refl _ _ _⟩
          case round =>
            obtain ⟨jj, osl, hjj, rfl, HP6, HL6, HG6, HO6, HB6⟩ := hrel
            have hsz6 := HB6.out.size
            by_cases hlt2 : jj < os.length
            · obtain ⟨x, hx⟩ : ∃ x, os[jj]? = some x := ⟨os[jj], List.getElem?_eq_getElem hlt2⟩
              have hBw6 : Below w.heap.size w wr := HB6.out.out HBw.out (by omega) (by omega) (by omega)
              obtain ⟨b, off, rfl, hbw, d0⟩ := HOC.out wr hBw6 jj x hx
              obtain ⟨hx0, hx1⟩ := HOU.out x (List.mem_of_getElem? hx)
              obtain ⟨X, rfl⟩ := Int.eq_ofNat_of_zero_le hx0
              have hXj : X < N := by have := HNI.out; omega
              have hXj' : (X : Int) < (N : Int) := by omega
              have d1 := ints_read HL6.out X hXj
              generalize hz : atI p (X : Int) = z at *
              have hml : ((os.take jj).map (atI p)).length = jj := by rw [List.length_map, List.length_take_of_le (by omega)]
              have own5 : wr.ownsRow wy.heap.size 3 1 osl jj (((os.take jj).map (atI p)).map (Value.int .i64)) := by
                have h5 := HO6.out
                unfold OwnInts at h5
                rw [hml] at h5
                exact h5
              have HNX : Hid (((os.take (jj + 1)).map (atI p)) = ((os.take jj).map (atI p)) ++ [z]) := by
                show ((os.take (jj + 1)).map (atI p)) = _
                rw [List.take_add_one, hx, List.map_append]
                simp [hz]
              obtain ⟨va, vc5, hv5⟩ := own_shape own5
              subst hv5
              have own6 : (wr.drew.alloc (.cells #[.int .i64 z] 3)).ownsRow wy.heap.size 3 1 (.slice va jj vc5) jj (((os.take jj).map (atI p)).map (Value.int .i64)) := World.ownsRow.alloc (w := wr.drew) own5 _
              have hcb : wy.heap.size ≤ (wr.drew.alloc (.cells #[.int .i64 z] 3)).heap.size := by
                rw [World.size_alloc]
                show wy.heap.size ≤ wr.heap.size + 1
                omega
              have cells6 : ∀ (i : Nat) (u : Value), ([.int .i64 z] : List Value)[i]? = some u → (wr.drew.alloc (.cells #[.int .i64 z] 3)).cell? ((⟨wr.heap.size, 0, none⟩ : Addr).add i) = some u := oneI_cells wr.drew z
              have HE : Hid (∀ (v8 : Value) (w8 : World), w8.ownsRow wy.heap.size 3 1 v8 (jj + 1) (((os.take jj).map (atI p)).map (Value.int .i64) ++ [.int .i64 z]) → (wr.drew.alloc (.cells #[.int .i64 z] 3)).grownBy w8 (Value.slice va jj vc5).ownBlock → Box3 w8 P 27 (.int .i64 (I : Int)) (.slice sa ogn scap) (.slice va jj vc5) ∧ Hid (But2 P q wy (w8.setCell ⟨P, 2, none⟩ v8)) ∧ Hid ((w8.setCell ⟨P, 2, none⟩ v8).ownsRow (P + 1) 3 1 (.slice (some ⟨q, 0, none⟩) N N) N (cellsI p)) ∧ Hid ((w8.setCell ⟨P, 2, none⟩ v8).ownsRow wx.heap.size 91 3 (.slice sa ogn scap) ogn (flat3 og)) ∧ Hid (OwnInts (w8.setCell ⟨P, 2, none⟩ v8) wy.heap.size v8 ((os.take (jj + 1)).map (atI p)))) := by
                intro v8 w8 own8 grow8
                have hgr := grow_row (w' := w8) own6
                have hdr : But2 P q wy (wr.drew.alloc (.cells #[.int .i64 z] 3)) := (HB6.out.below ((Below.refl wr.heap.size wr).drew) hsz6).alloc _
                have hP6 : Box3 (wr.drew.alloc (.cells #[.int .i64 z] 3)) P 27 (.int .i64 (I : Int)) (.slice sa ogn scap) (.slice va jj vc5) := Box3.alloc (w := wr.drew) ⟨HP6.out.heap⟩ _
                have hL6 : (wr.drew.alloc (.cells #[.int .i64 z] 3)).ownsRow (P + 1) 3 1 (.slice (some ⟨q, 0, none⟩) N N) N (cellsI p) := World.ownsRow.alloc (w := wr.drew) HL6.out _
                have hG6 : (wr.drew.alloc (.cells #[.int .i64 z] 3)).ownsRow wx.heap.size 91 3 (.slice sa ogn scap) ogn (flat3 og) := World.ownsRow.alloc (w := wr.drew) HG6.out _
                have hG8 : w8.ownsRow wx.heap.size 91 3 (.slice sa ogn scap) ogn (flat3 og) := own_keep hG6 (fun g hg => grow8.block g (own_block hG6 hg).2 (fun e => by
                  have h1 := own_block own6 (e.symm)
                  have h2 := own_block HOw.out hg
                  omega))
                refine ⟨hP6.grown grow8 (fun e => by have := hgr _ e; omega), (hdr.grown grow8 hgr).set (Or.inl rfl), own_set' (own_grown hL6 grow8 (fun e => by have := hgr _ e; omega)) (by omega), own_set hG8 (by omega), ?_⟩
                show OwnInts (w8.setCell ⟨P, 2, none⟩ v8) wy.heap.size v8 ((os.take (jj + 1)).map (atI p))
                rw [HNX.out]
                unfold OwnInts
                rw [List.length_append, hml, List.map_append]
                exact own_set own8 (by omega)
              obtain ⟨k0, k1, k2⟩ := HP6.out.cells
              have hhP := HP6.out.heap
              have hPlt := HP6.out.lt
              have hqlt := (own_block HL6.out rfl).2
              clear HP6 HL6 HG6 HO6 HB6 own5 HNX hml hx hx1 HOC HOU hBw6 HP HL HOw HX1' HBw HPp HPo
              go_wp2_with fail
              go_region_law (refine step_append_own rfl _ _ 25 rfl wy.heap.size 3 i0 (.int .i64 0) 1 8 Try.underlying25 hi hz0 hz1 hz2 rfl (by decide) (.slice va jj vc5) _ _ (by simp [Act.eval, Act.put]) own6 ⟨wr.heap.size, 0, none⟩ 1 1 [.int .i64 z] (by simp [Act.eval, Act.put]) rfl cells6 (ints_one [z]) (by unfold maxLen; omega) (by omega) hcb ?_; intro v8 w8 own8 grow8; obtain ⟨HP8, HB9, HL9, HG9, HO9⟩ := HE.out v8 w8 own8 grow8; obtain ⟨va8, vcap8, hv8⟩ := own_shape own8; subst hv8; obtain ⟨r0, r1, r2⟩ := HP8.cells; have hhP8 := HP8.heap; have hPlt8 := HP8.lt; have rf1 := HP8.frozen 2; have HP9 : Hid _ := HP8.set2 (.slice va8 (jj + 1) vcap8); clear own8 grow8 HP8)
              all_goals
                go_wp2_with fail
                go_roundw
                case rel => exact ⟨jj + 1, _, by omega, by go_num, by assumption, by assumption, by assumption, by assumption, by assumption⟩
                case measure => simp [intOf]; omega
            · obtain rfl : jj = os.length := by omega
              have hOs : wr.ownsRow wy.heap.size 3 1 osl (os.map (atI p)).length ((os.map (atI p)).map (Value.int .i64)) := by
                have h1 := HO6.out
                rw [List.take_length] at h1
                exact h1
              obtain ⟨va, vcap, hv⟩ := own_shape hOs
              have hX := HX1'.out.but HB6.out (by omega) (by omega)
              have hBw6 : Below w.heap.size w wr := HB6.out.out HBw.out (by omega) (by omega) (by omega)
              obtain ⟨k0, k1, k2⟩ := HP6.out.cells
              have hhP := HP6.out.heap
              have hPlt := HP6.out.lt
              obtain ⟨l0, l1, l2⟩ := hX.cells
              have hhX := hX.heap
              have hXlt := hX.lt
              have lf0 := hX.frozen 0
              have lf1 := hX.frozen 1
              have lf2 := hX.frozen 2
              have hPX : P ≠ w.heap.size + 1 := by omega
              subst hv
              have HZ : Hid _ := ((hX.set0 (.int .i64 (I : Int))).set1 (.slice sa ogn scap)).set2 (.slice va (os.map (atI p)).length vcap)
              have HBZ : Hid _ := ((hBw6.setCell (p := ⟨w.heap.size + 1, 0, none⟩) (Nat.le_succ _) (.int .i64 (I : Int))).setCell (p := ⟨w.heap.size + 1, 1, none⟩) (Nat.le_succ _) (.slice sa ogn scap)).setCell (p := ⟨w.heap.size + 1, 2, none⟩) (Nat.le_succ _) (.slice va (os.map (atI p)).length vcap)
              have HGZ : Hid _ := ((rowIn_of (own_base HG6.out (show w.heap.size + 1 + 1 ≤ wx.heap.size by omega))).set (o := 0) (x := .int .i64 (I : Int)) (Or.inl (Nat.lt_succ_self (w.heap.size + 1)))).set (o := 1) (x := .slice sa ogn scap) (Or.inl (Nat.lt_succ_self (w.heap.size + 1))) |>.set (o := 2) (x := .slice va (os.map (atI p)).length vcap) (Or.inl (Nat.lt_succ_self (w.heap.size + 1)))
              have HOZ : Hid _ := ((rowIn_of (own_base hOs (show w.heap.size + 1 + 1 ≤ wy.heap.size by omega))).set (o := 0) (x := .int .i64 (I : Int)) (Or.inl (Nat.lt_succ_self (w.heap.size + 1)))).set (o := 1) (x := .slice sa ogn scap) (Or.inl (Nat.lt_succ_self (w.heap.size + 1))) |>.set (o := 2) (x := .slice va (os.map (atI p)).length vcap) (Or.inl (Nat.lt_succ_self (w.heap.size + 1)))
              clear HP6 HL6 HG6 HO6 HB6 hOs hX hBw6 HX1' HBw HOC HOU HP HL HOw
              generalize hmn : (os.map (atI p)).length = mn at *
              go_wp2_with fail
              refine bodyPost_ret (results_c1 rfl _ _ (w.heap.size + 1) 27 _ (0, 0) _ rfl HZ.out.heap Try.underlying27 rfl (by kernel_rfl)) rfl ?_
              refine ⟨_, rfl, ⟨.slice sa ogn scap, .slice va mn vcap, rfl, ?_, ?_⟩, HBZ.out⟩
              · show RowIn _ w.heap.size _ 91 3 _ (pruneJ F I gs N).2.length (flat3 (pruneJ F I gs N).2)
                rw [HPo.out, HGN.out]
                exact RowIn.weak HGZ.out (by omega) (by simp [World.setCell]) (Nat.le_refl _)
              · show RowIn _ w.heap.size _ 3 1 _ (os.map (atI (pruneJ F I gs N).1)).length (cellsI (os.map (atI (pruneJ F I gs N).1)))
                rw [HPp.out, hmn]
                exact RowIn.weak HOZ.out (by omega) (by simp [World.setCell]) (Nat.le_refl _)
theorem sPrune_any (v : Value) (c : Ci) (w : World) (h : AtC w v c) :
    Calls Try.prog 36 #[v] w fun e w' => ∃ r, e = .returned (.tuple #[r, .bool (goodC c)]) ∧ OwnCirc w' w.heap.size w'.heap.size r (pruneL c) ∧ Below w.heap.size w w' := by
  cases hgd : goodC c with
  | false =>
    have g := sPrune_bad v c hgd w h
    rw [hgd] at g
    exact g
  | true =>
    have g := sPrune_good v c hgd w h
    have e : pruneL c = pruneC c := by unfold pruneL; rw [if_pos hgd]
    rw [e]
    exact g
end Go.Proofs.Ytnagaanagcmdgaa
