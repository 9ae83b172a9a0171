/-
  The program's PruneCircuit.
-/
import Derived.Test.YtnagaanagcmdgaaBut
namespace Go.Proofs.Ytnagaanagcmdgaa
open Go Go.RowKit
open M
set_option linter.unusedVariables false
set_option linter.unusedSimpArgs false

set_option maxRecDepth 100000 in
set_option maxHeartbeats 4000000 in
theorem iPrune_bad (v : Value) (c : Ci) (hgd : goodC c = false) (w : World) (h : AtC w v c) :
    Calls Try.prog 35 #[v] w fun e w' => ∃ r, e = .returned (.tuple #[r, .bool (goodC c)]) ∧ OwnCirc w' w.heap.size w'.heap.size r (pruneL c) ∧ Below w.heap.size w w' := by
  obtain ⟨ga, gn, gc, oa, on, oc, hv⟩ := h.at.shape
  subst hv
  have hb0 : Below w.heap.size w ((w.alloc (.cells #[.int .i64 c.1, .slice ga gn gc, .slice oa on oc] 27)).alloc (.cells #[.int .i64 0, .slice none 0 0, .slice none 0 0] 27)) := below2 _ _ _
  have x1 := box3_alloc (w.alloc (.cells #[.int .i64 c.1, .slice ga gn gc, .slice oa on oc] 27)) 27 (.int .i64 0) (.slice none 0 0) (.slice none 0 0)
  simp only [World.size_alloc] at x1
  have g1 := iGood_any _ c _ (h.below hb0).at
  have hpl : pruneL c = (0, [], []) := by unfold pruneL; rw [if_neg (by rw [hgd]; decide)]
  rw [hpl, hgd]
  rw [hgd] at g1
  have hsz : ((w.alloc (.cells #[.int .i64 c.1, .slice ga gn gc, .slice oa on oc] 27)).alloc (.cells #[.int .i64 0, .slice none 0 0, .slice none 0 0] 27)).heap.size = w.heap.size + 1 + 1 := by simp only [World.size_alloc]
  go_enter Try.func35, Try.ntmps35
  go_wp2_with fail
  refine g1.mono ?_
  rintro e w1 ⟨rfl, hs⟩
  have hb1 := Below.step hb0 hb0.size hs
  have y1 := x1.below hs (by omega)
  obtain ⟨c0, c1, c2⟩ := y1.cells
  have f0 := y1.frozen 0
  have f1 := y1.frozen 1
  have f2 := y1.frozen 2
  have hh := y1.heap
  have hlt1 := y1.lt
  clear g1 h
  go_wp2_with fail
  have z1 := ((y1.set0 (.int .i64 0)).set1 (.slice none 0 0)).set2 (.slice none 0 0)
  have hb2 := ((hb1.setCell (p := ⟨w.heap.size + 1, 0, none⟩) (Nat.le_succ _) (.int .i64 0)).setCell (p := ⟨w.heap.size + 1, 1, none⟩) (Nat.le_succ _) (.slice none 0 0)).setCell (p := ⟨w.heap.size + 1, 2, none⟩) (Nat.le_succ _) (.slice none 0 0)
  refine bodyPost_ret (results_c1 rfl _ _ (w.heap.size + 1) 27 _ (0, 0) _ rfl z1.heap Try.underlying27 rfl (by kernel_rfl)) rfl ?_
  exact ⟨_, rfl, ⟨_, _, rfl, rowIn_of (World.ownsRow_nil _ _ _ _), rowIn_of (World.ownsRow_nil _ _ _ _)⟩, hb2⟩
set_option maxRecDepth 100000 in
set_option maxHeartbeats 8000000 in
theorem iPrune_good (v : Value) (c : Ci) (hgd : goodC c = true) (w : World) (h : AtC w v c) :
    Calls Try.prog 35 #[v] w fun e w' => ∃ r, e = .returned (.tuple #[r, .bool true]) ∧ OwnCirc w' w.heap.size w'.heap.size r (pruneC c) ∧ Below w.heap.size w w' := by
  have hat := h.at
  obtain ⟨hfit, gw, o, hv, h1, h2, _⟩ := h
  obtain ⟨ga, gc, hgw, hg⟩ := h1.opened
  obtain ⟨oa, oc, ho, hoc⟩ := h2.opened
  subst hgw ho hv
  obtain ⟨hI0, hI1, hG, hO, hgb, hout⟩ := goodC_ins hgd
  have hb0 : Below w.heap.size w ((w.alloc (.cells #[.int .i64 c.1, .slice ga c.2.1.length gc, .slice oa c.2.2.length oc] 27)).alloc (.cells #[.int .i64 0, .slice none 0 0, .slice none 0 0] 27)) := below2 _ _ _
  have x0 := (box3_alloc w 27 (.int .i64 c.1) (.slice ga c.2.1.length gc) (.slice oa c.2.2.length oc)).alloc (.cells #[.int .i64 0, .slice none 0 0, .slice none 0 0] 27)
  have x1 := box3_alloc (w.alloc (.cells #[.int .i64 c.1, .slice ga c.2.1.length gc, .slice oa c.2.2.length oc] 27)) 27 (.int .i64 0) (.slice none 0 0) (.slice none 0 0)
  simp only [World.size_alloc] at x1
  have g1 := iGood_any _ c _ (hat.below hb0)
  rw [hgd] at g1
  have hsz : ((w.alloc (.cells #[.int .i64 c.1, .slice ga c.2.1.length gc, .slice oa c.2.2.length oc] 27)).alloc (.cells #[.int .i64 0, .slice none 0 0, .slice none 0 0] 27)).heap.size = w.heap.size + 1 + 1 := by simp only [World.size_alloc]
  have HG : Hid (∀ (w1 : World), Below w.heap.size w w1 → ∀ (i : Nat) (x : Gt), c.2.1[i]? = some x → ∃ b off : Nat, ga = some ⟨b, off, none⟩ ∧ b < w.heap.size ∧ GateAt w1 b (off + i * 3) x) := fun w1 hb i x hx => by
    obtain ⟨b, off, e, hlt, hat⟩ := hg i x hx
    exact ⟨b, off, e, hlt, hat.below hb hlt⟩
  have HOC : Hid (∀ (w1 : World), Below w.heap.size w w1 → ∀ (i : Nat) (x : Int), c.2.2[i]? = some x → ∃ b off : Nat, oa = some ⟨b, off, none⟩ ∧ b < w.heap.size ∧ w1.cell? ⟨b, off + i, none⟩ = some (.int .i64 x)) := fun w1 hb i x hx => by
    obtain ⟨b, off, e, hlt, hc⟩ := hoc i x hx
    exact ⟨b, off, e, hlt, by rw [hb.cell (p := ⟨b, off + i, none⟩) hlt]; exact hc⟩
  have HGB : Hid (∀ (i : Nat) (x : Gt), c.2.1[i]? = some x → gateB (c.1 + i) x = true) := fun i x hx => gatesB_at hgb hx
  have HOU : Hid (∀ x ∈ c.2.2, 0 ≤ x ∧ x < c.1 + c.2.1.length) := hout
  have GC : Hid (∀ (w1 : World), Below w.heap.size w w1 → Calls Try.prog 80 #[.agg #[.int .i64 c.1, .slice ga c.2.1.length gc, .slice oa c.2.2.length oc], .slice oa c.2.2.length oc] w1 fun e w' => ∃ r, e = .returned r ∧ OwnBools w' w1.heap.size r (coneF c c.2.2) ∧ Below w1.heap.size w1 w') := fun w1 hb => cone_any _ _ c c.2.2 hgd hout w1 (hat.below hb) (h2.below hb)
  have hFl := coneF_len c c.2.2
  unfold pruneC pruneG
  generalize coneF c c.2.2 = F at *
  obtain ⟨ins, gs, os⟩ := c
  simp only at *
  clear hg hoc h1 h2 hgb hfit hgd hout hat
  obtain ⟨I, rfl⟩ := Int.eq_ofNat_of_zero_le hI0
  rw [Int.toNat_natCast] at *
  obtain ⟨N, hN⟩ : ∃ N : Nat, I + gs.length = N := ⟨_, rfl⟩
  have hNI : (I : Int) + (gs.length : Int) = (N : Int) := by omega
  have HNI : Hid ((I : Int) + (gs.length : Int) = (N : Int)) := hNI
  have GW : Hid (∀ w1 : World, Calls Try.prog 62 #[.agg #[.int .i64 (I : Int), .slice ga gs.length gc, .slice oa os.length oc]] w1 fun e w' => e = .returned (.int .i64 (N : Int)) ∧ Below w1.heap.size w1 w') := fun w1 => by
    have g := size_raw (I : Int) ga gs.length gc (.slice oa os.length oc) (by omega) (by omega) (by omega) w1
    rw [hNI] at g
    refine g.mono ?_
    rintro e w' ⟨he, hw⟩
    exact ⟨he, by rw [hw]; exact (Below.refl _ _).alloc (Nat.le_refl _) _⟩
  have HPA : Hid (pruneJ F I gs N = pruneK F I gs gs.length) := by
    show pruneJ F I gs N = pruneK F I gs gs.length
    rw [← hN]
    exact pruneJ_all _ _ _
  rw [← HPA.out]
  clear hNI
  have hlt0 := x0.lt
  obtain ⟨i0, hi, hz0, hz1, hz2⟩ := info_parts infoInt
  obtain ⟨j0, hj, hy0, hy1, hy2⟩ := info_parts infoGate
  go_enter Try.func35, Try.ntmps35
  go_wp2_with fail
  refine g1.mono ?_
  rintro e w1 ⟨rfl, hs⟩
  have hb1 := Below.step hb0 hb0.size hs
  have y0 := x0.below hs (by omega)
  have y1 := x1.below hs (by omega)
  obtain ⟨c0, c1, c2⟩ := y0.cells
  have hh := y0.heap
  have hlt1 := y0.lt
  have hsz1 := hs.size
  rw [hsz] at hsz1
  clear g1 hs hb0 x0 x1 hsz hlt0
  have hb2 : Below w.heap.size w (w1.alloc (.cells #[.int .i64 (I : Int), .slice none 0 0, .slice none 0 0] 27)) := hb1.alloc hb1.size _
  have y0' := y0.alloc (.cells #[.int .i64 (I : Int), .slice none 0 0, .slice none 0 0] 27)
  have y1' := y1.alloc (.cells #[.int .i64 (I : Int), .slice none 0 0, .slice none 0 0] 27)
  have y2' := box3_alloc w1 27 (.int .i64 (I : Int)) (.slice none 0 0) (.slice none 0 0)
  go_wp2_with fail
  refine (GW.out _).mono ?_
  rintro e w2 ⟨rfl, hs2⟩
  have hsa : (w1.alloc (.cells #[.int .i64 (I : Int), .slice none 0 0, .slice none 0 0] 27)).heap.size = w1.heap.size + 1 := by simp only [World.size_alloc]
  rw [hsa] at hs2
  have hsz2 := hs2.size
  rw [hsa] at hsz2
  have hb3 : Below w.heap.size w w2 := hb2.trans (hs2.mono (by omega))
  have z0 := y0'.below hs2 (by omega)
  have z1 := y1'.below hs2 (by omega)
  have z2 := y2'.below hs2 (by omega)
  clear c0 c1 c2 hh hlt1 y0 y1 y0' y1' y2' hb2 hsa hs2 hb1
  generalize hP : w1.heap.size = P at *
  go_wp2_with (at_make; refine wpList_make_full _ rfl _ _ 25 rfl (P + 1) 3 i0 (.int .i64 0) 1 Try.underlying25 hi hz0 hz1 .i64 .i64 _ _ N rfl rfl (by omega) (by omega) (by rw [hz2]; omega) (by unfold maxLen; omega) (by omega) ?_)
  intro w3 hown hgrow
  have hb4 : Below w2.heap.size w2 w3 := (Below.refl _ _).grown hgrow (Nat.le_refl _) (fun k hk => by cases hk)
  have own3 : w3.ownsRow (P + 1) 3 1 (.slice (some ⟨w2.heap.size, 0, none⟩) N N) N (cellsI (List.replicate N 0)) := by
    have h2 := hown
    rw [toList_madeCells_one] at h2
    unfold cellsI
    rw [List.map_replicate]
    exact h2
  clear hown hgrow
  have z0' := z0.below hb4 (by omega)
  have z1' := z1.below hb4 (by omega)
  have z2' := z2.below hb4 (by omega)
  have hb5 : Below w.heap.size w w3 := hb3.trans (hb4.mono (by omega))
  have hq3 : w2.heap.size < w3.heap.size := (own_block own3 rfl).2
  clear z0 z1 z2 hb3 hb4
  generalize hQ : w2.heap.size = q at *
  obtain ⟨c0, c1, c2⟩ := z0'.cells
  have hh := z0'.heap
  have hlt1 := z0'.lt
  go_wp2_with fail
  refine (GC.out w3 hb5).mono ?_
  rintro e wx ⟨r, rfl, hor, hs6⟩
  have HBX : Hid (Below w.heap.size w wx) := hb5.trans (hs6.mono (by omega))
  have HX0 : Hid (Box3 wx w.heap.size 27 (.int .i64 (I : Int)) (.slice ga gs.length gc) (.slice oa os.length oc)) := z0'.below hs6 z0'.lt
  have HX1 : Hid (Box3 wx (w.heap.size + 1) 27 (.int .i64 0) (.slice none 0 0) (.slice none 0 0)) := z1'.below hs6 z1'.lt
  have HX2 : Hid (Box3 wx P 27 (.int .i64 (I : Int)) (.slice none 0 0) (.slice none 0 0)) := z2'.below hs6 z2'.lt
  have HPL : Hid (wx.ownsRow (P + 1) 3 1 (.slice (some ⟨q, 0, none⟩) N N) N (cellsI (pruneJ F I gs 0).1)) := by
    show wx.ownsRow (P + 1) 3 1 (.slice (some ⟨q, 0, none⟩) N N) N (cellsI (pruneJ F I gs 0).1)
    rw [pruneJ_zero, hN]
    exact owns_below own3 hs6
  have hsx := hs6.size
  have hqx : q < wx.heap.size := by omega
  obtain ⟨ra, rcap, hr⟩ := own_shape hor
  subst hr
  have HR : Hid (wx.ownsRow w3.heap.size 4 1 (.slice ra F.length rcap) F.length (cellsB F)) := hor
  clear hor hs6 z0' z1' z2' hb5 own3 c0 c1 c2 hh hlt1 GC
  rw [hN] at hFl
  rw [hFl] at HR
  rw [hFl]
  go_wp2_with fail
  go_loopw [25] (fun i wr => ∃ (j : Nat) (gsl : Value), j ≤ N ∧ i = .int .i64 j ∧ Hid (Box3 wr P 27 (.int .i64 (I : Int)) gsl (.slice none 0 0)) ∧ Hid (wr.ownsRow (P + 1) 3 1 (.slice (some ⟨q, 0, none⟩) N N) N (cellsI (pruneJ F I gs j).1)) ∧ Hid (OwnGates wr wx.heap.size gsl (pruneJ F I gs j).2) ∧ Hid (But2 P q wx wr)) (fun i _ => N - (intOf i).toNat)
  case atStart =>
    refine ⟨0, _, by omega, rfl, HX2, HPL, ?_, But2.refl _ _ _⟩
    show OwnGates wx wx.heap.size _ (pruneJ F I gs 0).2
    rw [pruneJ_zero]
    exact World.ownsRow_nil _ _ _ _
  case round =>
    clear HX2 HPL
    obtain ⟨j, gsl, hj', rfl, HP, HL, HO, HB⟩ := hrel
    have hszr := HB.out.size
    have hBw : Below w.heap.size w wr := HB.out.out HBX.out (by omega) (by omega) (by omega)
    obtain ⟨hpl1, hpl2⟩ := pruneJ_len F I gs j (by omega)
    have u0 := HX0.out.but HB.out (by omega) (by omega)
    obtain ⟨c0, c1, c2⟩ := u0.cells
    have hh := u0.heap
    have hlt1 := u0.lt
    clear u0
    by_cases hlt : j < N
    · obtain ⟨z, hz⟩ : ∃ z, F[j]? = some z := ⟨F[j], List.getElem?_eq_getElem (by omega)⟩
      have hgd' : F.getD j false = z := by rw [List.getD_eq_getElem?_getD, hz]; rfl
      have hrow := own_but HR.out HB.out (by omega) (by omega)
      obtain ⟨rb, hra, hrb, hrlt, d0⟩ : ∃ rb : Nat, ra = some ⟨rb, 0, none⟩ ∧ w3.heap.size ≤ rb ∧ rb < wr.heap.size ∧ wr.cell? ⟨rb, j, none⟩ = some (.bool z) := by
        rcases hrow.2 with ⟨_, hz'⟩ | ⟨g, cap', cur, hv', hg', _⟩
        · omega
        · injection hv' with e1
          subst e1
          refine ⟨g, rfl, hg', (own_block hrow rfl).2, ?_⟩
          rw [hrow.cellAt j (by omega)]
          unfold cellsB
          rw [List.getElem?_map, hz]
          rfl
      subst hra
      clear hrow hz
      by_cases hjI : j < I
      · obtain ⟨⟨u0, e0⟩, f0, o0⟩ := put_at HL.out j hlt (j : Int)
        have HP2 : Hid (Box3 (wr.setCell ⟨q, j, none⟩ (.int .i64 (j : Int))) P 27 (.int .i64 (I : Int)) gsl (.slice none 0 0)) := HP.out.other (by omega) _
        have HL2 : Hid ((wr.setCell ⟨q, j, none⟩ (.int .i64 (j : Int))).ownsRow (P + 1) 3 1 (.slice (some ⟨q, 0, none⟩) N N) N (cellsI (pruneJ F I gs (j + 1)).1)) := by
          show (wr.setCell ⟨q, j, none⟩ (.int .i64 (j : Int))).ownsRow (P + 1) 3 1 (.slice (some ⟨q, 0, none⟩) N N) N (cellsI (pruneJ F I gs (j + 1)).1)
          rw [pruneJ_in F I gs j hjI]
          exact o0
        have HO2 : Hid (OwnGates (wr.setCell ⟨q, j, none⟩ (.int .i64 (j : Int))) wx.heap.size gsl (pruneJ F I gs (j + 1)).2) := by
          show OwnGates (wr.setCell ⟨q, j, none⟩ (.int .i64 (j : Int))) wx.heap.size gsl (pruneJ F I gs (j + 1)).2
          rw [pruneJ_in F I gs j hjI]
          exact own_set HO.out hqx
        have HB2 : Hid (But2 P q wx (wr.setCell ⟨q, j, none⟩ (.int .i64 (j : Int)))) := HB.out.set (Or.inr (Or.inl rfl))
        clear HP HL HO HB o0 hgd' HG HOC HGB HOU HX0 HX1 HR HPA hBw HBX
        cases z
        all_goals
          go_wp2_with fail
          go_roundw
          case rel => exact ⟨j + 1, gsl, by omega, by go_num, HP2, HL2, HO2, HB2⟩
          case measure => simp [intOf]; omega
      · cases z with
        | false =>
          have HL2 : Hid (wr.ownsRow (P + 1) 3 1 (.slice (some ⟨q, 0, none⟩) N N) N (cellsI (pruneJ F I gs (j + 1)).1)) := by
            show wr.ownsRow (P + 1) 3 1 (.slice (some ⟨q, 0, none⟩) N N) N (cellsI (pruneJ F I gs (j + 1)).1)
            rw [pruneJ_no F I gs j (by omega) hgd']
            exact HL.out
          have HO2 : Hid (OwnGates wr wx.heap.size gsl (pruneJ F I gs (j + 1)).2) := by
            show OwnGates wr wx.heap.size gsl (pruneJ F I gs (j + 1)).2
            rw [pruneJ_no F I gs j (by omega) hgd']
            exact HO.out
          clear HL HO hgd' HG HOC HGB HOU HX0 HX1 HR HPA hBw HBX
          go_wp2_with fail
          go_roundw
          case rel => exact ⟨j + 1, gsl, by omega, by go_num, HP, HL2, HO2, HB⟩
          case measure => simp [intOf]; omega
        | true =>
          obtain ⟨K, hK⟩ : ∃ K : Nat, j - I = K := ⟨_, rfl⟩
          have hKI : (j : Int) - (I : Int) = (K : Int) := by omega
          have hKW : IntKind.i64.wrap ((j : Int) - (I : Int)) = (K : Int) := by rw [hKI]; exact IntWalk.i64_in _ (by omega)
          have hKW2 : IntKind.i64.wrap (K : Int) = (K : Int) := IntWalk.i64_in _ (by omega)
          have hKl : K < gs.length := by omega
          have hKl' : (K : Int) < (gs.length : Int) := by omega
          obtain ⟨x, hx⟩ : ∃ x, gs[K]? = some x := ⟨gs[K], List.getElem?_eq_getElem hKl⟩
          have hst := pruneJ_yes F I gs j x (by omega) (by rw [hK]; exact hx) hgd'
          have hgg : gateB (j : Int) x = true := by
            have h1 := HGB.out K x hx
            rw [show (I : Int) + (K : Int) = (j : Int) from by omega] at h1
            exact h1
          obtain ⟨sa, scap, hsl⟩ := own_shape HO.out
          have hon : (pruneJ F I gs j).2.length ≤ 400 := by omega
          have g5 := size_raw (I : Int) sa (pruneJ F I gs j).2.length scap (.slice none 0 0) (by omega) (by omega) (by omega) wr
          obtain ⟨V, hV⟩ : ∃ V : Nat, (I : Int) + ((pruneJ F I gs j).2.length : Int) = (V : Int) := ⟨I + (pruneJ F I gs j).2.length, by omega⟩
          rw [hV] at g5 hst
          have hV1 : V ≤ 1000 := by omega
          have HST1 : Hid ((pruneJ F I gs j).1.set j (V : Int) = (pruneJ F I gs (j + 1)).1) := (congrArg Prod.fst hst).symm
          have HST2 : Hid ((pruneJ F I gs j).2 ++ [movedL (pruneJ F I gs j).1 x] = (pruneJ F I gs (j + 1)).2) := (congrArg Prod.snd hst).symm
          clear hst hV
          generalize (pruneJ F I gs j).1 = p at *
          generalize (pruneJ F I gs j).2 = og at *
          obtain ⟨b, off, rfl, hbw, e0, e1, e2⟩ := HG.out wr hBw K x hx
          obtain ⟨k0, k1, k2⟩ := HP.out.cells
          have hhP := HP.out.heap
          have hPlt := HP.out.lt
          subst hsl
          have HOw : Hid (wr.ownsRow wx.heap.size 91 3 (.slice sa og.length scap) og.length (flat3 og)) := HO.out
          clear HO hgd'
          go_wp2_with fail
          refine g5.mono ?_
          rintro e w5 ⟨rfl, hw5⟩
          have hs5 : Below wr.heap.size wr w5 := by
            rw [hw5]
            exact (Below.refl _ _).alloc (Nat.le_refl _) _
          clear hw5 g5
          have hsz5 := hs5.size
          have HL5 := owns_below HL.out hs5
          obtain ⟨⟨u0, ue0⟩, uf0, o6⟩ := put_at HL5 j hlt (V : Int)
          have HB6 : But2 P q wx (w5.setCell ⟨q, j, none⟩ (.int .i64 (V : Int))) := (HB.out.below hs5 hszr).set (Or.inr (Or.inl rfl))
          have HO6 := own_set (o := j) (u := .int .i64 (V : Int)) (owns_below HOw.out hs5) hqx
          have HP6 := (HP.out.below hs5 HP.out.lt).other (b' := q) (o := j) (by omega) (.int .i64 (V : Int))
          have hBw6 : Below w.heap.size w (w5.setCell ⟨q, j, none⟩ (.int .i64 (V : Int))) := HB6.out HBX.out (by omega) (by omega) (by omega)
          have v0 := HX0.out.but HB6 (by omega) (by omega)
          obtain ⟨b', off', hbo, hbw', m0, m1, m2⟩ := HG.out _ hBw6 K x hx
          injection hbo with hbo
          injection hbo with hb1 hb2
          subst hb1 hb2
          obtain ⟨n0, n1, n2⟩ := v0.cells
          have hh6 := v0.heap
          have hlt6 := v0.lt
          obtain ⟨l0, l1, l2⟩ := HP6.cells
          have hhP6 := HP6.heap
          have hPlt6 := HP6.lt
          have hsz6 : (w5.setCell ⟨q, j, none⟩ (.int .i64 (V : Int))).heap.size = w5.heap.size := by simp [World.setCell]
          have hpN : (p.set j (V : Int)).length = N := by rw [List.length_set]; omega
          have hIA : IntsAt (w5.setCell ⟨q, j, none⟩ (.int .i64 (V : Int))) (.slice (some ⟨q, 0, none⟩) N N) (p.set j (V : Int)) := by
            refine ints_of_own (e := 3) (base := P + 1) (by omega) ?_
            rw [hpN]
            exact o6
          have g7 : Hid (∀ w1 : World, Below w5.heap.size (w5.setCell ⟨q, j, none⟩ (.int .i64 (V : Int))) w1 → Calls Try.prog 81 #[gv x, .slice (some ⟨q, 0, none⟩) N N] w1 fun e w' => e = .returned (gv (movedL p x)) ∧ Below w1.heap.size w1 w') := fun w1 hb => by
            have g := moved_any x (.slice (some ⟨q, 0, none⟩) N N) (p.set j (V : Int)) (j : Int) (by omega) (by omega) hgg w1 (hIA.below (by rw [hsz6]; exact hb))
            rw [movedL_set hgg] at g
            exact g
          obtain ⟨kk, xa, xb⟩ := x
          simp only at e0 e1 e2 m0 m1 m2
          unfold gv at g7
          simp only at g7
          generalize hmv : movedL p (kk, xa, xb) = mv at *
          obtain ⟨mk, ma, mb⟩ := mv
          simp only at g7
          clear hIA hmv c0 c1 c2 hh hlt1 hBw d0
          have HK : Hid (∀ w7 : World, Below w5.heap.size (w5.setCell ⟨q, j, none⟩ (.int .i64 (V : Int))) w7 → Box3 w7 P 27 (.int .i64 (I : Int)) (.slice sa og.length scap) (.slice none 0 0) ∧ (w7.alloc (.cells #[.int .i64 mk, .int .i64 ma, .int .i64 mb] 91)).ownsRow wx.heap.size 91 3 (.slice sa og.length scap) og.length (flat3 og) ∧ wx.heap.size ≤ w7.heap.size) := by
            intro w7 hs7
            have hsz7 := hs7.size
            rw [hsz6] at hsz7
            refine ⟨HP6.below hs7 (by omega), ?_, by omega⟩
            exact World.ownsRow.alloc (own_keep HO6 (fun g hg => hs7.block g (by have h1 := own_block HO6 hg; rw [hsz6] at h1; exact h1.2))) _
          have HE : Hid (∀ (w7 : World) (v8 : Value) (w8 : World), Below w5.heap.size (w5.setCell ⟨q, j, none⟩ (.int .i64 (V : Int))) w7 → w8.ownsRow wx.heap.size 91 3 v8 (og.length + 1) (flat3 og ++ [.int .i64 mk, .int .i64 ma, .int .i64 mb]) → (w7.alloc (.cells #[.int .i64 mk, .int .i64 ma, .int .i64 mb] 91)).grownBy w8 (Value.slice sa og.length scap).ownBlock → Box3 w8 P 27 (.int .i64 (I : Int)) (.slice sa og.length scap) (.slice none 0 0) ∧ But2 P q wx (w8.setCell ⟨P, 1, none⟩ v8) ∧ (w8.setCell ⟨P, 1, none⟩ v8).ownsRow (P + 1) 3 1 (.slice (some ⟨q, 0, none⟩) N N) N (cellsI (pruneJ F I gs (j + 1)).1) ∧ OwnGates (w8.setCell ⟨P, 1, none⟩ v8) wx.heap.size v8 (pruneJ F I gs (j + 1)).2) := by
            intro w7 v8 w8 hs7 own8 grow8
            obtain ⟨HP7, HO7, hsz7⟩ := HK.out w7 hs7
            have HB7 : But2 P q wx (w7.alloc (.cells #[.int .i64 mk, .int .i64 ma, .int .i64 mb] 91)) := (HB6.below hs7 (by omega)).alloc _
            have HL7 := World.ownsRow.alloc (own_keep o6 (fun g hg => hs7.block g (by have h1 := own_block o6 hg; rw [hsz6] at h1; exact h1.2))) (.cells #[.int .i64 mk, .int .i64 ma, .int .i64 mb] 91)
            have hgr := grow_row (w' := w8) HO7
            have HP8 := (HP7.alloc (.cells #[.int .i64 mk, .int .i64 ma, .int .i64 mb] 91)).grown grow8 (fun e => by have := hgr _ e; omega)
            have HL8 := own_grown HL7 grow8 (fun e => by have := hgr _ e; omega)
            refine ⟨HP8, (HB7.grown grow8 hgr).set (Or.inl rfl), ?_, ?_⟩
            · have h1 := own_set' (b := P) (o := 1) (u := v8) HL8 (by omega)
              rw [HST1.out] at h1
              exact h1
            · have h1 := own_set (b := P) (o := 1) (u := v8) own8 (by omega)
              rw [← HST2.out]
              unfold OwnGates
              rw [List.length_append, flat3_append]
              exact h1
          have G7 : Hid (∀ w1 : World, Below w5.heap.size (w5.setCell ⟨q, j, none⟩ (.int .i64 (V : Int))) w1 → Calls Try.prog 81 #[.agg #[.int .i64 kk, .int .i64 xa, .int .i64 xb], .slice (some ⟨q, 0, none⟩) N N] w1 fun e w' => e = .returned (.agg #[.int .i64 mk, .int .i64 ma, .int .i64 mb]) ∧ Below w5.heap.size (w5.setCell ⟨q, j, none⟩ (.int .i64 (V : Int))) w') := fun w1 hb => (g7.out w1 hb).mono fun e w' ⟨he, hb'⟩ => ⟨he, hb.trans (hb'.mono (by have := hb.size; rw [hsz6] at this; exact this))⟩
          clear g7 HL5 o6 HB6 HO6 HP6 hs5 v0 hBw6 HST1 HST2 HP HL HB HOw HG HOC HGB HOU HX0 HX1 HR HPA HBX k0 k1 k2 hhP hPlt e0 e1 e2
          go_wp2_with fail
          go_region_law (first | (refine step_append_own rfl _ _ 24 rfl wx.heap.size 91 j0 (.agg #[.int .i64 0, .int .i64 0, .int .i64 0]) 3 24 Try.underlying24 hj hy0 hy1 hy2 rfl (by decide) (.slice sa og.length scap) _ _ (by simp [Act.eval, Act.put]) HO7 ⟨w7.heap.size, 0, none⟩ 1 1 [.int .i64 mk, .int .i64 ma, .int .i64 mb] (by simp [Act.eval, Act.put]) rfl (oneG_cells w7 mk ma mb) (flat3_one [(mk, ma, mb)]) (by unfold maxLen; omega) (by omega) (by simp only [World.size_alloc]; omega) ?_; intro v8 w8 own8 grow8; obtain ⟨HP8, HB9, HL9, HO9⟩ := HE.out w7 v8 w8 hs7 own8 grow8; obtain ⟨va, vcap, hv8⟩ := own_shape own8; subst hv8; obtain ⟨r0, r1, r2⟩ := HP8.cells; have hhP8 := HP8.heap; have hPlt8 := HP8.lt; have rf1 := HP8.frozen 1; have HP9 := HP8.set1 (.slice va (og.length + 1) vcap); have HB9' : Hid _ := HB9; have HL9' : Hid _ := HL9; have HO9' : Hid _ := HO9; have HP9' : Hid _ := HP9; clear HB9 HL9 HO9 HP9 own8 grow8 HP8) | (go_simp; go_at_call 81; refine (G7.out _ (by first | exact Below.refl _ _ | exact (Below.refl _ _).drew | exact (Below.refl _ _).drew.drew)).mono ?_; rintro e w7 ⟨rfl, hs7⟩; obtain ⟨HP7, HO7, hsz7⟩ := HK.out w7 hs7; obtain ⟨t0, t1, t2⟩ := HP7.cells; have hhP7 := HP7.heap; have hPlt7 := HP7.lt))
          all_goals
            clear hs7
            go_wp2_with fail
            go_roundw
            case rel => exact ⟨j + 1, _, by omega, by go_num, by assumption, by assumption, by assumption, by assumption⟩
            case measure => simp [intOf]; omega
    · obtain rfl : j = N := by omega
      have HOw : Hid (wr.ownsRow wx.heap.size 91 3 gsl (pruneJ F I gs j).2.length (flat3 (pruneJ F I gs j).2)) := HO.out
      obtain ⟨sa, scap, hsl⟩ := own_shape HOw.out
      subst hsl
      have HX1' : Hid (Box3 wr (w.heap.size + 1) 27 (.int .i64 0) (.slice none 0 0) (.slice none 0 0)) := HX1.out.but HB.out (by omega) (by omega)
      have HBw : Hid (Below w.heap.size w wr) := hBw
      have hw := hBw.size
      clear HO HR HX0 HB HBX HX1 HPA HG HGB hBw
      obtain ⟨p, HPp⟩ : ∃ p, Hid ((pruneJ F I gs j).1 = p) := ⟨_, rfl⟩
      obtain ⟨og, HPo⟩ : ∃ og, Hid ((pruneJ F I gs j).2 = og) := ⟨_, rfl⟩
      rw [HPp.out] at HL hpl1
      rw [HPo.out] at HOw hpl2 HP
      obtain ⟨ogn, hogn⟩ : ∃ ogn, og.length = ogn := ⟨_, rfl⟩
      rw [hogn] at HP HOw hpl2
      have HGN : Hid (og.length = ogn) := hogn
      clear hogn
      have hPr := HP.out.lt
      have hqr := (own_block HL.out rfl).2
      go_wp2_with fail
      clear c0 c1 c2 hh hlt1
      rename World => wy
      rename World => wy
      go_loopw [65] (fun i w6 => ∃ (jj : Nat) (osl : Value), jj ≤ os.length ∧ i = .int .i64 jj ∧ Hid (Box3 w6 P 27 (.int .i64 (I : Int)) (.slice sa ogn scap) osl) ∧ Hid (w6.ownsRow (P + 1) 3 1 (.slice (some ⟨q, 0, none⟩) j j) j (cellsI p)) ∧ Hid (w6.ownsRow wx.heap.size 91 3 (.slice sa ogn scap) ogn (flat3 og)) ∧ Hid (OwnInts w6 wy.heap.size osl ((os.take jj).map (atI p))) ∧ Hid (But2 P q wy w6)) (fun i _ => os.length - (intOf i).toNat)
      case atStart => exact ⟨0, _, by omega, rfl, HP, HL, HOw, World.ownsRow_nil _ _ _ _, But2.refl _ _ _⟩
      case round =>
        obtain ⟨jj, osl, hjj, rfl, HP6, HL6, HG6, HO6, HB6⟩ := hrel
        have hsz6 := HB6.out.size
        by_cases hlt2 : jj < os.length
        · obtain ⟨x, hx⟩ : ∃ x, os[jj]? = some x := ⟨os[jj], List.getElem?_eq_getElem hlt2⟩
          have hBw6 : Below w.heap.size w wr := HB6.out.out HBw.out (by omega) (by omega) (by omega)
          obtain ⟨b, off, rfl, hbw, d0⟩ := HOC.out wr hBw6 jj x hx
          obtain ⟨hx0, hx1⟩ := HOU.out x (List.mem_of_getElem? hx)
          obtain ⟨X, rfl⟩ := Int.eq_ofNat_of_zero_le hx0
          have hXj : X < j := by have := HNI.out; omega
          have hXj' : (X : Int) < (j : Int) := by omega
          have d1 := ints_read HL6.out X hXj
          generalize hz : atI p (X : Int) = z at *
          have hml : ((os.take jj).map (atI p)).length = jj := by rw [List.length_map, List.length_take_of_le (by omega)]
          have own5 : wr.ownsRow wy.heap.size 3 1 osl jj (((os.take jj).map (atI p)).map (Value.int .i64)) := by
            have h5 := HO6.out
            unfold OwnInts at h5
            rw [hml] at h5
            exact h5
          have HNX : Hid (((os.take (jj + 1)).map (atI p)) = ((os.take jj).map (atI p)) ++ [z]) := by
            show ((os.take (jj + 1)).map (atI p)) = _
            rw [List.take_add_one, hx, List.map_append]
            simp [hz]
          obtain ⟨va, vc5, hv5⟩ := own_shape own5
          subst hv5
          have own6 : (wr.drew.alloc (.cells #[.int .i64 z] 3)).ownsRow wy.heap.size 3 1 (.slice va jj vc5) jj (((os.take jj).map (atI p)).map (Value.int .i64)) := World.ownsRow.alloc (w := wr.drew) own5 _
          have hcb : wy.heap.size ≤ (wr.drew.alloc (.cells #[.int .i64 z] 3)).heap.size := by
            rw [World.size_alloc]
            show wy.heap.size ≤ wr.heap.size + 1
            omega
          have cells6 : ∀ (i : Nat) (u : Value), ([.int .i64 z] : List Value)[i]? = some u → (wr.drew.alloc (.cells #[.int .i64 z] 3)).cell? ((⟨wr.heap.size, 0, none⟩ : Addr).add i) = some u := oneI_cells wr.drew z
          have HE : Hid (∀ (v8 : Value) (w8 : World), w8.ownsRow wy.heap.size 3 1 v8 (jj + 1) (((os.take jj).map (atI p)).map (Value.int .i64) ++ [.int .i64 z]) → (wr.drew.alloc (.cells #[.int .i64 z] 3)).grownBy w8 (Value.slice va jj vc5).ownBlock → Box3 w8 P 27 (.int .i64 (I : Int)) (.slice sa ogn scap) (.slice va jj vc5) ∧ Hid (But2 P q wy (w8.setCell ⟨P, 2, none⟩ v8)) ∧ Hid ((w8.setCell ⟨P, 2, none⟩ v8).ownsRow (P + 1) 3 1 (.slice (some ⟨q, 0, none⟩) j j) j (cellsI p)) ∧ Hid ((w8.setCell ⟨P, 2, none⟩ v8).ownsRow wx.heap.size 91 3 (.slice sa ogn scap) ogn (flat3 og)) ∧ Hid (OwnInts (w8.setCell ⟨P, 2, none⟩ v8) wy.heap.size v8 ((os.take (jj + 1)).map (atI p)))) := by
            intro v8 w8 own8 grow8
            have hgr := grow_row (w' := w8) own6
            have hdr : But2 P q wy (wr.drew.alloc (.cells #[.int .i64 z] 3)) := (HB6.out.below ((Below.refl wr.heap.size wr).drew) hsz6).alloc _
            have hP6 : Box3 (wr.drew.alloc (.cells #[.int .i64 z] 3)) P 27 (.int .i64 (I : Int)) (.slice sa ogn scap) (.slice va jj vc5) := Box3.alloc (w := wr.drew) ⟨HP6.out.heap⟩ _
            have hL6 : (wr.drew.alloc (.cells #[.int .i64 z] 3)).ownsRow (P + 1) 3 1 (.slice (some ⟨q, 0, none⟩) j j) j (cellsI p) := World.ownsRow.alloc (w := wr.drew) HL6.out _
            have hG6 : (wr.drew.alloc (.cells #[.int .i64 z] 3)).ownsRow wx.heap.size 91 3 (.slice sa ogn scap) ogn (flat3 og) := World.ownsRow.alloc (w := wr.drew) HG6.out _
            have hG8 : w8.ownsRow wx.heap.size 91 3 (.slice sa ogn scap) ogn (flat3 og) := own_keep hG6 (fun g hg => grow8.block g (own_block hG6 hg).2 (fun e => by
              have h1 := own_block own6 (e.symm)
              have h2 := own_block HOw.out hg
              omega))
            refine ⟨hP6.grown grow8 (fun e => by have := hgr _ e; omega), (hdr.grown grow8 hgr).set (Or.inl rfl), own_set' (own_grown hL6 grow8 (fun e => by have := hgr _ e; omega)) (by omega), own_set hG8 (by omega), ?_⟩
            show OwnInts (w8.setCell ⟨P, 2, none⟩ v8) wy.heap.size v8 ((os.take (jj + 1)).map (atI p))
            rw [HNX.out]
            unfold OwnInts
            rw [List.length_append, hml, List.map_append]
            exact own_set own8 (by omega)
          obtain ⟨k0, k1, k2⟩ := HP6.out.cells
          have hhP := HP6.out.heap
          have hPlt := HP6.out.lt
          have hqlt := (own_block HL6.out rfl).2
          clear HP6 HL6 HG6 HO6 HB6 own5 HNX hml hx hx1 HOC HOU hBw6 HP HL HOw HX1' HBw HPp HPo
          go_wp2_with fail
          go_region_law (refine step_append_own rfl _ _ 25 rfl wy.heap.size 3 i0 (.int .i64 0) 1 8 Try.underlying25 hi hz0 hz1 hz2 rfl (by decide) (.slice va jj vc5) _ _ (by simp [Act.eval, Act.put]) own6 ⟨wr.heap.size, 0, none⟩ 1 1 [.int .i64 z] (by simp [Act.eval, Act.put]) rfl cells6 (ints_one [z]) (by unfold maxLen; omega) (by omega) hcb ?_; intro v8 w8 own8 grow8; obtain ⟨HP8, HB9, HL9, HG9, HO9⟩ := HE.out v8 w8 own8 grow8; obtain ⟨va8, vcap8, hv8⟩ := own_shape own8; subst hv8; obtain ⟨r0, r1, r2⟩ := HP8.cells; have hhP8 := HP8.heap; have hPlt8 := HP8.lt; have rf1 := HP8.frozen 2; have HP9 : Hid _ := HP8.set2 (.slice va8 (jj + 1) vcap8); clear own8 grow8 HP8)
          all_goals
            go_wp2_with fail
            go_roundw
            case rel => exact ⟨jj + 1, _, by omega, by go_num, by assumption, by assumption, by assumption, by assumption, by assumption⟩
            case measure => simp [intOf]; omega
        · obtain rfl : jj = os.length := by omega
          have hOs : wr.ownsRow wy.heap.size 3 1 osl (os.map (atI p)).length ((os.map (atI p)).map (Value.int .i64)) := by
            have h1 := HO6.out
            rw [List.take_length] at h1
            exact h1
          obtain ⟨va, vcap, hv⟩ := own_shape hOs
          have hX := HX1'.out.but HB6.out (by omega) (by omega)
          have hBw6 : Below w.heap.size w wr := HB6.out.out HBw.out (by omega) (by omega) (by omega)
          obtain ⟨k0, k1, k2⟩ := HP6.out.cells
          have hhP := HP6.out.heap
          have hPlt := HP6.out.lt
          obtain ⟨l0, l1, l2⟩ := hX.cells
          have hhX := hX.heap
          have hXlt := hX.lt
          have lf0 := hX.frozen 0
          have lf1 := hX.frozen 1
          have lf2 := hX.frozen 2
          have hPX : P ≠ w.heap.size + 1 := by omega
          subst hv
          have HZ : Hid _ := ((hX.set0 (.int .i64 (I : Int))).set1 (.slice sa ogn scap)).set2 (.slice va (os.map (atI p)).length vcap)
          have HBZ : Hid _ := ((hBw6.setCell (p := ⟨w.heap.size + 1, 0, none⟩) (Nat.le_succ _) (.int .i64 (I : Int))).setCell (p := ⟨w.heap.size + 1, 1, none⟩) (Nat.le_succ _) (.slice sa ogn scap)).setCell (p := ⟨w.heap.size + 1, 2, none⟩) (Nat.le_succ _) (.slice va (os.map (atI p)).length vcap)
          have HGZ : Hid _ := ((rowIn_of (own_base HG6.out (show w.heap.size + 1 + 1 ≤ wx.heap.size by omega))).set (o := 0) (x := .int .i64 (I : Int)) (Or.inl (Nat.lt_succ_self (w.heap.size + 1)))).set (o := 1) (x := .slice sa ogn scap) (Or.inl (Nat.lt_succ_self (w.heap.size + 1))) |>.set (o := 2) (x := .slice va (os.map (atI p)).length vcap) (Or.inl (Nat.lt_succ_self (w.heap.size + 1)))
          have HOZ : Hid _ := ((rowIn_of (own_base hOs (show w.heap.size + 1 + 1 ≤ wy.heap.size by omega))).set (o := 0) (x := .int .i64 (I : Int)) (Or.inl (Nat.lt_succ_self (w.heap.size + 1)))).set (o := 1) (x := .slice sa ogn scap) (Or.inl (Nat.lt_succ_self (w.heap.size + 1))) |>.set (o := 2) (x := .slice va (os.map (atI p)).length vcap) (Or.inl (Nat.lt_succ_self (w.heap.size + 1)))
          clear HP6 HL6 HG6 HO6 HB6 hOs hX hBw6 HX1' HBw HOC HOU HP HL HOw
          generalize hmn : (os.map (atI p)).length = mn at *
          go_wp2_with fail
          refine bodyPost_ret (results_c1 rfl _ _ (w.heap.size + 1) 27 _ (0, 0) _ rfl HZ.out.heap Try.underlying27 rfl (by kernel_rfl)) rfl ?_
          refine ⟨_, rfl, ⟨.slice sa ogn scap, .slice va mn vcap, rfl, ?_, ?_⟩, HBZ.out⟩
          · show RowIn _ w.heap.size _ 91 3 _ (pruneJ F I gs j).2.length (flat3 (pruneJ F I gs j).2)
            rw [HPo.out, HGN.out]
            exact RowIn.weak HGZ.out (by omega) (by simp [World.setCell]) (Nat.le_refl _)
          · show RowIn _ w.heap.size _ 3 1 _ (os.map (atI (pruneJ F I gs j).1)).length (cellsI (os.map (atI (pruneJ F I gs j).1)))
            rw [HPp.out, hmn]
            exact RowIn.weak HOZ.out (by omega) (by simp [World.setCell]) (Nat.le_refl _)
theorem iPrune_any (v : Value) (c : Ci) (w : World) (h : AtC w v c) :
    Calls Try.prog 35 #[v] w fun e w' => ∃ r, e = .returned (.tuple #[r, .bool (goodC c)]) ∧ OwnCirc w' w.heap.size w'.heap.size r (pruneL c) ∧ Below w.heap.size w w' := by
  cases hgd : goodC c with
  | false =>
    have g := iPrune_bad v c hgd w h
    rw [hgd] at g
    exact g
  | true =>
    have g := iPrune_good v c hgd w h
    have e : pruneL c = pruneC c := by unfold pruneL; rw [if_pos hgd]
    rw [e]
    exact g
end Go.Proofs.Ytnagaanagcmdgaa
