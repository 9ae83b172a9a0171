/-
  What wires carry: the program's carried and AllWires.
-/
import Derived.Test.YtpjllhlbdcanlaaRun
import Derived.Test.YtpjllhlbdcanlaaIGood4
namespace Go.Proofs.Ytpjllhlbdcanlaa
open Go Go.RowKit
open M
set_option linter.unusedVariables false

/-- a row of bools that is read -/
theorem BoolsAt.at {w : World} {v : Value} {t : List Bool} (h : BoolsAt w v t) {i : Int} (h0 : 0 ≤ i) (h1 : i < t.length) : ∃ g off cap : Nat, v = .slice (some ⟨g, off, none⟩) t.length cap ∧ g < w.heap.size ∧ w.cell? ⟨g, off + i.toNat, none⟩ = some (.bool (at' t i)) := by
  rcases h.2 with ⟨rfl, _⟩ | ⟨g, off, cap, rfl, hlt, hc⟩
  · simp at h1
    omega
  · refine ⟨g, off, cap, rfl, hlt, hc i.toNat _ ?_⟩
    unfold at'
    rw [List.getD_eq_getElem?_getD, List.getElem?_eq_getElem (by omega)]
    rfl
set_option maxRecDepth 100000 in
set_option maxHeartbeats 2000000 in
theorem carried_any (g : Gt) (wv : Value) (rl : List Bool) (own : Int) (hown : own = rl.length) (hlim : rl.length ≤ 1000) (hg : gateB own g = true) (w : World) (h : BoolsAt w wv rl) :
    Calls Try.prog 106 #[gv g, wv] w fun e w' => e = .returned (.bool (gateV rl g)) ∧ Below w.heap.size w w' := by
  have hgk := gateB_kind hg
  subst hown
  obtain ⟨k, xa, xb⟩ := g
  unfold gv
  simp only at *
  have HB : Hid (Below w.heap.size w (w.alloc (.cells #[.int .i64 k, .int .i64 xa, .int .i64 xb] 128))) := (Below.refl _ _).alloc (Nat.le_refl _) _
  clear hg
  rcases hgk with ⟨rfl, ha0, ha1, rfl⟩ | ⟨rfl, ⟨ha0, ha1⟩, rfl⟩ | ⟨hk, ⟨ha0, ha1⟩, ⟨hb0, hb1⟩⟩
  · have hz : gateV rl (1, xa, 0) = (xa == 1) := by
      show (if (1 : Int) = 1 then decide (xa = 1) else _) = _
      rw [if_pos rfl, Bool.eq_iff_iff]
      simp
    rw [hz]
    clear hz h
    go_enter Try.func106, Try.ntmps106
    go_wp2_with fail
    go_ret
    exact ⟨rfl, HB.out⟩
  · obtain ⟨vg, voff, vcp, rfl, hvl, hcell⟩ := h.at ha0 ha1
    obtain ⟨A, rfl⟩ := Int.eq_ofNat_of_zero_le ha0
    rw [Int.toNat_natCast] at hcell
    have hz : gateV rl (2, (A : Int), 0) = !(at' rl A) := by simp [gateV]
    rw [hz]
    generalize at' rl A = p at *
    clear hz h
    cases p
    all_goals
      go_enter Try.func106, Try.ntmps106
      go_wp2_with fail
      go_ret
      exact ⟨rfl, HB.out⟩
  · obtain ⟨vg, voff, vcp, rfl, hvl, hcell⟩ := h.at ha0 ha1
    obtain ⟨vg', voff', vcp', hv', hvl', hcell'⟩ := h.at hb0 hb1
    injection hv' with e1 e2 e3
    injection e1 with e1
    injection e1 with e1 e4
    subst e1 e3 e4
    obtain ⟨A, rfl⟩ := Int.eq_ofNat_of_zero_le ha0
    obtain ⟨B, rfl⟩ := Int.eq_ofNat_of_zero_le hb0
    rw [Int.toNat_natCast] at hcell hcell'
    have hz3 : gateV rl (3, (A : Int), (B : Int)) = (at' rl A && at' rl B) := by simp [gateV]
    have hz4 : gateV rl (4, (A : Int), (B : Int)) = (at' rl A || at' rl B) := by simp [gateV]
    have hz5 : gateV rl (5, (A : Int), (B : Int)) = (at' rl A != at' rl B) := by simp [gateV]
    rcases hk with rfl | rfl | rfl
    · rw [hz3]
      generalize at' rl A = p at *
      generalize at' rl B = q at *
      clear hz3 hz4 hz5 h
      cases p <;> cases q
      all_goals
        go_enter Try.func106, Try.ntmps106
        go_wp2_with fail
        go_ret
        exact ⟨rfl, HB.out⟩
    · rw [hz4]
      generalize at' rl A = p at *
      generalize at' rl B = q at *
      clear hz3 hz4 hz5 h
      cases p <;> cases q
      all_goals
        go_enter Try.func106, Try.ntmps106
        go_wp2_with fail
        go_ret
        exact ⟨rfl, HB.out⟩
    · rw [hz5]
      generalize at' rl A = p at *
      generalize at' rl B = q at *
      clear hz3 hz4 hz5 h
      cases p <;> cases q
      all_goals
        go_enter Try.func106, Try.ntmps106
        go_wp2_with fail
        first
        | (go_ret; exact ⟨rfl, HB.out⟩)
        | (go_quiet (fail); go_wp2_with fail; go_ret; exact ⟨rfl, HB.out.trans ((Below.refl _ _).drewN _)⟩)
        | (go_region; all_goals (go_wp2_with fail; go_ret; exact ⟨rfl, HB.out.drew⟩))
/-- what AllWires tells -/
def wiresL (c : Ci) (il : List Bool) : List Bool := if goodC c = true ∧ (il.length : Int) = c.1 then runG c.2.1 il else []
def wiresB (c : Ci) (il : List Bool) : Bool := decide (goodC c = true ∧ (il.length : Int) = c.1)
set_option maxRecDepth 100000 in
set_option maxHeartbeats 2000000 in
theorem sAllWires_any (v iv : Value) (c : Ci) (il : List Bool) (w : World) (h : AtC w v c) (hiv : AtBS w iv il) :
    Calls Try.prog 28 #[v, iv] w fun e w' => ∃ r, e = .returned (.tuple #[r, .bool (wiresB c il)]) ∧ OwnBools w' w.heap.size r (wiresL c il) ∧ Below w.heap.size w w' := by
  obtain ⟨ga, gn, gc, oa, on, oc, hv⟩ := h.at.shape
  subst hv
  obtain ⟨ia, icap, hiv'⟩ := hiv.1.shape
  subst hiv'
  have hil := hiv.1.1
  have x0 := box3_alloc w 27 (.int .i64 c.1) (.slice ga gn gc) (.slice oa on oc)
  have hb0 : Below w.heap.size w (w.alloc (.cells #[.int .i64 c.1, .slice ga gn gc, .slice oa on oc] 27)) := (Below.refl _ _).alloc (Nat.le_refl _) _
  have g1 := sGood_any _ c _ (h.below hb0).at
  unfold wiresL wiresB
  have hsz : (w.alloc (.cells #[.int .i64 c.1, .slice ga gn gc, .slice oa on oc] 27)).heap.size = w.heap.size + 1 := by simp only [World.size_alloc]
  have hcf := h.1
  cases hgd : goodC c with
  | false =>
    rw [hgd] at g1
    rw [if_neg (by simp), decide_eq_false (by simp)]
    go_enter Try.func28, Try.ntmps28
    go_wp2_with fail
    refine g1.mono ?_
    rintro e w1 ⟨rfl, hs⟩
    have HB : Hid (Below w.heap.size w w1) := Below.step hb0 hb0.size hs
    clear g1 h hiv
    go_wp2_with fail
    go_ret2
    exact ⟨_, rfl, World.ownsRow_nil _ _ _ _, HB.out⟩
  | true =>
    rw [hgd] at g1
    by_cases hl : (il.length : Int) = c.1
    · rw [if_pos ⟨rfl, hl⟩, decide_eq_true ⟨rfl, hl⟩]
      have G2 : Hid (∀ w1 : World, Below w.heap.size w w1 → _) := fun w1 hb => l4Run_any _ _ c il hgd hl w1 (h.below hb).at (hiv.below hb)
      have hne : ((il.length : Int) != c.1) = false := by simp [hl]
      generalize il.length = ilen at *
      go_enter Try.func28, Try.ntmps28
      go_wp2_with fail
      refine g1.mono ?_
      rintro e w1 ⟨rfl, hs⟩
      have hb1 := Below.step hb0 hb0.size hs
      have x1 := x0.below hs (by omega)
      obtain ⟨c0, c1, c2⟩ := x1.cells
      have hh := x1.heap
      have hlt1 := x1.lt
      have g2 := G2.out w1 hb1
      clear g1 h hiv G2
      go_wp2_with fail
      refine g2.mono ?_
      rintro e w2 ⟨r, rfl, ho, hs2⟩
      have HO : Hid (OwnBools w2 w.heap.size r (runG c.2.1 il)) := own_base ho hb1.size
      have HB : Hid (Below w.heap.size w w2) := Below.step hb1 hb1.size hs2
      clear g2 ho hs2 hs
      go_wp2_with fail
      go_ret2
      exact ⟨_, rfl, HO.out, HB.out⟩
    · rw [if_neg (fun e => hl e.2), decide_eq_false (fun e => hl e.2)]
      have hne : ((il.length : Int) != c.1) = true := bne_iff_ne.2 hl
      generalize il.length = ilen at *
      go_enter Try.func28, Try.ntmps28
      go_wp2_with fail
      refine g1.mono ?_
      rintro e w1 ⟨rfl, hs⟩
      have HB : Hid (Below w.heap.size w w1) := Below.step hb0 hb0.size hs
      have x1 := x0.below hs (by omega)
      obtain ⟨c0, c1, c2⟩ := x1.cells
      have hlt1 := x1.lt
      clear g1 h hiv
      go_wp2_with fail
      go_ret2
      exact ⟨_, rfl, World.ownsRow_nil _ _ _ _, HB.out⟩
theorem infoB : (Try.prog.info? 4).map (fun i => (i.zero, i.size, i.bytes)) = some (some (.bool false), 1, 1) := infoBool
set_option maxRecDepth 100000 in
set_option maxHeartbeats 2000000 in
theorem iAllWires_any (v iv : Value) (c : Ci) (il : List Bool) (w : World) (h : AtC w v c) (hiv : AtBS w iv il) :
    Calls Try.prog 27 #[v, iv] w fun e w' => ∃ r, e = .returned (.tuple #[r, .bool (wiresB c il)]) ∧ OwnBools w' w.heap.size r (wiresL c il) ∧ Below w.heap.size w w' := by
  have hat := h.at
  obtain ⟨hfit, gw, o, hv, h1, h2, _⟩ := h
  obtain ⟨ga, gc, hgw, hg⟩ := h1.opened
  obtain ⟨oa, oc, ho⟩ := h2.shape
  subst hgw ho hv
  have hil := hiv.opened
  have hiln := hiv.1.1
  obtain ⟨ia, icap, hiv'⟩ := hiv.1.shape
  have hb0 : Below w.heap.size w (w.alloc (.cells #[.int .i64 c.1, .slice ga c.2.1.length gc, .slice oa c.2.2.length oc] 27)) := (Below.refl _ _).alloc (Nat.le_refl _) _
  have x0 := box3_alloc w 27 (.int .i64 c.1) (.slice ga c.2.1.length gc) (.slice oa c.2.2.length oc)
  have g1 := iGood_any _ c _ (hat.below hb0)
  have hsz : (w.alloc (.cells #[.int .i64 c.1, .slice ga c.2.1.length gc, .slice oa c.2.2.length oc] 27)).heap.size = w.heap.size + 1 := by simp only [World.size_alloc]
  unfold wiresL wiresB
  cases hgd : goodC c with
  | false =>
    rw [hgd] at g1
    rw [if_neg (by simp), decide_eq_false (by simp)]
    subst hiv'
    go_enter Try.func27, Try.ntmps27
    go_wp2_with fail
    refine g1.mono ?_
    rintro e w1 ⟨rfl, hs⟩
    have HB : Hid (Below w.heap.size w w1) := Below.step hb0 hb0.size hs
    clear g1 hiv hil hat hg h1 h2
    go_wp2_with fail
    go_ret2
    exact ⟨_, rfl, World.ownsRow_nil _ _ _ _, HB.out⟩
  | true =>
    rw [hgd] at g1
    by_cases hl : (il.length : Int) = c.1
    · rw [if_pos ⟨rfl, hl⟩, decide_eq_true ⟨rfl, hl⟩]
      obtain ⟨hI0, hI1, hG, hO, hgb, _⟩ := goodC_ins hgd
      have hne : ((il.length : Int) != c.1) = false := by simp [hl]
      have HG : Hid (∀ (w1 : World), Below w.heap.size w w1 → ∀ (i : Nat) (x : Gt), c.2.1[i]? = some x → ∃ b off : Nat, ga = some ⟨b, off, none⟩ ∧ GateAt w1 b (off + i * 3) x) := fun w1 hb i x hx => by
        obtain ⟨b, off, e, hlt, hat⟩ := hg i x hx
        exact ⟨b, off, e, hat.below hb hlt⟩
      have HGB : Hid (∀ (i : Nat) (x : Gt), c.2.1[i]? = some x → gateB (c.1 + i) x = true) := fun i x hx => gatesB_at hgb hx
      obtain ⟨i0, hi, hz0, hz1, hz2⟩ := info_parts infoBool
      obtain ⟨ins, gs, os⟩ := c
      simp only at *
      clear hg hat h1 h2 hgb hfit hgd
      subst hiv'
      go_enter Try.func27, Try.ntmps27
      go_wp2_with fail
      refine g1.mono ?_
      rintro e w1 ⟨rfl, hs⟩
      have hb1 := Below.step hb0 hb0.size hs
      have x1 := x0.below hs (by omega)
      obtain ⟨c0, c1, c2⟩ := x1.cells
      have hh := x1.heap
      have hlt1 := x1.lt
      clear g1
      have g2 := size_raw ins ga gs.length gc (.slice oa os.length oc) (by omega) (by omega) (by omega) w1
      have HLS : Hid ((ins + (gs.length : Int)) = ((il.length + gs.length : Nat) : Int)) := by
        show (ins + (gs.length : Int)) = ((il.length + gs.length : Nat) : Int)
        omega
      have HB1 : Hid (Below w.heap.size w w1) := hb1
      rcases hil with ⟨hil0, hivn⟩ | ⟨ib, icap', hivs, hilt, hicap, hic⟩
      · have ilz : il.length = 0 := by rw [hil0]; rfl
        rw [hivn]
        clear hil0 hivn hiv
        go_wp2_with fail
        refine g2.mono ?_
        rintro e w2 ⟨rfl, hw2⟩
        have hb2 : Below w1.heap.size w1 w2 := by
          rw [hw2]
          exact (Below.refl _ _).alloc (Nat.le_refl _) _
        clear hw2 g2
        have hs2 := hb2.size
        go_wp2_with (at_make; refine wpList_make_own _ rfl _ _ 35 rfl w1.heap.size 4 i0 (.bool false) 1 Try.underlying35 hi hz0 hz1 .i64 .i64 _ (il.length + gs.length) rfl rfl (by first | exact HLS.out | omega) (by rw [hz2]; omega) (by unfold maxLen; omega) (by omega) ?_)
        intro w3 own3 grow3
        have hb3 : Below w1.heap.size w1 w3 := hb2.grown grow3 hb2.size (fun k hk => by cases hk)
        have y1 := x1.below hb3 x1.lt
        obtain ⟨q0, q1, q2⟩ := y1.cells
        have qh := y1.heap
        have ql := y1.lt
        go_wp2_with (at_builtin; refine wpList_append_own_none rfl _ _ 35 rfl w1.heap.size 4 i0 1 Try.underlying35 hi _ _ _ rfl own3 rfl ?_)
        have HO1 : Hid (OwnBools w3 w1.heap.size (.slice (some ⟨w2.heap.size, 0, none⟩) 0 gs.length) il) := by
          show w3.ownsRow w1.heap.size 4 1 _ il.length (cellsB il)
          have e0 : il = [] := List.length_eq_zero_iff.1 ilz
          rw [e0]
          exact own3
        have HB4 : Hid (Below w1.heap.size w1 w3) := hb3
        clear own3 grow3 hb2 hb3 hs2 c0 c1 c2 hh hlt1
        clear q0 q1 q2 qh ql y1
        go_loopw [6, 27] (fun v i wr => ∃ j : Nat, j ≤ gs.length ∧ i = .int .i64 j ∧ Hid (OwnBools wr w1.heap.size v (runG (gs.take j) il)) ∧ Hid (Below w1.heap.size w1 wr)) (fun _ i _ => gs.length - (intOf i).toNat)
        case atStart => exact ⟨0, by omega, rfl, HO1, HB4⟩
        case round =>
          obtain ⟨j, hj, rfl, HO, HB⟩ := hrel
          have hszr := HB.out.size
          by_cases hlt : j < gs.length
          · obtain ⟨x, hx⟩ : ∃ x, gs[j]? = some x := ⟨gs[j], List.getElem?_eq_getElem hlt⟩
            obtain ⟨b, off, rfl, d0, d1, d2⟩ := HG.out wr (HB1.out.trans (HB.out.mono HB1.out.size)) j x hx
            have hgg := HGB.out j x hx
            have hol : (runG (gs.take j) il).length = il.length + j := by rw [runG_len, List.length_take_of_le (by omega)]
            have hnew : runG (gs.take (j + 1)) il = runG (gs.take j) il ++ [gateV (runG (gs.take j) il) x] := by
              rw [List.take_add_one, hx, runG_append]
              rfl
            have HNEW : Hid _ := hnew
            obtain ⟨k, xa, xb⟩ := x
            simp only at d0 d1 d2
            have HOg : Hid (OwnBools (wr.alloc (.cells #[.int .i64 k, .int .i64 xa, .int .i64 xb] 128)) w1.heap.size u6 (runG (gs.take j) il)) := World.ownsRow.alloc HO.out _
            have HBg : Hid (Below w1.heap.size w1 (wr.alloc (.cells #[.int .i64 k, .int .i64 xa, .int .i64 xb] 128))) := HB.out.alloc hszr _
            generalize hrun : runG (gs.take j) il = rl at *
            have g3 := carried_any (k, xa, xb) u6 rl (ins + j) (by omega) (by omega) hgg (wr.alloc (.cells #[.int .i64 k, .int .i64 xa, .int .i64 xb] 128)) (bools_of_own (by omega) HOg.out)
            unfold gv at g3
            simp only at g3
            generalize hz : gateV rl (k, xa, xb) = z at *
            have HNX : Hid (∀ (v2 : Value) (w2 : World), w2.ownsRow w1.heap.size 4 1 v2 (rl.length + 1) (cellsB rl ++ [.bool z]) → OwnBools w2 w1.heap.size v2 (runG (gs.take (j + 1)) il)) := by
              intro v2 w2 ho2
              show OwnBools w2 w1.heap.size v2 (runG (gs.take (j + 1)) il)
              rw [HNEW.out]
              unfold OwnBools
              rw [List.length_append, List.length_singleton, cellsB_append]
              exact ho2
            obtain ⟨va, vcp, hv⟩ := own_shape HO.out
            subst hv
            have HHOL : Hid (rl.length = il.length + j) := hol
            have hrl : rl.length ≤ 400 := by omega
            clear hx hnew HNEW HG HGB HO1 HB4 hrun hz hgg hol HO
            generalize hrn : rl.length = rn at *
            go_wp2_with fail
            refine g3.mono ?_
            rintro e w5 ⟨rfl, hs5⟩
            have HB5 : Hid (Below w1.heap.size w1 w5) := HBg.out.trans (hs5.mono HBg.out.size)
            have own5 : w5.ownsRow w1.heap.size 4 1 (.slice va rn vcp) rn (cellsB rl) := by
              have h5 := owns_below HOg.out hs5
              rw [hrn] at h5
              exact h5
            have own6 := own5.alloc (.cells #[.bool z] 4)
            have hb6 : Below w1.heap.size w1 (w5.alloc (.cells #[.bool z] 4)) := HB5.out.alloc HB5.out.size _
            have hs6 := hb6.size
            clear g3 hs5 HOg HBg own5
            go_wp2_with (at_builtin; refine wpList_append_own _ rfl _ _ 35 rfl w1.heap.size 4 i0 (.bool false) 1 1 Try.underlying35 hi hz0 hz1 hz2 rfl (by decide) _ _ _ rfl own6 ⟨w5.heap.size, 0, none⟩ 1 1 [.bool z] rfl rfl (oneB_cells w5 z) (bools_one [z]) (by unfold maxLen; omega) (by omega) (by omega) ?_)
            intro v2 w2' own7 grow7 _
            have HB7 : Hid (Below w1.heap.size w1 w2') := below_app hb6 (by omega) (Nat.le_refl _) own6 grow7
            have HO7 : Hid (OwnBools w2' w1.heap.size v2 (runG (gs.take (j + 1)) il)) := HNX.out v2 w2' own7
            clear own6 own7 grow7 hb6 HNX
            go_wp2_with fail
            go_roundw
            case rel => exact ⟨j + 1, by omega, by go_num, HO7, HB7⟩
            case measure => simp [intOf]; omega
          · obtain rfl : j = gs.length := by omega
            have HN : Hid (OwnBools wr w1.heap.size u6 (runG gs il)) := by
              have h1 := HO.out
              rw [List.take_length] at h1
              exact h1
            have HB2 : Hid (Below w.heap.size w wr) := HB1.out.trans (HB.out.mono HB1.out.size)
            have hw1 := HB1.out.size
            clear HO HB HG HGB HO1 HB4
            go_wp2_with fail
            go_ret2
            exact ⟨_, rfl, own_base HN.out hw1, HB2.out⟩
      · have hic1 : ∀ w3, Below w1.heap.size w1 w3 → ∀ (i : Nat) (x : Bool), il[i]? = some x → w3.cell? ⟨ib, 0 + i, none⟩ = some (.bool x) := fun w3 hb i x hx => by
          rw [hb.cell (p := ⟨ib, 0 + i, none⟩) (Nat.lt_of_lt_of_le hilt HB1.out.size), HB1.out.cell (p := ⟨ib, 0 + i, none⟩) hilt]
          exact hic i x hx
        have HIC : Hid _ := hic1
        rw [hivs]
        clear hic hic1 hivs hiv
        go_wp2_with fail
        refine g2.mono ?_
        rintro e w2 ⟨rfl, hw2⟩
        have hb2 : Below w1.heap.size w1 w2 := by
          rw [hw2]
          exact (Below.refl _ _).alloc (Nat.le_refl _) _
        clear hw2 g2
        have hs2 := hb2.size
        go_wp2_with (at_make; refine wpList_make_own _ rfl _ _ 35 rfl w1.heap.size 4 i0 (.bool false) 1 Try.underlying35 hi hz0 hz1 .i64 .i64 _ (il.length + gs.length) rfl rfl (by first | exact HLS.out | omega) (by rw [hz2]; omega) (by unfold maxLen; omega) (by omega) ?_)
        intro w3 own3 grow3
        have hb3 : Below w1.heap.size w1 w3 := hb2.grown grow3 hb2.size (fun k hk => by cases hk)
        have hs3 := hb3.size
        have cells3 := bools_from (w := w3) (g := ib) (o := 0) (t := il) (HIC.out w3 hb3)
        go_wp2_with (at_builtin; refine wpList_append_own _ rfl _ _ 35 rfl w1.heap.size 4 i0 (.bool false) 1 1 Try.underlying35 hi hz0 hz1 hz2 rfl (by decide) _ _ _ rfl own3 ⟨ib, 0, none⟩ il.length icap' (cellsB il) rfl (by simp [cellsB]) cells3 (bools_one il) (by unfold maxLen; omega) (by omega) (by omega) ?_)
        intro v4 w4 own4 grow4 _
        have hb4 : Below w1.heap.size w1 w4 := below_app hb3 hb3.size (Nat.le_refl _) own3 grow4
        have HO1 : Hid (OwnBools w4 w1.heap.size v4 il) := by
          first | exact own4 | simpa using own4
        have HB4 : Hid (Below w1.heap.size w1 w4) := hb4
        have y1 := x1.below hb4 x1.lt
        obtain ⟨q0, q1, q2⟩ := y1.cells
        have qh := y1.heap
        have ql := y1.lt
        clear own3 own4 grow3 grow4 hb2 hb3 hb4 hs2 hs3 cells3 HIC c0 c1 c2 hh hlt1
        go_wp2_with fail
        clear q0 q1 q2 qh ql y1
        go_loopw [6, 27] (fun v i wr => ∃ j : Nat, j ≤ gs.length ∧ i = .int .i64 j ∧ Hid (OwnBools wr w1.heap.size v (runG (gs.take j) il)) ∧ Hid (Below w1.heap.size w1 wr)) (fun _ i _ => gs.length - (intOf i).toNat)
        case atStart => exact ⟨0, by omega, rfl, HO1, HB4⟩
        case round =>
          obtain ⟨j, hj, rfl, HO, HB⟩ := hrel
          have hszr := HB.out.size
          by_cases hlt : j < gs.length
          · obtain ⟨x, hx⟩ : ∃ x, gs[j]? = some x := ⟨gs[j], List.getElem?_eq_getElem hlt⟩
            obtain ⟨b, off, rfl, d0, d1, d2⟩ := HG.out wr (HB1.out.trans (HB.out.mono HB1.out.size)) j x hx
            have hgg := HGB.out j x hx
            have hol : (runG (gs.take j) il).length = il.length + j := by rw [runG_len, List.length_take_of_le (by omega)]
            have hnew : runG (gs.take (j + 1)) il = runG (gs.take j) il ++ [gateV (runG (gs.take j) il) x] := by
              rw [List.take_add_one, hx, runG_append]
              rfl
            have HNEW : Hid _ := hnew
            obtain ⟨k, xa, xb⟩ := x
            simp only at d0 d1 d2
            have HOg : Hid (OwnBools (wr.alloc (.cells #[.int .i64 k, .int .i64 xa, .int .i64 xb] 128)) w1.heap.size u6 (runG (gs.take j) il)) := World.ownsRow.alloc HO.out _
            have HBg : Hid (Below w1.heap.size w1 (wr.alloc (.cells #[.int .i64 k, .int .i64 xa, .int .i64 xb] 128))) := HB.out.alloc hszr _
            generalize hrun : runG (gs.take j) il = rl at *
            have g3 := carried_any (k, xa, xb) u6 rl (ins + j) (by omega) (by omega) hgg (wr.alloc (.cells #[.int .i64 k, .int .i64 xa, .int .i64 xb] 128)) (bools_of_own (by omega) HOg.out)
            unfold gv at g3
            simp only at g3
            generalize hz : gateV rl (k, xa, xb) = z at *
            have HNX : Hid (∀ (v2 : Value) (w2 : World), w2.ownsRow w1.heap.size 4 1 v2 (rl.length + 1) (cellsB rl ++ [.bool z]) → OwnBools w2 w1.heap.size v2 (runG (gs.take (j + 1)) il)) := by
              intro v2 w2 ho2
              show OwnBools w2 w1.heap.size v2 (runG (gs.take (j + 1)) il)
              rw [HNEW.out]
              unfold OwnBools
              rw [List.length_append, List.length_singleton, cellsB_append]
              exact ho2
            obtain ⟨va, vcp, hv⟩ := own_shape HO.out
            subst hv
            have HHOL : Hid (rl.length = il.length + j) := hol
            have hrl : rl.length ≤ 400 := by omega
            clear hx hnew HNEW HG HGB HO1 HB4 hrun hz hgg hol HO
            generalize hrn : rl.length = rn at *
            go_wp2_with fail
            refine g3.mono ?_
            rintro e w5 ⟨rfl, hs5⟩
            have HB5 : Hid (Below w1.heap.size w1 w5) := HBg.out.trans (hs5.mono HBg.out.size)
            have own5 : w5.ownsRow w1.heap.size 4 1 (.slice va rn vcp) rn (cellsB rl) := by
              have h5 := owns_below HOg.out hs5
              rw [hrn] at h5
              exact h5
            have own6 := own5.alloc (.cells #[.bool z] 4)
            have hb6 : Below w1.heap.size w1 (w5.alloc (.cells #[.bool z] 4)) := HB5.out.alloc HB5.out.size _
            have hs6 := hb6.size
            clear g3 hs5 HOg HBg own5
            go_wp2_with (at_builtin; refine wpList_append_own _ rfl _ _ 35 rfl w1.heap.size 4 i0 (.bool false) 1 1 Try.underlying35 hi hz0 hz1 hz2 rfl (by decide) _ _ _ rfl own6 ⟨w5.heap.size, 0, none⟩ 1 1 [.bool z] rfl rfl (oneB_cells w5 z) (bools_one [z]) (by unfold maxLen; omega) (by omega) (by omega) ?_)
            intro v2 w2' own7 grow7 _
            have HB7 : Hid (Below w1.heap.size w1 w2') := below_app hb6 (by omega) (Nat.le_refl _) own6 grow7
            have HO7 : Hid (OwnBools w2' w1.heap.size v2 (runG (gs.take (j + 1)) il)) := HNX.out v2 w2' own7
            clear own6 own7 grow7 hb6 HNX
            go_wp2_with fail
            go_roundw
            case rel => exact ⟨j + 1, by omega, by go_num, HO7, HB7⟩
            case measure => simp [intOf]; omega
          · obtain rfl : j = gs.length := by omega
            have HN : Hid (OwnBools wr w1.heap.size u6 (runG gs il)) := by
              have h1 := HO.out
              rw [List.take_length] at h1
              exact h1
            have HB2 : Hid (Below w.heap.size w wr) := HB1.out.trans (HB.out.mono HB1.out.size)
            have hw1 := HB1.out.size
            clear HO HB HG HGB HO1 HB4
            go_wp2_with fail
            go_ret2
            exact ⟨_, rfl, own_base HN.out hw1, HB2.out⟩
    · rw [if_neg (fun e => hl e.2), decide_eq_false (fun e => hl e.2)]
      have hne : ((il.length : Int) != c.1) = true := bne_iff_ne.2 hl
      subst hiv'
      generalize il.length = ilen at *
      go_enter Try.func27, Try.ntmps27
      go_wp2_with fail
      refine g1.mono ?_
      rintro e w1 ⟨rfl, hs⟩
      have HB : Hid (Below w.heap.size w w1) := Below.step hb0 hb0.size hs
      have x1 := x0.below hs (by omega)
      obtain ⟨c0, c1, c2⟩ := x1.cells
      have hlt1 := x1.lt
      clear g1 hiv hil hat hg h1 h2
      go_wp2_with fail
      go_ret2
      exact ⟨_, rfl, World.ownsRow_nil _ _ _ _, HB.out⟩
end Go.Proofs.Ytpjllhlbdcanlaa
