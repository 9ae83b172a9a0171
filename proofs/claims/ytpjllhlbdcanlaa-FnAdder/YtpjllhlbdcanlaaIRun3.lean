/-
  What outs carry: RunCircuit of the model and of the program.
-/
import Derived.Test.YtpjllhlbdcanlaaIRun2
namespace Go.Proofs.Ytpjllhlbdcanlaa
open Go Go.RowKit
open M
set_option linter.unusedVariables false

def outsL (c : Ci) (il : List Bool) : List Bool := if goodC c = true ∧ (il.length : Int) = c.1 then c.2.2.map (at' (runG c.2.1 il)) else []
theorem outsL_len (c : Ci) (il : List Bool) : (outsL c il).length ≤ 1048576 := by
  unfold outsL
  split
  · rename_i hg
    obtain ⟨_, _, _, h3, _⟩ := goodC_ins hg.1
    rw [List.length_map]
    omega
  · simp
set_option maxRecDepth 100000 in
set_option maxHeartbeats 2000000 in
theorem sRunCircuit_any (v iv : Value) (c : Ci) (il : List Bool) (w : World) (h : AtC w v c) (hiv : AtBS w iv il) :
    Calls Try.prog 38 #[v, iv] w fun e w' => ∃ r, e = .returned (.tuple #[r, .bool (wiresB c il)]) ∧ OwnBS w' w.heap.size w'.heap.size r (outsL c il) ∧ Below w.heap.size w w' := by
  have hat := h.at
  obtain ⟨_, gw, o, hv, h1, h2, _⟩ := id h
  obtain ⟨ga, gc, hgw⟩ := h1.shape
  obtain ⟨oa, oc, ho, hoc⟩ := h2.opened
  subst hgw ho hv
  obtain ⟨ia, icap, hiv'⟩ := hiv.1.shape
  have hb0 : Below w.heap.size w (w.alloc (.cells #[.int .i64 c.1, .slice ga c.2.1.length gc, .slice oa c.2.2.length oc] 27)) := (Below.refl _ _).alloc (Nat.le_refl _) _
  have x0 := box3_alloc w 27 (.int .i64 c.1) (.slice ga c.2.1.length gc) (.slice oa c.2.2.length oc)
  have g1 := sAllWires_any _ _ c il _ (h.below hb0) (hiv.below hb0)
  have hsz : (w.alloc (.cells #[.int .i64 c.1, .slice ga c.2.1.length gc, .slice oa c.2.2.length oc] 27)).heap.size = w.heap.size + 1 := by simp only [World.size_alloc]
  by_cases hgood : goodC c = true ∧ (il.length : Int) = c.1
  · have e1 : outsL c il = c.2.2.map (at' (runG c.2.1 il)) := by unfold outsL; rw [if_pos hgood]
    have e2 : wiresB c il = true := by unfold wiresB; exact decide_eq_true hgood
    have e3 : wiresL c il = runG c.2.1 il := by unfold wiresL; rw [if_pos hgood]
    rw [e2, e3] at g1
    rw [e1, e2]
    obtain ⟨hI0, hI1, hG, hO, _, hout⟩ := goodC_ins hgood.1
    have hrl : (runG c.2.1 il).length = il.length + c.2.1.length := runG_len _ _
    have hlen := hgood.2
    obtain ⟨ins, gs, os⟩ := c
    simp only at *
    have HOC : Hid (∀ (w1 : World), Below w.heap.size w w1 → ∀ (i : Nat) (x : Int), os[i]? = some x → ∃ b off : Nat, oa = some ⟨b, off, none⟩ ∧ w1.cell? ⟨b, off + i, none⟩ = some (.int .i64 x)) := fun w1 hb i x hx => by
      obtain ⟨b, off, e, hlt, hc⟩ := hoc i x hx
      exact ⟨b, off, e, by rw [hb.cell (p := ⟨b, off + i, none⟩) hlt]; exact hc⟩
    have HOU : Hid (∀ x ∈ os, 0 ≤ x ∧ x < ins + gs.length) := hout
    obtain ⟨i0, hi, hz0, hz1, hz2⟩ := info_parts infoBool
    subst hiv'
    clear hoc hout h1 h2 hat e1 e2 e3 hgood h hiv
    generalize runG gs il = rl at *
    have hrl2 : rl.length ≤ 400 := by omega
    have hrl3 : ins + (gs.length : Int) = rl.length := by omega
    clear hlen
    generalize il.length = iln at *
    go_enter Try.func38, Try.ntmps38
    go_wp2_with fail
    refine g1.mono ?_
    rintro e w1 ⟨r, rfl, hor, hs⟩
    have hb1 := Below.step hb0 hb0.size hs
    have x1 := x0.below hs (by omega)
    obtain ⟨c0, c1, c2⟩ := x1.cells
    have hh := x1.heap
    have hlt1 := x1.lt
    obtain ⟨ra, rcap, hr⟩ := own_shape hor
    subst hr
    have HB1 : Hid (Below w.heap.size w w1) := hb1
    have HR : Hid (∀ w2 : World, Below w1.heap.size w1 w2 → BoolsAt w2 (.slice ra rl.length rcap) rl) := fun w2 hb => (bools_of_own (by omega) hor).below hb
    clear g1 hor hs hb0 x0 hb1
    go_wp2_with fail
    clear c0 c1 c2 hh hlt1
    go_loopw [8, 22] (fun v i wr => ∃ j : Nat, j ≤ os.length ∧ i = .int .i64 j ∧ Hid (OwnBools wr w1.heap.size v ((os.take j).map (at' rl))) ∧ Hid (Below w1.heap.size w1 wr)) (fun _ i _ => os.length - (intOf i).toNat)
    case atStart => exact ⟨0, by omega, rfl, World.ownsRow_nil _ _ _ _, Below.refl _ _⟩
    case round =>
      obtain ⟨j, hj, rfl, HO, HB⟩ := hrel
      have hszr := HB.out.size
      by_cases hlt : j < os.length
      · obtain ⟨x, hx⟩ : ∃ x, os[j]? = some x := ⟨os[j], List.getElem?_eq_getElem hlt⟩
        obtain ⟨b, off, rfl, d0⟩ := HOC.out wr (HB1.out.trans (HB.out.mono HB1.out.size)) j x hx
        have hxr := HOU.out x (List.mem_of_getElem? hx)
        obtain ⟨hx0, hx1⟩ := hxr
        obtain ⟨vg, voff, vcp, hvv, hvl, hcell⟩ := (HR.out wr HB.out).at hx0 (by omega)
        injection hvv with ea eb ec
        subst ea ec
        obtain ⟨A, rfl⟩ := Int.eq_ofNat_of_zero_le hx0
        rw [Int.toNat_natCast] at hcell
        have hml : ((os.take j).map (at' rl)).length = j := by rw [List.length_map, List.length_take_of_le (by omega)]
        have HNX : Hid (∀ (v2 : Value) (w2 : World), w2.ownsRow w1.heap.size 4 1 v2 (j + 1) (cellsB ((os.take j).map (at' rl)) ++ [.bool (at' rl A)]) → OwnBools w2 w1.heap.size v2 ((os.take (j + 1)).map (at' rl))) := by
          intro v2 w2 ho2
          show OwnBools w2 w1.heap.size v2 ((os.take (j + 1)).map (at' rl))
          rw [List.take_add_one, hx, List.map_append]
          unfold OwnBools
          rw [List.length_append, hml, cellsB_append]
          exact ho2
        have own5 : wr.ownsRow w1.heap.size 4 1 u8 j (cellsB ((os.take j).map (at' rl))) := by
          have h5 := HO.out
          unfold OwnBools at h5
          rw [hml] at h5
          exact h5
        obtain ⟨va, vc5, hv5⟩ := own_shape own5
        subst hv5
        generalize at' rl A = z at *
        have own6 := own5.alloc (.cells #[.bool z] 4)
        have hb6 : Below w1.heap.size w1 (wr.alloc (.cells #[.bool z] 4)) := HB.out.alloc hszr _
        have hs6 := hb6.size
        have hA : (A : Int) < rl.length := by omega
        clear hx HOC HOU HR HO own5 hml HB hx1
        generalize (cellsB ((os.take j).map (at' rl))) = cb at *
        generalize rl.length = rln at *
        go_wp2_with (at_builtin; refine wpList_append_own _ rfl _ _ 35 rfl w1.heap.size 4 i0 (.bool false) 1 1 Try.underlying35 hi hz0 hz1 hz2 rfl (by decide) _ _ _ rfl own6 ⟨wr.heap.size, 0, none⟩ 1 1 [.bool z] rfl rfl (oneB_cells wr z) (bools_one [z]) (by unfold maxLen; omega) (by omega) (by omega) ?_)
        intro v2 w2' own7 grow7 _
        have HB7 : Hid (Below w1.heap.size w1 w2') := below_app hb6 (by omega) (Nat.le_refl _) own6 grow7
        have HO7 : Hid (OwnBools w2' w1.heap.size v2 ((os.take (j + 1)).map (at' rl))) := HNX.out v2 w2' own7
        clear own6 own7 grow7 hb6 HNX
        go_wp2_with fail
        go_roundw
        case rel => exact ⟨j + 1, by omega, by go_num, HO7, HB7⟩
        case measure => simp [intOf]; omega
      · obtain rfl : j = os.length := by omega
        have HN : Hid (OwnBools wr w1.heap.size u8 (os.map (at' rl))) := by
          have h1 := HO.out
          rw [List.take_length] at h1
          exact h1
        have HB2 : Hid (Below w.heap.size w wr) := HB1.out.trans (HB.out.mono HB1.out.size)
        have hw1 := HB1.out.size
        clear HO HB HOC HOU HR
        go_wp2_with fail
        go_ret2
        exact ⟨_, rfl, rowIn_of (own_base HN.out hw1), HB2.out⟩
  · have e1 : outsL c il = [] := by unfold outsL; rw [if_neg hgood]
    have e2 : wiresB c il = false := by unfold wiresB; exact decide_eq_false hgood
    have e3 : wiresL c il = [] := by unfold wiresL; rw [if_neg hgood]
    rw [e2, e3] at g1
    rw [e1, e2]
    subst hiv'
    clear hoc h1 h2 hat e1 e2 e3 hgood h hiv
    generalize il.length = iln at *
    go_enter Try.func38, Try.ntmps38
    go_wp2_with fail
    refine g1.mono ?_
    rintro e w1 ⟨r, rfl, hor, hs⟩
    obtain ⟨ra, rcap, hr⟩ := own_shape hor
    subst hr
    have HB : Hid (Below w.heap.size w w1) := Below.step hb0 hb0.size hs
    clear g1 hor hs
    go_wp2_with fail
    go_ret2
    exact ⟨_, rfl, rowIn_of (World.ownsRow_nil _ _ _ _), HB.out⟩
set_option maxRecDepth 100000 in
set_option maxHeartbeats 2000000 in
theorem iRunCircuit_any (v iv : Value) (c : Ci) (il : List Bool) (w : World) (h : AtC w v c) (hiv : AtBS w iv il) :
    Calls Try.prog 37 #[v, iv] w fun e w' => ∃ r, e = .returned (.tuple #[r, .bool (wiresB c il)]) ∧ OwnBS w' w.heap.size w'.heap.size r (outsL c il) ∧ Below w.heap.size w w' := by
  have hat := h.at
  obtain ⟨_, gw, o, hv, h1, h2, _⟩ := id h
  obtain ⟨ga, gc, hgw⟩ := h1.shape
  obtain ⟨oa, oc, ho, hoc⟩ := h2.opened
  subst hgw ho hv
  obtain ⟨ia, icap, hiv'⟩ := hiv.1.shape
  have hb0 : Below w.heap.size w (w.alloc (.cells #[.int .i64 c.1, .slice ga c.2.1.length gc, .slice oa c.2.2.length oc] 27)) := (Below.refl _ _).alloc (Nat.le_refl _) _
  have x0 := box3_alloc w 27 (.int .i64 c.1) (.slice ga c.2.1.length gc) (.slice oa c.2.2.length oc)
  have g1 := iAllWires_any _ _ c il _ (h.below hb0) (hiv.below hb0)
  have hsz : (w.alloc (.cells #[.int .i64 c.1, .slice ga c.2.1.length gc, .slice oa c.2.2.length oc] 27)).heap.size = w.heap.size + 1 := by simp only [World.size_alloc]
  by_cases hgood : goodC c = true ∧ (il.length : Int) = c.1
  · have e1 : outsL c il = c.2.2.map (at' (runG c.2.1 il)) := by unfold outsL; rw [if_pos hgood]
    have e2 : wiresB c il = true := by unfold wiresB; exact decide_eq_true hgood
    have e3 : wiresL c il = runG c.2.1 il := by unfold wiresL; rw [if_pos hgood]
    rw [e2, e3] at g1
    rw [e1, e2]
    obtain ⟨hI0, hI1, hG, hO, _, hout⟩ := goodC_ins hgood.1
    have hrl : (runG c.2.1 il).length = il.length + c.2.1.length := runG_len _ _
    have hlen := hgood.2
    obtain ⟨ins, gs, os⟩ := c
    simp only at *
    have HOC : Hid (∀ (w1 : World), Below w.heap.size w w1 → ∀ (i : Nat) (x : Int), os[i]? = some x → ∃ b off : Nat, oa = some ⟨b, off, none⟩ ∧ w1.cell? ⟨b, off + i, none⟩ = some (.int .i64 x)) := fun w1 hb i x hx => by
      obtain ⟨b, off, e, hlt, hc⟩ := hoc i x hx
      exact ⟨b, off, e, by rw [hb.cell (p := ⟨b, off + i, none⟩) hlt]; exact hc⟩
    have HOU : Hid (∀ x ∈ os, 0 ≤ x ∧ x < ins + gs.length) := hout
    obtain ⟨i0, hi, hz0, hz1, hz2⟩ := info_parts infoBool
    subst hiv'
    clear hoc hout h1 h2 hat e1 e2 e3 hgood h hiv
    generalize runG gs il = rl at *
    have hrl2 : rl.length ≤ 400 := by omega
    have hrl3 : ins + (gs.length : Int) = rl.length := by omega
    clear hlen
    generalize il.length = iln at *
    go_enter Try.func37, Try.ntmps37
    go_wp2_with fail
    refine g1.mono ?_
    rintro e w1 ⟨r, rfl, hor, hs⟩
    have hb1 := Below.step hb0 hb0.size hs
    have x1 := x0.below hs (by omega)
    obtain ⟨c0, c1, c2⟩ := x1.cells
    have hh := x1.heap
    have hlt1 := x1.lt
    obtain ⟨ra, rcap, hr⟩ := own_shape hor
    subst hr
    have HB1 : Hid (Below w.heap.size w w1) := hb1
    have HR : Hid (∀ w2 : World, Below w1.heap.size w1 w2 → BoolsAt w2 (.slice ra rl.length rcap) rl) := fun w2 hb => (bools_of_own (by omega) hor).below hb
    clear g1 hor hs hb0 x0 hb1
    go_wp2_with fail
    clear c0 c1 c2 hh hlt1
    go_loopw [8, 22] (fun v i wr => ∃ j : Nat, j ≤ os.length ∧ i = .int .i64 j ∧ Hid (OwnBools wr w1.heap.size v ((os.take j).map (at' rl))) ∧ Hid (Below w1.heap.size w1 wr)) (fun _ i _ => os.length - (intOf i).toNat)
    case atStart => exact ⟨0, by omega, rfl, World.ownsRow_nil _ _ _ _, Below.refl _ _⟩
    case round =>
      obtain ⟨j, hj, rfl, HO, HB⟩ := hrel
      have hszr := HB.out.size
      by_cases hlt : j < os.length
      · obtain ⟨x, hx⟩ : ∃ x, os[j]? = some x := ⟨os[j], List.getElem?_eq_getElem hlt⟩
        obtain ⟨b, off, rfl, d0⟩ := HOC.out wr (HB1.out.trans (HB.out.mono HB1.out.size)) j x hx
        have hxr := HOU.out x (List.mem_of_getElem? hx)
        obtain ⟨hx0, hx1⟩ := hxr
        obtain ⟨vg, voff, vcp, hvv, hvl, hcell⟩ := (HR.out wr HB.out).at hx0 (by omega)
        injection hvv with ea eb ec
        subst ea ec
        obtain ⟨A, rfl⟩ := Int.eq_ofNat_of_zero_le hx0
        rw [Int.toNat_natCast] at hcell
        have hml : ((os.take j).map (at' rl)).length = j := by rw [List.length_map, List.length_take_of_le (by omega)]
        have HNX : Hid (∀ (v2 : Value) (w2 : World), w2.ownsRow w1.heap.size 4 1 v2 (j + 1) (cellsB ((os.take j).map (at' rl)) ++ [.bool (at' rl A)]) → OwnBools w2 w1.heap.size v2 ((os.take (j + 1)).map (at' rl))) := by
          intro v2 w2 ho2
          show OwnBools w2 w1.heap.size v2 ((os.take (j + 1)).map (at' rl))
          rw [List.take_add_one, hx, List.map_append]
          unfold OwnBools
          rw [List.length_append, hml, cellsB_append]
          exact ho2
        have own5 : wr.ownsRow w1.heap.size 4 1 u8 j (cellsB ((os.take j).map (at' rl))) := by
          have h5 := HO.out
          unfold OwnBools at h5
          rw [hml] at h5
          exact h5
        obtain ⟨va, vc5, hv5⟩ := own_shape own5
        subst hv5
        generalize at' rl A = z at *
        have own6 := own5.alloc (.cells #[.bool z] 4)
        have hb6 : Below w1.heap.size w1 (wr.alloc (.cells #[.bool z] 4)) := HB.out.alloc hszr _
        have hs6 := hb6.size
        have hA : (A : Int) < rl.length := by omega
        clear hx HOC HOU HR HO own5 hml HB hx1
        generalize (cellsB ((os.take j).map (at' rl))) = cb at *
        generalize rl.length = rln at *
        go_wp2_with (at_builtin; refine wpList_append_own _ rfl _ _ 35 rfl w1.heap.size 4 i0 (.bool false) 1 1 Try.underlying35 hi hz0 hz1 hz2 rfl (by decide) _ _ _ rfl own6 ⟨wr.heap.size, 0, none⟩ 1 1 [.bool z] rfl rfl (oneB_cells wr z) (bools_one [z]) (by unfold maxLen; omega) (by omega) (by omega) ?_)
        intro v2 w2' own7 grow7 _
        have HB7 : Hid (Below w1.heap.size w1 w2') := below_app hb6 (by omega) (Nat.le_refl _) own6 grow7
        have HO7 : Hid (OwnBools w2' w1.heap.size v2 ((os.take (j + 1)).map (at' rl))) := HNX.out v2 w2' own7
        clear own6 own7 grow7 hb6 HNX
        go_wp2_with fail
        go_roundw
        case rel => exact ⟨j + 1, by omega, by go_num, HO7, HB7⟩
        case measure => simp [intOf]; omega
      · obtain rfl : j = os.length := by omega
        have HN : Hid (OwnBools wr w1.heap.size u8 (os.map (at' rl))) := by
          have h1 := HO.out
          rw [List.take_length] at h1
          exact h1
        have HB2 : Hid (Below w.heap.size w wr) := HB1.out.trans (HB.out.mono HB1.out.size)
        have hw1 := HB1.out.size
        clear HO HB HOC HOU HR
        go_wp2_with fail
        go_ret2
        exact ⟨_, rfl, rowIn_of (own_base HN.out hw1), HB2.out⟩
  · have e1 : outsL c il = [] := by unfold outsL; rw [if_neg hgood]
    have e2 : wiresB c il = false := by unfold wiresB; exact decide_eq_false hgood
    have e3 : wiresL c il = [] := by unfold wiresL; rw [if_neg hgood]
    rw [e2, e3] at g1
    rw [e1, e2]
    subst hiv'
    clear hoc h1 h2 hat e1 e2 e3 hgood h hiv
    generalize il.length = iln at *
    go_enter Try.func37, Try.ntmps37
    go_wp2_with fail
    refine g1.mono ?_
    rintro e w1 ⟨r, rfl, hor, hs⟩
    obtain ⟨ra, rcap, hr⟩ := own_shape hor
    subst hr
    have HB : Hid (Below w.heap.size w w1) := Below.step hb0 hb0.size hs
    clear g1 hor hs
    go_wp2_with fail
    go_ret2
    exact ⟨_, rfl, rowIn_of (World.ownsRow_nil _ _ _ _), HB.out⟩
end Go.Proofs.Ytpjllhlbdcanlaa
