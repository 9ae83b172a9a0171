/-
  When a command is good, a program good, a program small: the model's l7Command, GoodProgram, l7Small, IsSmall.
  When a program is good and when it is small: the model's GoodProgram, l7Small, IsSmall.
  The model's l7State and l7Holds.
  The number of a state: plain mathematics.
  The model's l7No, StateNo, IsStart.
  Which commands of a program are enabled in a state, and what they do: plain mathematics.
  The model's StateNo, IsStart.
  The state of a number: plain mathematics.
  What an op takes and is, whether a node's number is as its op wants it, how many variables there may be: the program's shapeOf, goodN, goodVars.
  A node over its parts: the program's nodeOver.
  A node over parts of which one is none or of another kind: the program's nodeOver answers none.
  The tree of a term: the program's rootOf.
  The walk of the exact law of JoinTerms, out of what the program's own function does.
  The nodes of a tree laid in a row: the program's layBehind and nodesOf, and with them TurnTerm and JoinTerms.
  The program's nodesOf, TurnTerm and JoinTerms.
  The walk of the exact law of VarsIn, out of what the program's own function does.
  The variables of a tree: the program's nameVars, hasVars and VarsIn.
  What an op makes of its parts' values: the program's numberOf, holdsOf and bitOf.
  The walk of the exact law of ValueOf, out of what the program's own function does.
  What a tree comes to in a state: the program's value and ValueOf.
  The walk of the exact law of FoldTerm, out of what the program's own function does.
  A tree that is folded: the program's hasVars, leafOf, fold and FoldTerm.
  The program's leafOf, fold and FoldTerm.
-/
import Derived.Test.YtmhpnkfibecnmaaDoorKS11
import Derived.Lib.QuietBelow
import Derived.BigQuiet
import Derived.Test.YtmhpnkfibecnmaaDoorStateF
import Derived.Test.YtmhpnkfibecnmaaDoorOwn2
import Derived.Test.YtmhpnkfibecnmaaDoorNodes
import Derived.Handy
import Derived.Test.YtmhpnkfibecnmaaDoorLGood
import Derived.Maps.AppendAt
import Derived.Test.YtmhpnkfibecnmaaDoorLTurn
import Derived.Test.YtmhpnkfibecnmaaDoorVars
import Derived.Test.YtmhpnkfibecnmaaDoorVal2
import Derived.Test.YtmhpnkfibecnmaaDoorU64
namespace Go.Proofs.YtmhpnkfibecnmaaDoor
open Go Go.RowKit
open M
set_option linter.unusedVariables false

theorem cell_lt9 {w : World} {b q : Nat} {u : Value} (h : w.cell? ⟨b, q, none⟩ = some u) : b < w.heap.size := by
  by_cases hb : b < w.heap.size
  · exact hb
  · have e : w.heap[b]? = none := Array.getElem?_eq_none (by omega)
    simp [World.cell?, e] at h
set_option maxRecDepth 100000 in
set_option maxHeartbeats 8000000 in
theorem sCommand_any (v xv yv : Value) (p : Pg) (c : Cm) (hv0 : 1 ≤ p.2.1) (hv1 : p.2.1 ≤ 4) (w : World) (h : AtProg w v p) (hc : CmV w c xv yv) :
    Calls Tryd.prog 60 #[v, .agg #[xv, yv]] w fun e w' => e = .returned (.bool (cmB p.1 p.2.1 c)) ∧ Below w.heap.size w w' := by
  obtain ⟨hw, hch⟩ := hc
  have HAS : Hid (∀ w1 : World, Below w.heap.size w w1 → Calls Tryd.prog 58 #[v, xv] w1 fun e w' => e = .returned (.bool (kindL p.1 p.2.1 c.1 == 2)) ∧ Below w1.heap.size w1 w') := fun w1 hb => asks_any v xv p c.1 w1 (h.below hb) (hw.below hb)
  obtain ⟨sa, sn, sc, ca, cn, cc, rfl⟩ := h.shape
  obtain ⟨wa, whc, rfl⟩ := hw.shape
  have hchl := hch.1
  obtain ⟨cha, chc, rfl, hcc⟩ := hch.opened
  unfold cmB
  have HCS : Hid (∀ w1 : World, Below w.heap.size w w1 → ∀ (i : Nat) (d : Ch), c.2[i]? = some d → ∃ b off : Nat, cha = some ⟨b, off, none⟩ ∧ ∃ y : Value, w1.cell? ⟨b, off + i * 2, none⟩ = some (.int .i64 d.1) ∧ w1.cell? ⟨b, off + i * 2 + 1, none⟩ = some y ∧ Fit d.1 ∧ NodesAt w1 y d.2) := fun w1 hb i d hi => by
    obtain ⟨b, off, e, hlt, x, y, h3, h4, h5⟩ := hcc i d hi
    obtain ⟨k0, rfl, k2⟩ := h5
    exact ⟨b, off, e, y, by rw [hb.cell (p := ⟨b, off + i * 2, none⟩) hlt]; exact h3, by rw [hb.cell (p := ⟨b, off + i * 2 + 1, none⟩) hlt]; exact h4, k0, k2.below hb⟩
  clear h hw hch hcc
  generalize c.1.length = whn at *
  obtain ⟨cwhen, cs⟩ := c
  simp only at *
  generalize p.1 = pw at *
  generalize p.2.1 = pv at *
  obtain ⟨Q, hQ⟩ : ∃ Q : Int, pv - 1 = Q := ⟨_, rfl⟩
  have hQw : IntKind.i64.wrap (pv - 1) = Q := by rw [← hQ]; exact IntWalk.i64_in _ ⟨by omega, by omega⟩
  have hQw2 : IntKind.i64.wrap Q = Q := IntWalk.i64_in _ ⟨by omega, by omega⟩
  have hb0 : Below w.heap.size w ((w.alloc (.cells #[.int .i64 pw, .int .i64 pv, .slice sa sn sc, .slice ca cn cc] 27)).alloc (.cells #[.slice wa whn whc, .slice cha cs.length chc] 98)) := ((Below.refl _ _).alloc (Nat.le_refl _) _).alloc (by rw [World.size_alloc]; omega) _
  have x0 := (box4_alloc w 27 (.int .i64 pw) (.int .i64 pv) (.slice sa sn sc) (.slice ca cn cc)).alloc (.cells #[.slice wa whn whc, .slice cha cs.length chc] 98)
  have x1b := box2_alloc (w.alloc (.cells #[.int .i64 pw, .int .i64 pv, .slice sa sn sc, .slice ca cn cc] 27)) 98 (.slice wa whn whc) (.slice cha cs.length chc)
  simp only [World.size_alloc] at x1b
  have HX0 : Hid _ := x0
  have HX1 : Hid _ := x1b
  have HB0 : Hid _ := hb0
  have hszz : ((w.alloc (.cells #[.int .i64 pw, .int .i64 pv, .slice sa sn sc, .slice ca cn cc] 27)).alloc (.cells #[.slice wa whn whc, .slice cha cs.length chc] 98)).heap.size = w.heap.size + 1 + 1 := by simp only [World.size_alloc]
  clear hb0
  cases hk : (kindL pw pv cwhen == 2) with
  | false =>
    rw [hk] at HAS
    rw [Bool.false_and]
    clear hk HCS x0 x1b HX0 HX1
    generalize cs.length = chn at *
    go_enter Tryd.func60, Tryd.ntmps60
    go_wp2_with fail
    refine (HAS.out _ HB0.out).mono ?_
    rintro e w1 ⟨rfl, hs⟩
    have HB1 : Hid (Below w.heap.size w w1) := Below.step HB0.out HB0.out.size hs
    clear hs
    go_wp2_with fail
    go_ret
    exact ⟨rfl, HB1.out⟩
  | true =>
    rw [hk] at HAS
    rw [Bool.true_and]
    clear hk
    by_cases hlen : (cs.length : Int) ≤ pv
    case neg =>
      have hR : chsB pw pv 0 cs = false := by
        rw [Bool.eq_false_iff]
        intro h
        have := chsB_len pw pv cs 0 h (by omega)
        omega
      rw [hR]
      clear hR HCS
      generalize cs.length = chn at *
      go_enter Tryd.func60, Tryd.ntmps60
      go_wp2_with fail
      refine (HAS.out _ HB0.out).mono ?_
      generalize ((w.alloc (.cells #[.int .i64 pw, .int .i64 pv, .slice sa sn sc, .slice ca cn cc] 27)).alloc (.cells #[.slice wa whn whc, .slice cha chn chc] 98)) = w0 at *
      rintro e w1 ⟨rfl, hs⟩
      have HB1 : Hid (Below w.heap.size w w1) := Below.step HB0.out HB0.out.size hs
      have z0 := HX0.out.below hs HX0.out.lt
      have z1 := HX1.out.below hs HX1.out.lt
      obtain ⟨a0, a1, a2, a3⟩ := z0.cells
      have ah := z0.heap
      have al := z0.lt
      obtain ⟨b0, b1⟩ := z1.cells
      have bh := z1.heap
      have bl := z1.lt
      clear hs z0 z1 x0 x1b
      go_wp2_with fail
      go_ret
      exact ⟨rfl, HB1.out⟩
    generalize hR : chsB pw pv 0 cs = R at *
    have HR : Hid _ := hR
    clear hR
    go_enter Tryd.func60, Tryd.ntmps60
    go_wp2_with fail
    refine (HAS.out _ HB0.out).mono ?_
    generalize ((w.alloc (.cells #[.int .i64 pw, .int .i64 pv, .slice sa sn sc, .slice ca cn cc] 27)).alloc (.cells #[.slice wa whn whc, .slice cha cs.length chc] 98)) = w0 at *
    rintro e w1 ⟨rfl, hs⟩
    have HB1 : Hid (Below w.heap.size w w1) := Below.step HB0.out HB0.out.size hs
    have hs1 := hs.size
    have HK0 : Hid (∀ w3, Below (w.heap.size + 1 + 1) w1 w3 → Box4 w3 w.heap.size 27 (.int .i64 pw) (.int .i64 pv) (.slice sa sn sc) (.slice ca cn cc)) := fun w3 hb3 => (HX0.out.below hs HX0.out.lt).below hb3 (by omega)
    have HK1 : Hid (∀ w3, Below (w.heap.size + 1 + 1) w1 w3 → Box2 w3 (w.heap.size + 1) 98 (.slice wa whn whc) (.slice cha cs.length chc)) := fun w3 hb3 => (HX1.out.below hs HX1.out.lt).below hb3 (by omega)
    obtain ⟨a0, a1, a2, a3⟩ := (HK0.out w1 (Below.refl _ _)).cells
    have ah := (HK0.out w1 (Below.refl _ _)).heap
    have al := (HK0.out w1 (Below.refl _ _)).lt
    obtain ⟨b0, b1⟩ := (HK1.out w1 (Below.refl _ _)).cells
    have bh := (HK1.out w1 (Below.refl _ _)).heap
    have bl := (HK1.out w1 (Below.refl _ _)).lt
    have HB11 : Hid (Below (w.heap.size + 1 + 1) w1 w1) := Below.refl _ _
    have hsw : w.heap.size + 1 + 1 ≤ w1.heap.size := by omega
    clear hs x0 x1b HX0 HX1 HAS HB0
    go_wp2_with fail
    go_loopw [23] (fun i wr => ∃ j : Nat, j ≤ cs.length ∧ i = .int .i64 j ∧ Hid (chsB pw pv 0 (cs.take j) = true) ∧ Hid (Below w.heap.size w wr) ∧ Hid (Below (w.heap.size + 1 + 1) w1 wr)) (fun i _ => cs.length - (intOf i).toNat)
    case atStart => exact ⟨0, by omega, rfl, rfl, HB1, HB11⟩
    case round =>
      obtain ⟨j, hj, rfl, HA, HB, HBX⟩ := hrel
      clear a0 a1 a2 a3 ah al b0 b1 bh bl HB11 HB1
      by_cases hlt : j < cs.length
      · obtain ⟨d, hd⟩ : ∃ d, cs[j]? = some d := ⟨cs[j], List.getElem?_eq_getElem hlt⟩
        obtain ⟨b, off, rfl, y, cx, cy, hfd, hny⟩ := HCS.out wr HB.out j d hd
        have hsr := HBX.out.size
        have hT := chsB_take pw pv cs 0 j d hd HA.out
        have HNK : Hid (NodesAt wr y d.2) := hny
        obtain ⟨ya, yc, rfl⟩ := hny.shape
        have HPREV : Hid (∀ j' : Nat, j = j' + 1 → ∃ e : Ch, nextL 0 (cs.take j) = e.1 + 1 ∧ 0 ≤ e.1 ∧ e.1 < 4 ∧ wr.cell? ⟨b, off + j' * 2, none⟩ = some (.int .i64 e.1)) := fun j' hj' => by
          subst hj'
          obtain ⟨e, he⟩ : ∃ e, cs[j']? = some e := ⟨cs[j'], List.getElem?_eq_getElem (by omega)⟩
          obtain ⟨b', off', e1, y', cx', _, _, _⟩ := HCS.out wr HB.out j' e he
          simp only [Option.some.injEq, Addr.mk.injEq, and_true] at e1
          obtain ⟨rfl, rfl⟩ := e1
          have hm := chsB_mem pw pv _ 0 HA.out e (by
            apply List.mem_iff_getElem?.2
            exact ⟨j', by rw [List.getElem?_take_of_lt (by omega)]; exact he⟩)
          exact ⟨e, nextL_take cs 0 j' e he, hm.1, by omega, cx'⟩
        have HD : Hid (cs[j]? = some d) := hd
        obtain ⟨x1, dt⟩ := d
        simp only at *
        generalize dt.length = yn at *
        have HB2 : Hid (Below w.heap.size w (wr.alloc (.cells #[.int .i64 x1, .slice ya yn yc] 118))) := HB.out.alloc HB.out.size _
        have HBX2 : Hid (Below (w.heap.size + 1 + 1) w1 (wr.alloc (.cells #[.int .i64 x1, .slice ya yn yc] 118))) := HBX.out.alloc (by omega) _
        have z2 := box2_alloc wr 118 (.int .i64 x1) (.slice ya yn yc)
        have hal := (Below.refl wr.heap.size wr).alloc (Nat.le_refl _) (.cells #[.int .i64 x1, .slice ya yn yc] 118)
        have GK : Hid (∀ w3 : World, Below (wr.alloc (.cells #[.int .i64 x1, .slice ya yn yc] 118)).heap.size (wr.alloc (.cells #[.int .i64 x1, .slice ya yn yc] 118)) w3 → Calls Tryd.prog 107 #[.int .i64 pw, .int .i64 pv, .slice ya yn yc] w3 fun e w' => e = .returned (.int .i64 (kindL pw pv dt)) ∧ Below w3.heap.size w3 w') := fun w3 hb3 => l2Kind_any pw pv _ dt w3 ((HNK.out.below hal).below hb3)
        have hcellp : ∀ (q : Nat) (u : Value), wr.cell? ⟨b, q, none⟩ = some u → (wr.alloc (.cells #[.int .i64 x1, .slice ya yn yc] 118)).cell? ⟨b, q, none⟩ = some u := fun q u hq => by
          have hlt9 : b < wr.heap.size := cell_lt9 hq
          rw [hal.cell (p := ⟨b, q, none⟩) hlt9]
          exact hq
        have HCP : Hid _ := hcellp
        go_wp2_with fail
        generalize wr.alloc (.cells #[.int .i64 x1, .slice ya yn yc] 118) = w2 at *
        obtain ⟨c0, c1⟩ := z2.cells
        have ch := z2.heap
        have cl := z2.lt
        obtain ⟨a0, a1, a2, a3⟩ := (HK0.out w2 HBX2.out).cells
        have ah := (HK0.out w2 HBX2.out).heap
        have al := (HK0.out w2 HBX2.out).lt
        obtain ⟨b0, b1⟩ := (HK1.out w2 HBX2.out).cells
        have bh := (HK1.out w2 HBX2.out).heap
        have bl := (HK1.out w2 HBX2.out).lt
        have e0 := cell_regrown c0
        have e1 := cell_regrown c1
        have f0 := cell_regrown a0
        have f1 := cell_regrown a1
        have g0 := cell_regrown b0
        have g1 := cell_regrown b1
        obtain ⟨K, hK⟩ : ∃ K, kindL pw pv dt = K := ⟨_, rfl⟩
        rw [hK] at GK hT
        obtain ⟨hf0, hf1⟩ := hfd
        clear HNK hny hal z2 hcellp HCS HK0 HK1 HBX hK cx cy
        by_cases hin : 0 ≤ x1 ∧ x1 ≤ Q
        case neg =>
          have HN : Hid (R = false) := HR.out.symm.trans (chsB_not pw pv cs 0 (j + 1) (by
            rw [hT, decide_eq_false (fun q => hin ?_), Bool.false_and]
            cases j with
            | zero => exact ⟨q.1, by omega⟩
            | succ j' =>
              obtain ⟨e, h1, h2, _⟩ := HPREV.out j' rfl
              rw [h1] at q
              omega))
          clear HPREV hT HCP
          have cA : ∀ d os', Calls Tryd.prog 59 #[.int .i64 x1, .int .i64 0, .int .i64 Q] (Sort.grow (redrawn w2 d) os') fun e w'' => e = .returned (.bool false) ∧ ∃ p : Regrown, w'' = Sort.grow (redrawn w2 p.d) p.os := fun d os' => Calls.regrown_of ((l1In_any x1 0 Q _).mono fun e w' ⟨he, hw⟩ => ⟨by rw [he, decide_eq_false hin], by rw [hw]; exact Below.refl _ _⟩)
          have cC : ∀ d os', Calls Tryd.prog 107 #[.int .i64 pw, .int .i64 pv, .slice ya yn yc] (Sort.grow (redrawn w2 d) os') fun e w'' => e = .returned (.int .i64 K) ∧ ∃ p : Regrown, w'' = Sort.grow (redrawn w2 p.d) p.os := fun d os' => Calls.regrown_of (GK.out _ (below_regrown w2 d os'))
          clear GK
          go_wp2_with fail
          refine wp_region_quiet_below (by kernel_rfl) (by kernel_rfl) ?_
          iterate 12 (go_big_quiet_step (exact cA _ _))
          repeat (go_big_quiet_step (exact cC _ _))
          refine wpQuiet_nil ?_
          intro _ hw'
          obtain ⟨⟨dq, osq⟩, hw''⟩ := hw'
          subst hw''
          have HBQ : Hid (Below w.heap.size w (Sort.grow (redrawn w2 dq) osq)) := HB2.out.trans ((below_regrown w2 dq osq).mono HB2.out.size)
          clear HB2
          go_wp2_with fail
          go_ret
          exact ⟨ret_bool HN.out.symm, HBQ.out⟩
        cases j with
        | zero =>
          have hnx : nextL 0 (cs.take 0) = 0 := rfl
          rw [hnx, decide_eq_true (by omega), Bool.true_and] at hT
          clear HPREV HCP hnx
          by_cases hk1 : K = 1
          · subst hk1
            have HN : Hid (chsB pw pv 0 (cs.take (0 + 1)) = true) := hT
            clear hT
            have cA : ∀ d os', Calls Tryd.prog 59 #[.int .i64 x1, .int .i64 0, .int .i64 Q] (Sort.grow (redrawn w2 d) os') fun e w'' => e = .returned (.bool true) ∧ ∃ p : Regrown, w'' = Sort.grow (redrawn w2 p.d) p.os := fun d os' => Calls.regrown_of ((l1In_any x1 0 Q _).mono fun e w' ⟨he, hw⟩ => ⟨by rw [he, decide_eq_true hin], by rw [hw]; exact Below.refl _ _⟩)
            have cC : ∀ d os', Calls Tryd.prog 107 #[.int .i64 pw, .int .i64 pv, .slice ya yn yc] (Sort.grow (redrawn w2 d) os') fun e w'' => e = .returned (.int .i64 1) ∧ ∃ p : Regrown, w'' = Sort.grow (redrawn w2 p.d) p.os := fun d os' => Calls.regrown_of (GK.out _ (below_regrown w2 d os'))
            clear GK
            go_wp2_with fail
            refine wp_region_quiet_below (by kernel_rfl) (by kernel_rfl) ?_
            iterate 12 (go_big_quiet_step (exact cA _ _))
            repeat (go_big_quiet_step (exact cC _ _))
            refine wpQuiet_nil ?_
            intro _ hw'
            obtain ⟨⟨dq, osq⟩, hw''⟩ := hw'
            subst hw''
            have HBQ : Hid (Below w.heap.size w (Sort.grow (redrawn w2 dq) osq)) := HB2.out.trans ((below_regrown w2 dq osq).mono HB2.out.size)
            clear HB2
            go_wp2_with fail
            go_roundw
            case rel => exact ⟨0 + 1, by omega, by first | go_num | (congr 1; omega) | rfl, HN, HBQ, by first | exact HBX2.out.trans ((below_regrown w2 dq osq).mono (by have := HBX2.out.size; omega))⟩
            case measure => simp [intOf]; omega
          · have hkb : (K == 1) = false := beq_eq_false_iff_ne.2 hk1
            have hkn : (K != 1) = true := bne_iff_ne.2 hk1
            rw [hkb] at hT
            have HN : Hid (R = false) := HR.out.symm.trans (chsB_not pw pv cs 0 (0 + 1) hT)
            clear hT hkb
            have cA : ∀ d os', Calls Tryd.prog 59 #[.int .i64 x1, .int .i64 0, .int .i64 Q] (Sort.grow (redrawn w2 d) os') fun e w'' => e = .returned (.bool true) ∧ ∃ p : Regrown, w'' = Sort.grow (redrawn w2 p.d) p.os := fun d os' => Calls.regrown_of ((l1In_any x1 0 Q _).mono fun e w' ⟨he, hw⟩ => ⟨by rw [he, decide_eq_true hin], by rw [hw]; exact Below.refl _ _⟩)
            have cC : ∀ d os', Calls Tryd.prog 107 #[.int .i64 pw, .int .i64 pv, .slice ya yn yc] (Sort.grow (redrawn w2 d) os') fun e w'' => e = .returned (.int .i64 K) ∧ ∃ p : Regrown, w'' = Sort.grow (redrawn w2 p.d) p.os := fun d os' => Calls.regrown_of (GK.out _ (below_regrown w2 d os'))
            clear GK
            go_wp2_with fail
            refine wp_region_quiet_below (by kernel_rfl) (by kernel_rfl) ?_
            iterate 12 (go_big_quiet_step (exact cA _ _))
            repeat (go_big_quiet_step (exact cC _ _))
            refine wpQuiet_nil ?_
            intro _ hw'
            obtain ⟨⟨dq, osq⟩, hw''⟩ := hw'
            subst hw''
            have HBQ : Hid (Below w.heap.size w (Sort.grow (redrawn w2 dq) osq)) := HB2.out.trans ((below_regrown w2 dq osq).mono HB2.out.size)
            clear HB2
            go_wp2_with fail
            go_ret
            exact ⟨ret_bool HN.out.symm, HBQ.out⟩
        | succ j' =>
          obtain ⟨e, h1, h2, h4, h3⟩ := HPREV.out j' rfl
          have hcp := HCP.out _ _ h3
          have p0 := cell_regrown hcp
          obtain ⟨ev, et⟩ := e
          simp only at h1 h2 h4 hcp p0 h3
          have hjm : ((j' + 1 : Nat) : Int) - 1 = (j' : Int) := by omega
          have hjw : IntKind.i64.wrap (((j' + 1 : Nat) : Int) - 1) = (j' : Int) := by rw [hjm]; exact IntWalk.i64_in _ ⟨by omega, by omega⟩
          have hjp : (((j' + 1 : Nat) : Int) > 0) = True := by first | (simp; omega) | simp
          clear HPREV HCP h3
          by_cases hord : ev < x1
          · rw [h1, decide_eq_true (by omega), Bool.true_and] at hT
            have hge : decide (ev ≥ x1) = false := decide_eq_false (by omega)
            by_cases hk1 : K = 1
            · subst hk1
              have HN : Hid (chsB pw pv 0 (cs.take (j' + 1 + 1)) = true) := hT
              clear hT
              have cA : ∀ d os', Calls Tryd.prog 59 #[.int .i64 x1, .int .i64 0, .int .i64 Q] (Sort.grow (redrawn w2 d) os') fun e w'' => e = .returned (.bool true) ∧ ∃ p : Regrown, w'' = Sort.grow (redrawn w2 p.d) p.os := fun d os' => Calls.regrown_of ((l1In_any x1 0 Q _).mono fun e w' ⟨he, hw⟩ => ⟨by rw [he, decide_eq_true hin], by rw [hw]; exact Below.refl _ _⟩)
              have cC : ∀ d os', Calls Tryd.prog 107 #[.int .i64 pw, .int .i64 pv, .slice ya yn yc] (Sort.grow (redrawn w2 d) os') fun e w'' => e = .returned (.int .i64 1) ∧ ∃ p : Regrown, w'' = Sort.grow (redrawn w2 p.d) p.os := fun d os' => Calls.regrown_of (GK.out _ (below_regrown w2 d os'))
              clear GK
              go_wp2_with fail
              refine wp_region_quiet_below (by kernel_rfl) (by kernel_rfl) ?_
              iterate 12 (go_big_quiet_step (exact cA _ _))
              repeat (go_big_quiet_step (exact cC _ _))
              refine wpQuiet_nil ?_
              intro _ hw'
              obtain ⟨⟨dq, osq⟩, hw''⟩ := hw'
              subst hw''
              have HBQ : Hid (Below w.heap.size w (Sort.grow (redrawn w2 dq) osq)) := HB2.out.trans ((below_regrown w2 dq osq).mono HB2.out.size)
              clear HB2
              go_wp2_with fail
              go_roundw
              case rel => exact ⟨(j' + 1) + 1, by omega, by first | go_num | (congr 1; omega) | rfl, HN, HBQ, by first | exact HBX2.out.trans ((below_regrown w2 dq osq).mono (by have := HBX2.out.size; omega))⟩
              case measure => simp [intOf]; omega
            · have hkb : (K == 1) = false := beq_eq_false_iff_ne.2 hk1
              have hkn : (K != 1) = true := bne_iff_ne.2 hk1
              rw [hkb] at hT
              have HN : Hid (R = false) := HR.out.symm.trans (chsB_not pw pv cs 0 (j' + 1 + 1) hT)
              clear hT hkb
              have cA : ∀ d os', Calls Tryd.prog 59 #[.int .i64 x1, .int .i64 0, .int .i64 Q] (Sort.grow (redrawn w2 d) os') fun e w'' => e = .returned (.bool true) ∧ ∃ p : Regrown, w'' = Sort.grow (redrawn w2 p.d) p.os := fun d os' => Calls.regrown_of ((l1In_any x1 0 Q _).mono fun e w' ⟨he, hw⟩ => ⟨by rw [he, decide_eq_true hin], by rw [hw]; exact Below.refl _ _⟩)
              have cC : ∀ d os', Calls Tryd.prog 107 #[.int .i64 pw, .int .i64 pv, .slice ya yn yc] (Sort.grow (redrawn w2 d) os') fun e w'' => e = .returned (.int .i64 K) ∧ ∃ p : Regrown, w'' = Sort.grow (redrawn w2 p.d) p.os := fun d os' => Calls.regrown_of (GK.out _ (below_regrown w2 d os'))
              clear GK
              go_wp2_with fail
              refine wp_region_quiet_below (by kernel_rfl) (by kernel_rfl) ?_
              iterate 12 (go_big_quiet_step (exact cA _ _))
              repeat (go_big_quiet_step (exact cC _ _))
              refine wpQuiet_nil ?_
              intro _ hw'
              obtain ⟨⟨dq, osq⟩, hw''⟩ := hw'
              subst hw''
              have HBQ : Hid (Below w.heap.size w (Sort.grow (redrawn w2 dq) osq)) := HB2.out.trans ((below_regrown w2 dq osq).mono HB2.out.size)
              clear HB2
              go_wp2_with fail
              go_ret
              exact ⟨ret_bool HN.out.symm, HBQ.out⟩
          · rw [h1, decide_eq_false (by omega), Bool.false_and] at hT
            have hge : decide (ev ≥ x1) = true := decide_eq_true (by omega)
            have HN : Hid (R = false) := HR.out.symm.trans (chsB_not pw pv cs 0 (j' + 1 + 1) hT)
            clear hT
            have cA : ∀ d os', Calls Tryd.prog 59 #[.int .i64 x1, .int .i64 0, .int .i64 Q] (Sort.grow (redrawn w2 d) os') fun e w'' => e = .returned (.bool true) ∧ ∃ p : Regrown, w'' = Sort.grow (redrawn w2 p.d) p.os := fun d os' => Calls.regrown_of ((l1In_any x1 0 Q _).mono fun e w' ⟨he, hw⟩ => ⟨by rw [he, decide_eq_true hin], by rw [hw]; exact Below.refl _ _⟩)
            have cC : ∀ d os', Calls Tryd.prog 107 #[.int .i64 pw, .int .i64 pv, .slice ya yn yc] (Sort.grow (redrawn w2 d) os') fun e w'' => e = .returned (.int .i64 K) ∧ ∃ p : Regrown, w'' = Sort.grow (redrawn w2 p.d) p.os := fun d os' => Calls.regrown_of (GK.out _ (below_regrown w2 d os'))
            clear GK
            go_wp2_with fail
            refine wp_region_quiet_below (by kernel_rfl) (by kernel_rfl) ?_
            iterate 12 (go_big_quiet_step (exact cA _ _))
            repeat (go_big_quiet_step (exact cC _ _))
            refine wpQuiet_nil ?_
            intro _ hw'
            obtain ⟨⟨dq, osq⟩, hw''⟩ := hw'
            subst hw''
            have HBQ : Hid (Below w.heap.size w (Sort.grow (redrawn w2 dq) osq)) := HB2.out.trans ((below_regrown w2 dq osq).mono HB2.out.size)
            clear HB2
            go_wp2_with fail
            go_ret
            exact ⟨ret_bool HN.out.symm, HBQ.out⟩
      · obtain rfl : j = cs.length := by omega
        have HN : Hid (R = true) := by
          have h1 := HA.out
          rw [List.take_length] at h1
          exact HR.out.symm.trans h1
        clear HA HCS HK0 HK1
        go_wp2_with fail
        go_ret
        exact ⟨ret_bool HN.out.symm, HB.out⟩
end Go.Proofs.YtmhpnkfibecnmaaDoor

namespace Go.Proofs.YtmhpnkfibecnmaaDoor
open Go Go.RowKit
open M
set_option linter.unusedVariables false

def smallP (p : Pg) : Bool := goodP p && decide (p.1 * p.2.1 ≤ 5)
set_option maxRecDepth 100000 in
set_option maxHeartbeats 2000000 in
theorem sGoodProg_any (v : Value) (p : Pg) (w : World) (h : AtProg w v p) :
    Calls Tryd.prog 14 #[v] w fun e w' => e = .returned (.bool (goodP p)) ∧ Below w.heap.size w w' := by
  have HP : Hid (∀ w1 : World, Below w.heap.size w w1 → AtProg w1 v p) := fun w1 hb => h.below hb
  obtain ⟨⟨hfw0, hfw1⟩, ⟨hfv0, hfv1⟩, s, c, rfl, hst, hcm⟩ := h
  have HAS : Hid (∀ w1 : World, Below w.heap.size w w1 → Calls Tryd.prog 58 #[.agg #[.int .i64 p.1, .int .i64 p.2.1, s, c], s] w1 fun e w' => e = .returned (.bool (kindL p.1 p.2.1 p.2.2.1 == 2)) ∧ Below w1.heap.size w1 w') := fun w1 hb => asks_any _ s p p.2.2.1 w1 (HP.out w1 hb) (hst.below hb)
  obtain ⟨sa, sc, rfl⟩ := hst.shape
  obtain ⟨ca, cc, rfl, hcc⟩ := hcm.opened
  have hcl := hcm.1
  have HCS : Hid (∀ w1 : World, Below w.heap.size w w1 → ∀ (i : Nat) (d : Cm), p.2.2.2[i]? = some d → ∃ b off : Nat, ca = some ⟨b, off, none⟩ ∧ ∃ x y : Value, w1.cell? ⟨b, off + i * 2, none⟩ = some x ∧ w1.cell? ⟨b, off + i * 2 + 1, none⟩ = some y ∧ CmV w1 d x y) := fun w1 hb i d hi => by
    obtain ⟨b, off, e, hlt, x, y, h3, h4, h5⟩ := hcc i d hi
    exact ⟨b, off, e, x, y, by rw [hb.cell (p := ⟨b, off + i * 2, none⟩) hlt]; exact h3, by rw [hb.cell (p := ⟨b, off + i * 2 + 1, none⟩) hlt]; exact h4, cmV_frame _ _ _ _ _ h5 hb⟩
  have hR0 : goodP p = ((kindL p.1 p.2.1 p.2.2.1 == 2) && (decide (1 ≤ p.2.2.2.length ∧ p.2.2.2.length ≤ 6) && p.2.2.2.all (cmB p.1 p.2.1))) := rfl
  have HR : Hid _ := hR0
  have hkin := fun h => @kind_in p.1 p.2.1 p.2.2.1 h
  have GCM : Hid (1 ≤ p.2.1 → p.2.1 ≤ 4 → ∀ (w1 : World) (x y : Value) (d : Cm), Below w.heap.size w w1 → CmV w1 d x y → Calls Tryd.prog 60 #[.agg #[.int .i64 p.1, .int .i64 p.2.1, .slice sa p.2.2.1.length sc, .slice ca p.2.2.2.length cc], .agg #[x, y]] w1 fun e w' => e = .returned (.bool (cmB p.1 p.2.1 d)) ∧ Below w1.heap.size w1 w') := fun h1 h2 w1 x y d hb hd => sCommand_any _ x y p d h1 h2 w1 (HP.out w1 hb) hd
  have HB0 : Hid (Below w.heap.size w (w.alloc (.cells #[.int .i64 p.1, .int .i64 p.2.1, .slice sa p.2.2.1.length sc, .slice ca p.2.2.2.length cc] 27))) := (Below.refl _ _).alloc (Nat.le_refl _) _
  have x0 := box4_alloc w 27 (.int .i64 p.1) (.int .i64 p.2.1) (.slice sa p.2.2.1.length sc) (.slice ca p.2.2.2.length cc)
  have HX0 : Hid _ := x0
  clear x0 hcm hcc hst hR0 HP
  generalize goodP p = GP at *
  cases hk : (kindL p.1 p.2.1 p.2.2.1 == 2) with
  | false =>
    rw [hk] at HAS
    have HN : Hid (GP = false) := by
      show GP = false
      rw [HR.out, hk, Bool.false_and]
    clear hk HR HCS hkin GCM HX0
    generalize p.2.2.1.length = sn at *
    generalize p.2.2.2.length = cn at *
    generalize p.1 = pw at *
    generalize p.2.1 = pv at *
    go_enter Tryd.func14, Tryd.ntmps14
    go_wp2_with fail
    refine (HAS.out _ HB0.out).mono ?_
    rintro e w1 ⟨rfl, hs⟩
    have HB1 : Hid (Below w.heap.size w w1) := Below.step HB0.out HB0.out.size hs
    clear hs
    go_wp2_with fail
    go_ret
    exact ⟨ret_bool HN.out.symm, HB1.out⟩
  | true =>
    rw [hk] at HAS
    obtain ⟨_, _, hv1, hv4⟩ := hkin (by have := beq_iff_eq.1 hk; omega)
    have GC : Hid _ := GCM.out hv1 hv4
    have HR2 : Hid (GP = (decide (1 ≤ p.2.2.2.length ∧ p.2.2.2.length ≤ 6) && p.2.2.2.all (cmB p.1 p.2.1))) := by
      show GP = _
      rw [HR.out, hk, Bool.true_and]
    clear hk HR hkin GCM
    generalize hcs : p.2.2.2 = cs at *
    generalize p.2.2.1.length = sn at *
    generalize p.1 = pw at *
    generalize p.2.1 = pv at *
    clear hcs
    by_cases hcn : 1 ≤ (cs.length : Int) ∧ (cs.length : Int) ≤ 6
    case neg =>
      have HN : Hid (GP = false) := by
        show GP = false
        rw [HR2.out, decide_eq_false (by omega), Bool.false_and]
      clear HR2 HCS GC
      generalize cs.length = cn at *
      go_enter Tryd.func14, Tryd.ntmps14
      go_wp2_with fail
      refine (HAS.out _ HB0.out).mono ?_
      generalize w.alloc (.cells #[.int .i64 pw, .int .i64 pv, .slice sa sn sc, .slice ca cn cc] 27) = w0 at *
      rintro e w1 ⟨rfl, hs⟩
      have HB1 : Hid (Below w.heap.size w w1) := Below.step HB0.out HB0.out.size hs
      have x1 := HX0.out.below hs HX0.out.lt
      obtain ⟨a0, a1, a2, a3⟩ := x1.cells
      have ah := x1.heap
      have al := x1.lt
      have g := l1In_any (cn : Int) 1 6 w1
      rw [decide_eq_false hcn] at g
      clear hs x1 HX0
      go_wp2_with fail
      refine g.mono ?_
      rintro e w2 ⟨rfl, rfl⟩
      clear g
      go_wp2_with fail
      go_ret
      exact ⟨ret_bool HN.out.symm, HB1.out⟩
    have HR3 : Hid (GP = cs.all (cmB pw pv)) := by
      show GP = _
      rw [HR2.out, decide_eq_true (by omega), Bool.true_and]
    clear HR2
    go_enter Tryd.func14, Tryd.ntmps14
    go_wp2_with fail
    refine (HAS.out _ HB0.out).mono ?_
    generalize w.alloc (.cells #[.int .i64 pw, .int .i64 pv, .slice sa sn sc, .slice ca cs.length cc] 27) = w0 at *
    rintro e w1 ⟨rfl, hs⟩
    have HB1 : Hid (Below w.heap.size w w1) := Below.step HB0.out HB0.out.size hs
    have x1 := HX0.out.below hs HX0.out.lt
    have hs1 := x1.lt
    have HXP : Hid (∀ w3, Below (w.heap.size + 1) w1 w3 → Box4 w3 w.heap.size 27 (.int .i64 pw) (.int .i64 pv) (.slice sa sn sc) (.slice ca cs.length cc)) := fun w3 hb3 => x1.below hb3 (by omega)
    obtain ⟨a0, a1, a2, a3⟩ := x1.cells
    have ah := x1.heap
    have al := x1.lt
    have g := l1In_any (cs.length : Int) 1 6 w1
    rw [decide_eq_true hcn] at g
    have HBX1 : Hid (Below (w.heap.size + 1) w1 w1) := Below.refl _ _
    obtain ⟨hcn1, hcn6⟩ := hcn
    clear hs x1 HX0 HAS HB0
    go_wp2_with fail
    refine g.mono ?_
    rintro e w2 ⟨rfl, hw2⟩
    subst hw2
    clear g
    go_wp2_with fail
    go_loopw [20] (fun i wr => ∃ j : Nat, j ≤ cs.length ∧ i = .int .i64 j ∧ Hid ((cs.take j).all (cmB pw pv) = true) ∧ Hid (Below w.heap.size w wr) ∧ Hid (Below (w.heap.size + 1) w2 wr)) (fun i _ => cs.length - (intOf i).toNat)
    case atStart => exact ⟨0, by omega, rfl, rfl, HB1, HBX1⟩
    case round =>
      obtain ⟨j, hj, rfl, HA, HB, HBX⟩ := hrel
      clear HB1 HBX1 a0 a1 a2 a3 ah al
      by_cases hlt : j < cs.length
      · obtain ⟨d, hd⟩ : ∃ d, cs[j]? = some d := ⟨cs[j], List.getElem?_eq_getElem hlt⟩
        obtain ⟨b, off, rfl, x, y, cx, cy, hV⟩ := HCS.out wr HB.out j d hd
        have HD : Hid (cs[j]? = some d) := hd
        have hal := (Below.refl wr.heap.size wr).alloc (Nat.le_refl _) (.cells #[x, y] 98)
        have HB3 : Hid (Below w.heap.size w (wr.alloc (.cells #[x, y] 98))) := HB.out.alloc HB.out.size _
        have HBX3 : Hid (Below (w.heap.size + 1) w2 (wr.alloc (.cells #[x, y] 98))) := HBX.out.alloc (by have := HBX.out.size; omega) _
        have g := GC.out _ x y d HB3.out (cmV_frame _ _ _ _ _ hV hal)
        obtain ⟨a0, a1, a2, a3⟩ := (HXP.out _ HBX3.out).cells
        have ah := (HXP.out _ HBX3.out).heap
        have al := (HXP.out _ HBX3.out).lt
        obtain ⟨hV1, hV2⟩ := hV
        obtain ⟨xa, xc, rfl⟩ := hV1.shape
        obtain ⟨ya, yc, rfl⟩ := hV2.shape
        generalize hxn : d.1.length = xn at *
        generalize hyn : d.2.length = yn at *
        clear hV1 hV2 hal hd HCS GC HXP HB HBX hxn hyn
        cases hp : cmB pw pv d with
        | true =>
          rw [hp] at g
          have HN : Hid ((cs.take (j + 1)).all (cmB pw pv) = true) := allTake HD.out HA.out hp
          clear hp HD HA
          go_wp2_with fail
          refine g.mono ?_
          rintro e w4 ⟨rfl, hs⟩
          have HB4 : Hid (Below w.heap.size w w4) := HB3.out.trans (hs.mono HB3.out.size)
          have HBX4 : Hid (Below (w.heap.size + 1) w2 w4) := HBX3.out.trans (hs.mono (by have := HBX3.out.size; omega))
          clear g hs a0 a1 a2 a3 ah al
          go_wp2_with fail
          go_roundw
          case rel => exact ⟨j + 1, by omega, by go_num, HN, HB4, HBX4⟩
          case measure => simp [intOf]; omega
        | false =>
          rw [hp] at g
          have HN : Hid (GP = false) := HR3.out.trans (allNot HD.out hp)
          clear hp HD HA
          go_wp2_with fail
          refine g.mono ?_
          rintro e w4 ⟨rfl, hs⟩
          have HB4 : Hid (Below w.heap.size w w4) := HB3.out.trans (hs.mono HB3.out.size)
          clear g hs
          go_wp2_with fail
          go_ret
          exact ⟨ret_bool HN.out.symm, HB4.out⟩
      · obtain rfl : j = cs.length := by omega
        have HN : Hid (GP = true) := by
          have h1 := HA.out
          rw [List.take_length] at h1
          exact HR3.out.trans h1
        clear HA HCS GC HXP
        go_wp2_with fail
        go_ret
        exact ⟨ret_bool HN.out.symm, HB.out⟩
set_option maxRecDepth 100000 in
theorem sSmall_any (v : Value) (p : Pg) (w : World) (h : AtProg w v p) :
    Calls Tryd.prog 77 #[v] w fun e w' => e = .returned (.bool (smallP p)) ∧ Below w.heap.size w w' := by
  have HG : Hid (∀ w1 : World, Below w.heap.size w w1 → Calls Tryd.prog 14 #[v] w1 fun e w' => e = .returned (.bool (goodP p)) ∧ Below w1.heap.size w1 w') := fun w1 hb => sGoodProg_any v p w1 (h.below hb)
  have hparts := @goodP_parts p
  obtain ⟨sa, sn, sc, ca, cn, cc, rfl⟩ := h.shape
  have HB0 : Hid (Below w.heap.size w (w.alloc (.cells #[.int .i64 p.1, .int .i64 p.2.1, .slice sa sn sc, .slice ca cn cc] 27))) := (Below.refl _ _).alloc (Nat.le_refl _) _
  have x0 := box4_alloc w 27 (.int .i64 p.1) (.int .i64 p.2.1) (.slice sa sn sc) (.slice ca cn cc)
  have HX0 : Hid _ := x0
  unfold smallP
  clear x0 h
  cases hg : goodP p with
  | false =>
    rw [hg] at HG
    rw [Bool.false_and]
    clear hparts hg HX0
    generalize p.1 = pw at *
    generalize p.2.1 = pv at *
    go_enter Tryd.func77, Tryd.ntmps77
    go_wp2_with fail
    refine (HG.out _ HB0.out).mono ?_
    rintro e w1 ⟨rfl, hs⟩
    have HB1 : Hid (Below w.heap.size w w1) := Below.step HB0.out HB0.out.size hs
    clear hs
    go_wp2_with fail
    go_ret
    exact ⟨rfl, HB1.out⟩
  | true =>
    rw [hg] at HG
    rw [Bool.true_and]
    obtain ⟨_, q0, q1, q2, q3, _⟩ := hparts hg
    clear hparts hg
    generalize p.1 = pw at *
    generalize p.2.1 = pv at *
    have hm0 : 1 ≤ pw * pv := Int.le_trans (by omega : (1 : Int) ≤ 1 * 1) (Int.mul_le_mul q0 q2 (by omega) (by omega))
    have hm1 : pw * pv ≤ 256 := Int.le_trans (Int.mul_le_mul q1 q3 (by omega) (by omega)) (by omega)
    obtain ⟨M, hM⟩ : ∃ M : Int, pw * pv = M := ⟨_, rfl⟩
    rw [hM] at hm0 hm1 ⊢
    go_enter Tryd.func77, Tryd.ntmps77
    go_wp2_with fail
    refine (HG.out _ HB0.out).mono ?_
    generalize w.alloc (.cells #[.int .i64 pw, .int .i64 pv, .slice sa sn sc, .slice ca cn cc] 27) = w0 at *
    rintro e w1 ⟨rfl, hs⟩
    have HB1 : Hid (Below w.heap.size w w1) := Below.step HB0.out HB0.out.size hs
    have x1 := HX0.out.below hs HX0.out.lt
    obtain ⟨a0, a1, a2, a3⟩ := x1.cells
    have ah := x1.heap
    have al := x1.lt
    clear hs x1 HX0
    go_wp2_with fail
    go_ret
    exact ⟨rfl, HB1.out⟩
set_option maxRecDepth 100000 in
theorem sIsSmall_any (v : Value) (p : Pg) (w : World) (h : AtProg w v p) :
    Calls Tryd.prog 35 #[v] w fun e w' => e = .returned (.tuple #[.bool (smallP p), .bool (goodP p)]) ∧ Below w.heap.size w w' := by
  have HG : Hid (∀ w1 : World, Below w.heap.size w w1 → Calls Tryd.prog 14 #[v] w1 fun e w' => e = .returned (.bool (goodP p)) ∧ Below w1.heap.size w1 w') := fun w1 hb => sGoodProg_any v p w1 (h.below hb)
  have HS : Hid (∀ w1 : World, Below w.heap.size w w1 → Calls Tryd.prog 77 #[v] w1 fun e w' => e = .returned (.bool (smallP p)) ∧ Below w1.heap.size w1 w') := fun w1 hb => sSmall_any v p w1 (h.below hb)
  obtain ⟨sa, sn, sc, ca, cn, cc, rfl⟩ := h.shape
  have HB0 : Hid (Below w.heap.size w (w.alloc (.cells #[.int .i64 p.1, .int .i64 p.2.1, .slice sa sn sc, .slice ca cn cc] 27))) := (Below.refl _ _).alloc (Nat.le_refl _) _
  have x0 := box4_alloc w 27 (.int .i64 p.1) (.int .i64 p.2.1) (.slice sa sn sc) (.slice ca cn cc)
  have HX0 : Hid _ := x0
  have hsm : goodP p = false → smallP p = false := fun hg => by unfold smallP; rw [hg, Bool.false_and]
  clear x0 h
  cases hg : goodP p with
  | false =>
    rw [hg] at HG
    rw [hsm hg]
    clear hg HX0 hsm HS
    generalize p.1 = pw at *
    generalize p.2.1 = pv at *
    go_enter Tryd.func35, Tryd.ntmps35
    go_wp2_with fail
    refine (HG.out _ HB0.out).mono ?_
    rintro e w1 ⟨rfl, hs⟩
    have HB1 : Hid (Below w.heap.size w w1) := Below.step HB0.out HB0.out.size hs
    clear hs
    go_wp2_with fail
    go_ret2
    exact ⟨rfl, HB1.out⟩
  | true =>
    rw [hg] at HG
    clear hg hsm
    generalize smallP p = SM at *
    generalize p.1 = pw at *
    generalize p.2.1 = pv at *
    go_enter Tryd.func35, Tryd.ntmps35
    go_wp2_with fail
    refine (HG.out _ HB0.out).mono ?_
    generalize w.alloc (.cells #[.int .i64 pw, .int .i64 pv, .slice sa sn sc, .slice ca cn cc] 27) = w0 at *
    rintro e w1 ⟨rfl, hs⟩
    have HB1 : Hid (Below w.heap.size w w1) := Below.step HB0.out HB0.out.size hs
    have x1 := HX0.out.below hs HX0.out.lt
    obtain ⟨a0, a1, a2, a3⟩ := x1.cells
    have ah := x1.heap
    have al := x1.lt
    clear hs x1 HX0
    go_wp2_with fail
    refine (HS.out _ HB1.out).mono ?_
    rintro e w2 ⟨rfl, hs⟩
    have HB2 : Hid (Below w.heap.size w w2) := HB1.out.trans (hs.mono HB1.out.size)
    clear hs
    go_wp2_with fail
    go_ret2
    exact ⟨rfl, HB2.out⟩
end Go.Proofs.YtmhpnkfibecnmaaDoor

namespace Go.Proofs.YtmhpnkfibecnmaaDoor
open Go Go.RowKit
open M
set_option linter.unusedVariables false

set_option maxRecDepth 100000 in
set_option maxHeartbeats 2000000 in
theorem sState_any (v sv : Value) (p : Pg) (st : List Int) (hok : StOk st) (w : World) (h : AtProg w v p) (hs : StAt w sv st) :
    Calls Tryd.prog 55 #[v, sv] w fun e w' => e = .returned (.bool (stateP p st)) ∧ Below w.heap.size w w' := by
  obtain ⟨⟨hfw0, hfw1⟩, ⟨hfv0, hfv1⟩, _⟩ := id h
  obtain ⟨sa, sn, sc, ca, cn, cc, rfl⟩ := h.shape
  have HB0 : Hid (Below w.heap.size w (w.alloc (.cells #[.int .i64 p.1, .int .i64 p.2.1, .slice sa sn sc, .slice ca cn cc] 27))) := (Below.refl _ _).alloc (Nat.le_refl _) _
  have g := l2Words_any p.1 sv st hok _ (hs.below HB0.out)
  obtain ⟨ta, tc, rfl⟩ := hs.shape
  have hl := hok.1
  have hS : stateP p st = (decide ((st.length : Int) = p.2.1) && st.all (goodB p.1)) := rfl
  rw [hS]
  clear h hs hS hok
  generalize st.all (goodB p.1) = GB at *
  generalize st.length = n at *
  generalize p.1 = pw at *
  generalize p.2.1 = pv at *
  by_cases he : (n : Int) = pv
  · rw [decide_eq_true he, Bool.true_and]
    go_enter Tryd.func55, Tryd.ntmps55
    go_wp2_with fail
    refine g.mono ?_
    rintro e w1 ⟨rfl, rfl⟩
    clear g
    go_wp2_with fail
    go_ret
    exact ⟨rfl, HB0.out⟩
  · rw [decide_eq_false he, Bool.false_and]
    clear g
    go_enter Tryd.func55, Tryd.ntmps55
    go_wp2_with fail
    go_ret
    exact ⟨rfl, HB0.out⟩
set_option maxRecDepth 100000 in
set_option maxHeartbeats 2000000 in
theorem sHolds_any (v tv sv : Value) (p : Pg) (t : List Nd) (st : List Int) (hok : StOk st) (hsaid : saidV p.1 t st = true) (w : World) (h : AtProg w v p) (ht : NodesAt w tv t) (hs : StAt w sv st) :
    Calls Tryd.prog 67 #[v, tv, sv] w fun e w' => e = .returned (.bool (holdsL p.1 t st)) ∧ Below w.heap.size w w' := by
  obtain ⟨sa, sn, sc, ca, cn, cc, rfl⟩ := h.shape
  have HB0 : Hid (Below w.heap.size w (w.alloc (.cells #[.int .i64 p.1, .int .i64 p.2.1, .slice sa sn sc, .slice ca cn cc] 27))) := (Below.refl _ _).alloc (Nat.le_refl _) _
  have htl : 1 ≤ t.length ∧ t.length ≤ 48 := by
    obtain ⟨_, _, _, _, h1, h2, _⟩ := valueL_root hsaid
    exact ⟨h1, h2⟩
  have hwr : IntKind.i64.wrap ((t.length : Int) - 1) = (t.length : Int) - 1 := IntWalk.i64_in _ ⟨by omega, by omega⟩
  have g := l2Value_said p.1 tv sv t st hok hsaid _ (ht.below HB0.out) (hs.below HB0.out) _ rfl
  obtain ⟨ta, tc, rfl⟩ := ht.shape
  obtain ⟨ua, uc, rfl⟩ := hs.shape
  have hH : holdsL p.1 t st = (valueL p.1 t st == 1) := rfl
  rw [hH]
  clear h ht hs hH hok hsaid
  generalize valueL p.1 t st = V at *
  generalize t.length = n at *
  generalize st.length = m at *
  generalize p.1 = pw at *
  generalize p.2.1 = pv at *
  go_enter Tryd.func67, Tryd.ntmps67
  go_wp2_with fail
  refine g.mono ?_
  rintro e w1 ⟨rfl, hs⟩
  have HB1 : Hid (Below w.heap.size w w1) := Below.step HB0.out HB0.out.size hs
  clear g hs
  go_wp2_with fail
  go_ret
  exact ⟨rfl, HB1.out⟩
end Go.Proofs.YtmhpnkfibecnmaaDoor

namespace Go.Proofs.YtmhpnkfibecnmaaDoor
open Go Go.RowKit
open M
set_option linter.unusedVariables false

theorem below_drew7 (B : Nat) (w : World) (n : Nat) : Below B w (w.drewN n) := ⟨rfl, rfl, rfl, Nat.le_refl _, fun _ _ => rfl⟩
/-- the number of words of k bits -/
def noL (k : Nat) : List Int → Int
  | [] => 0
  | x :: r => x + 2 ^ k * noL k r
theorem two_pos (n : Nat) : (0 : Int) < 2 ^ n := Int.pow_pos (by omega)
theorem noL_snoc (k : Nat) (x : Int) : ∀ l : List Int, noL k (l ++ [x]) = noL k l + x * 2 ^ (k * l.length)
  | [] => by simp [noL]
  | y :: l => by
    rw [List.cons_append, noL, noL, noL_snoc k x l, List.length_cons, Nat.mul_succ, Int.pow_add, Int.mul_add, Int.mul_comm (2 ^ (k * l.length)) (2 ^ k), ← Int.mul_assoc, ← Int.mul_assoc, Int.mul_comm (2 ^ k) x]
    omega
theorem noL_in (k : Nat) : ∀ l : List Int, (∀ s ∈ l, 0 ≤ s ∧ s < 2 ^ k) → 0 ≤ noL k l ∧ noL k l < 2 ^ (k * l.length)
  | [], _ => by simp [noL]
  | y :: l, h => by
    obtain ⟨h0, h1⟩ := h y (by simp)
    obtain ⟨g0, g1⟩ := noL_in k l (fun s hs => h s (by simp [hs]))
    have hp := two_pos k
    have m0 : (0 : Int) ≤ 2 ^ k * noL k l := Int.mul_nonneg (by omega) g0
    have m1 : 2 ^ k * noL k l ≤ 2 ^ k * (2 ^ (k * l.length) - 1) := Int.mul_le_mul_of_nonneg_left (by omega) (by omega)
    rw [Int.mul_sub, Int.mul_one] at m1
    rw [noL, List.length_cons, Nat.mul_succ, Int.pow_add, Int.mul_comm (2 ^ (k * l.length)) (2 ^ k)]
    omega
theorem good_two (k : Nat) (a : Int) (h0 : 0 ≤ a) (h : goodB k a = true) : 0 ≤ a ∧ a < 2 ^ k := by
  obtain ⟨k', e, _, _, h3⟩ := goodB_true h
  obtain rfl : k = k' := by omega
  rw [pw_int]
  exact ⟨h0, h3⟩
def padL (st : List Int) : List Int := [padW st 0, padW st 1, padW st 2, padW st 3]
theorem padL_getD (st : List Int) (h : st.length ≤ 4) (i : Nat) (hi : i < st.length) : (padL st).getD i 0 = st.getD i 0 := by
  match i, (show i < 4 by omega) with
  | 0, _ => rfl
  | 1, _ => rfl
  | 2, _ => rfl
  | 3, _ => rfl
theorem padL_at (st : List Int) (i : Nat) (hi : i < 4) : (padL st)[i]? = some (padW st i) := by
  rcases (show i = 0 ∨ i = 1 ∨ i = 2 ∨ i = 3 by omega) with rfl | rfl | rfl | rfl <;> rfl
theorem noL_pad (k : Nat) : ∀ (st : List Int), st.length ≤ 4 → noL k (padL st) = noL k st
  | [], _ => by simp [padL, padW, noL]
  | [a], _ => by simp [padL, padW, noL]
  | [a, b], _ => by simp [padL, padW, noL]
  | [a, b, c], _ => by simp [padL, padW, noL]
  | [a, b, c, d], _ => by simp [padL, padW, noL]
  | _ :: _ :: _ :: _ :: _ :: _, h => by simp at h
end Go.Proofs.YtmhpnkfibecnmaaDoor

namespace Go.Proofs.YtmhpnkfibecnmaaDoor
open Go Go.RowKit
open M
set_option linter.unusedVariables false

def noP (p : Pg) (st : List Int) : Int := if (smallP p && stateP p st) = true then noL p.1.toNat st else 0
theorem drop_at {st : List Int} {j : Nat} {x : Int} (h : st[j]? = some x) : st.drop j = x :: st.drop (j + 1) := by
  obtain ⟨hl, hx⟩ := List.getElem?_eq_some_iff.1 h
  rw [List.drop_eq_getElem_cons hl, hx]
theorem cell_same {w w' : World} {a : Addr} (h : w'.heap = w.heap) : w'.cell? a = w.cell? a := by
  unfold World.cell?
  rw [h]
theorem wrap64_in (x : Int) (h0 : 0 ≤ x) (h1 : x ≤ 9223372036854775807) : wrap64 x = x := by
  unfold wrap64
  omega
set_option maxRecDepth 100000 in
set_option maxHeartbeats 2000000 in
theorem sNo_any (v sv : Value) (p : Pg) (k : Nat) (hk1 : 1 ≤ k) (hk5 : k ≤ 5) (hp1 : p.1 = k) (st : List Int) (hlen : (st.length : Int) = p.2.1) (h4 : st.length ≤ 4) (hst : ∀ s ∈ st, 0 ≤ s ∧ s < 2 ^ k) (w : World) (h : AtProg w v p) (hs : StAt w sv st) :
    Calls Tryd.prog 78 #[v, sv] w fun e w' => e = .returned (.int .i64 (noL k st)) ∧ Below w.heap.size w w' := by
  obtain ⟨sa, sn, sc, ca, cn, cc, rfl⟩ := h.shape
  have hb0 : Below w.heap.size w (w.alloc (.cells #[.int .i64 p.1, .int .i64 p.2.1, .slice sa sn sc, .slice ca cn cc] 27)) := (Below.refl _ _).alloc (Nat.le_refl _) _
  have HB0 : Hid _ := hb0
  have x0 := box4_alloc w 27 (.int .i64 p.1) (.int .i64 p.2.1) (.slice sa sn sc) (.slice ca cn cc)
  obtain ⟨ua, uc, rfl⟩ := hs.shape
  have HC : Hid (∀ (j : Nat) (s : Int), st[j]? = some s → ∃ b off : Nat, ua = some ⟨b, off, none⟩ ∧ (w.alloc (.cells #[.int .i64 p.1, .int .i64 p.2.1, .slice sa sn sc, .slice ca cn cc] 27)).cell? ⟨b, off + j, none⟩ = some (.int .u64 s)) := by
    intro j s hj
    rcases hs with ⟨rfl, _⟩ | ⟨b, off, cap, e, hlt, hc⟩
    · simp at hj
    · injection e with e1 _ _
      exact ⟨b, off, e1, by rw [hb0.cell (p := ⟨b, off + j, none⟩) hlt]; exact hc j s hj⟩
  have HI : Hid (∀ j : Nat, j ≤ st.length → 0 ≤ noL k (st.drop j) ∧ noL k (st.drop j) < 2 ^ 20) := by
    intro j hj
    obtain ⟨a, b⟩ := noL_in k (st.drop j) (fun s hs => hst s (List.mem_of_mem_drop hs))
    refine ⟨a, Int.lt_of_lt_of_le b ?_⟩
    have hl : k * (st.drop j).length ≤ 20 := Nat.le_trans (Nat.mul_le_mul hk5 (by rw [List.length_drop]; omega : (st.drop j).length ≤ 4)) (by omega)
    rw [pw_int, pw_int]
    exact pw_mono _ _ hl
  have HS : Hid (∀ (j : Nat) (x : Int), st[j]? = some x → noL k (st.drop j) = x + 2 ^ k * noL k (st.drop (j + 1))) := fun j x hx => by
    rw [drop_at hx]
    rfl
  have HX0 : Hid (Box4 (w.alloc (.cells #[.int .i64 p.1, .int .i64 p.2.1, .slice sa sn sc, .slice ca cn cc] 27)) w.heap.size 27 (.int .i64 p.1) (.int .i64 p.2.1) (.slice sa sn sc) (.slice ca cn cc)) := x0
  obtain ⟨a0, a1, a2, a3⟩ := x0.cells
  have ah := x0.heap
  have al := x0.lt
  clear hs h hb0 x0
  rw [hp1, ← hlen] at *
  have HSV : Hid (∀ (j : Nat) (x : Int), st[j]? = some x → 0 ≤ x ∧ x < 32) := fun j x hx => by
    obtain ⟨a, b⟩ := hst x (List.mem_of_getElem? hx)
    have : (2 : Int) ^ k ≤ 2 ^ 5 := by
      rw [pw_int, pw_int]
      exact pw_mono _ _ hk5
    omega
  have HZ : Hid (Value.int .i64 0 = Value.int .i64 (noL k (st.drop st.length))) := by
    show Value.int .i64 0 = Value.int .i64 (noL k (st.drop st.length))
    rw [List.drop_length]
    rfl
  generalize hn : st.length = n at *
  have HLN : Hid (st.length = n) := hn
  clear hst hn
  have hwv : IntKind.i64.wrap ((n : Int) - 1) = (n : Int) - 1 := IntWalk.i64_in _ ⟨by omega, by omega⟩
  go_enter Tryd.func78, Tryd.ntmps78
  go_wp2_with fail
  go_loopw [5, 6] (fun m i wr => ∃ j : Nat, j ≤ n ∧ i = .int .i64 ((j : Int) - 1) ∧ m = .int .i64 (noL k (st.drop j)) ∧ Hid (wr.heap = (w.alloc (.cells #[.int .i64 k, .int .i64 n, .slice sa sn sc, .slice ca cn cc] 27)).heap) ∧ Hid (Below w.heap.size w wr)) (fun _ i _ => (intOf i + 1).toNat)
  case atStart => exact ⟨n, Nat.le_refl _, rfl, HZ.out, rfl, HB0⟩
  case round =>
    obtain ⟨j, hj, rfl, rfl, HH, HB⟩ := hrel
    clear a0 a1 a2 a3 ah al
    obtain ⟨b0, b1⟩ := HI.out j hj
    by_cases hlt : 1 ≤ j
    · obtain ⟨x, hx⟩ : ∃ x, st[j - 1]? = some x := ⟨_, List.getElem?_eq_getElem (by have := HLN.out; omega)⟩
      obtain ⟨b, off, rfl, cx⟩ := HC.out (j - 1) x hx
      obtain ⟨x0, x1⟩ := HSV.out (j - 1) x hx
      have hs := HS.out (j - 1) x hx
      have hi1 := HI.out (j - 1) (by omega)
      rw [Nat.sub_add_cancel hlt] at hs
      rw [← cell_same HH.out] at cx
      have x1' : Box4 wr w.heap.size 27 (.int .i64 k) (.int .i64 n) (.slice sa sn sc) (.slice ca cn cc) := ⟨by rw [HH.out]; exact HX0.out.heap⟩
      obtain ⟨a0, a1, a2, a3⟩ := x1'.cells
      have ah := x1'.heap
      have al := x1'.lt
      have hp2 := two_pos k
      have e1 : wrap64 (noL k (st.drop j) * 2 ^ k) = noL k (st.drop j) * 2 ^ k := by
        have : 0 ≤ noL k (st.drop j) * 2 ^ k := Int.mul_nonneg b0 (by omega)
        rw [Int.mul_comm] at this ⊢
        exact wrap64_in _ (by omega) (by omega)
      have e2 : wrap64 (noL k (st.drop j) * 2 ^ k + x) = noL k (st.drop (j - 1)) := by
        rw [hs, Int.mul_comm (noL k (st.drop j)) (2 ^ k), Int.add_comm]
        exact wrap64_in _ (by omega) (by omega)
      have E1 : Hid _ := e1
      have E2 : Hid _ := e2
      have HJ : Hid (noL k (st.drop (j - 1)) = noL k (st.drop (j - 1))) := rfl
      clear x1' e1 e2 hs hx hi1 hp2
      go_wp2_with fail
      go_quiet (fail)
      rw [E1.out, E2.out]
      have HB2 : Hid (Below w.heap.size w (wr.drewN nq)) := HB.out.trans (below_drew7 _ _ _)
      go_wp2_with fail
      go_roundw
      case rel => exact ⟨j - 1, by omega, by go_num, rfl, HH, HB2⟩
      case measure => simp [intOf]; omega
    · obtain rfl : j = 0 := by omega
      clear HI HS HC HSV HX0
      go_wp2_with fail
      go_ret
      exact ⟨rfl, HB.out⟩
end Go.Proofs.YtmhpnkfibecnmaaDoor

namespace Go.Proofs.YtmhpnkfibecnmaaDoor
open Go Go.RowKit
open M
set_option linter.unusedVariables false

/-- the numbers of the enabled ones of some commands, counted from i -/
def enF (k : Int) (st : List Int) : List Cm → Int → List Int
  | [], _ => []
  | c :: r, i => if holdsL k c.1 st = true then i :: enF k st r (i + 1) else enF k st r (i + 1)
theorem enF_snoc (k : Int) (st : List Int) (c : Cm) : ∀ (l : List Cm) (i : Int), enF k st (l ++ [c]) i = enF k st l i ++ (if holdsL k c.1 st = true then [i + l.length] else [])
  | [], i => by
    simp only [List.nil_append, enF]
    split <;> simp
  | d :: l, i => by
    have ih := enF_snoc k st c l (i + 1)
    have e : i + 1 + (l.length : Int) = i + ((d :: l).length : Int) := by simp only [List.length_cons]; omega
    rw [e] at ih
    simp only [List.cons_append, enF, ih]
    split <;> simp
theorem enF_len (k : Int) (st : List Int) : ∀ (l : List Cm) (i : Int), (enF k st l i).length ≤ l.length
  | [], i => by simp [enF]
  | d :: l, i => by
    have ih := enF_len k st l (i + 1)
    simp only [enF]
    split <;> simp only [List.length_cons] <;> omega
theorem enF_yes {k : Int} {st : List Int} {cs : List Cm} {j : Nat} {c : Cm} (hc : cs[j]? = some c) (h : holdsL k c.1 st = true) : enF k st (cs.take (j + 1)) 0 = enF k st (cs.take j) 0 ++ [(j : Int)] := by
  have hj := (List.getElem?_eq_some_iff.1 hc).1
  rw [List.take_add_one, hc]
  show enF k st (cs.take j ++ [c]) 0 = _
  rw [enF_snoc, if_pos h, List.length_take, Nat.min_eq_left (by omega), Int.zero_add]
theorem enF_no {k : Int} {st : List Int} {cs : List Cm} {j : Nat} {c : Cm} (hc : cs[j]? = some c) (h : holdsL k c.1 st = false) : enF k st (cs.take (j + 1)) 0 = enF k st (cs.take j) 0 := by
  rw [List.take_add_one, hc]
  show enF k st (cs.take j ++ [c]) 0 = _
  rw [enF_snoc, if_neg (by rw [h]; decide), List.append_nil]
theorem enF_mem {k : Int} {st : List Int} : ∀ {cs : List Cm} {i n : Int}, n ∈ enF k st cs i ↔ ∃ (j : Nat) (c : Cm), cs[j]? = some c ∧ n = i + j ∧ holdsL k c.1 st = true
  | [], i, n => by simp [enF]
  | d :: l, i, n => by
    have ih := @enF_mem k st l (i + 1) n
    constructor
    · intro h
      simp only [enF] at h
      split at h
      · rename_i hd
        rcases List.mem_cons.1 h with h | h
        · exact ⟨0, d, rfl, by omega, hd⟩
        · obtain ⟨j, c, h1, h2, h3⟩ := ih.1 h
          exact ⟨j + 1, c, by simpa using h1, by omega, h3⟩
      · obtain ⟨j, c, h1, h2, h3⟩ := ih.1 h
        exact ⟨j + 1, c, by simpa using h1, by omega, h3⟩
    · rintro ⟨j, c, h1, h2, h3⟩
      simp only [enF]
      match j, h1 with
      | 0, h1 =>
        simp at h1
        subst h1
        rw [if_pos h3]
        exact List.mem_cons.2 (Or.inl (by omega))
      | j + 1, h1 =>
        have h4 : n ∈ enF k st l (i + 1) := ih.2 ⟨j, c, by simpa using h1, by omega, h3⟩
        split
        · exact List.mem_cons.2 (Or.inr h4)
        · exact h4
def startP (p : Pg) (st : List Int) : Bool := goodS p st && holdsL p.1 p.2.2.1 st
def enP (p : Pg) (st : List Int) : List Int := if goodS p st = true then enF p.1 st p.2.2.2 0 else []
theorem enP_len (p : Pg) (st : List Int) : (enP p st).length ≤ 1048576 := by
  unfold enP
  split
  · rename_i h
    unfold goodS at h
    rw [Bool.and_eq_true] at h
    obtain ⟨_, _, _, _, _, _, h6, _⟩ := goodP_parts h.1
    have := enF_len p.1 st p.2.2.2 0
    omega
  · simp
/-- a state, changed -/
def doF (k : Int) (st : List Int) (cs : List Ch) (s : List Int) : List Int := cs.foldl (fun s c => s.set c.1.toNat (valueL k c.2 st)) s
def doC (k : Int) (st : List Int) (c : Cm) : List Int := doF k st c.2 st
theorem doF_take {k : Int} {st s : List Int} {cs : List Ch} {j : Nat} {c : Ch} (hc : cs[j]? = some c) : doF k st (cs.take (j + 1)) s = (doF k st (cs.take j) s).set c.1.toNat (valueL k c.2 st) := by
  rw [List.take_add_one, hc]
  unfold doF
  rw [List.foldl_append]
  rfl
theorem doF_len (k : Int) (st : List Int) : ∀ (cs : List Ch) (s : List Int), (doF k st cs s).length = s.length
  | [], s => rfl
  | c :: r, s => by
    have ih := doF_len k st r (s.set c.1.toNat (valueL k c.2 st))
    rw [List.length_set] at ih
    exact ih
end Go.Proofs.YtmhpnkfibecnmaaDoor

namespace Go.Proofs.YtmhpnkfibecnmaaDoor
open Go Go.RowKit
open M
set_option linter.unusedVariables false

theorem st_ok {st : List Int} (h : WsOk st) : StOk st := ⟨h.2, h.1⟩
theorem smallP_open {p : Pg} (h : smallP p = true) : goodP p = true ∧ p.1 * p.2.1 ≤ 5 := by
  unfold smallP at h
  rw [Bool.and_eq_true] at h
  exact ⟨h.1, of_decide_eq_true h.2⟩
set_option maxRecDepth 100000 in
set_option maxHeartbeats 2000000 in
theorem sStateNo_any (v sv : Value) (p : Pg) (st : List Int) (hok : WsOk st) (w : World) (h : AtProg w v p) (hs : StAt w sv st) :
    Calls Tryd.prog 33 #[v, sv] w fun e w' => e = .returned (.tuple #[.int .i64 (noP p st), .bool (smallP p && stateP p st)]) ∧ Below w.heap.size w w' := by
  have HS : Hid (∀ w1 : World, Below w.heap.size w w1 → Calls Tryd.prog 77 #[v] w1 fun e w' => e = .returned (.bool (smallP p)) ∧ Below w1.heap.size w1 w') := fun w1 hb => sSmall_any v p w1 (h.below hb)
  have HT : Hid (∀ w1 : World, Below w.heap.size w w1 → Calls Tryd.prog 55 #[v, sv] w1 fun e w' => e = .returned (.bool (stateP p st)) ∧ Below w1.heap.size w1 w') := fun w1 hb => sState_any v sv p st (st_ok hok) w1 (h.below hb) (hs.below hb)
  have HN : Hid (smallP p = true → stateP p st = true → ∀ w1 : World, Below w.heap.size w w1 → Calls Tryd.prog 78 #[v, sv] w1 fun e w' => e = .returned (.int .i64 (noL p.1.toNat st)) ∧ Below w1.heap.size w1 w') := fun h1 h2 w1 hb => by
    obtain ⟨hg, hm⟩ := smallP_open h1
    obtain ⟨k, u, e1, e2, q1, q2, q3, q4⟩ := goodP_nats hg
    obtain ⟨h3, h4⟩ := stateP_open h2
    have hk5 : k ≤ 5 := by
      rw [e1, e2] at hm
      have : (k : Int) * 1 ≤ (k : Int) * (u : Int) := Int.mul_le_mul_of_nonneg_left (by omega) (by omega)
      omega
    have g := sNo_any v sv p k q1 hk5 e1 st h3 (by omega) (fun s hs => good_two k s (hok.1 s hs).1 (by rw [← e1]; exact h4 s hs)) w1 (h.below hb) (hs.below hb)
    rw [show p.1.toNat = k from by omega]
    exact g
  have hn0 : noP p st = if (smallP p && stateP p st) = true then noL p.1.toNat st else 0 := rfl
  have hfit : smallP p = true → stateP p st = true → True := fun _ _ => trivial
  obtain ⟨sa, sn, sc, ca, cn, cc, rfl⟩ := h.shape
  have HB0 : Hid (Below w.heap.size w (w.alloc (.cells #[.int .i64 p.1, .int .i64 p.2.1, .slice sa sn sc, .slice ca cn cc] 27))) := (Below.refl _ _).alloc (Nat.le_refl _) _
  have x0 := box4_alloc w 27 (.int .i64 p.1) (.int .i64 p.2.1) (.slice sa sn sc) (.slice ca cn cc)
  have HX0 : Hid _ := x0
  obtain ⟨ua, uc, rfl⟩ := hs.shape
  rw [hn0]
  clear h hs hok x0 hn0 hfit
  generalize noL p.1.toNat st = NN at *
  generalize st.length = n at *
  generalize stateP p st = B2 at *
  generalize smallP p = B1 at *
  generalize p.1 = pw at *
  generalize p.2.1 = pv at *
  cases B1 with
  | false =>
    rw [Bool.false_and, if_neg (by decide)]
    clear HN HT HX0
    go_enter Tryd.func33, Tryd.ntmps33
    go_wp2_with fail
    refine (HS.out _ HB0.out).mono ?_
    rintro e w1 ⟨rfl, hs⟩
    have HB1 : Hid (Below w.heap.size w w1) := Below.step HB0.out HB0.out.size hs
    clear hs
    go_wp2_with fail
    go_ret2
    exact ⟨rfl, HB1.out⟩
  | true =>
    cases B2 with
    | false =>
      rw [Bool.and_false, if_neg (by decide)]
      clear HN
      go_enter Tryd.func33, Tryd.ntmps33
      go_wp2_with fail
      refine (HS.out _ HB0.out).mono ?_
      generalize w.alloc (.cells #[.int .i64 pw, .int .i64 pv, .slice sa sn sc, .slice ca cn cc] 27) = w0 at *
      rintro e w1 ⟨rfl, hs⟩
      have HB1 : Hid (Below w.heap.size w w1) := Below.step HB0.out HB0.out.size hs
      have x1 := HX0.out.below hs HX0.out.lt
      obtain ⟨a0, a1, a2, a3⟩ := x1.cells
      have ah := x1.heap
      have al := x1.lt
      clear hs x1 HX0
      go_wp2_with fail
      refine (HT.out _ HB1.out).mono ?_
      rintro e w2 ⟨rfl, hs⟩
      have HB2 : Hid (Below w.heap.size w w2) := HB1.out.trans (hs.mono HB1.out.size)
      clear hs a0 a1 a2 a3 ah al
      go_wp2_with fail
      go_ret2
      exact ⟨rfl, HB2.out⟩
    | true =>
      rw [Bool.and_true, if_pos rfl]
      have HN2 : Hid _ := HN.out rfl rfl
      clear HN
      go_enter Tryd.func33, Tryd.ntmps33
      go_wp2_with fail
      refine (HS.out _ HB0.out).mono ?_
      generalize w.alloc (.cells #[.int .i64 pw, .int .i64 pv, .slice sa sn sc, .slice ca cn cc] 27) = w0 at *
      rintro e w1 ⟨rfl, hs⟩
      have HB1 : Hid (Below w.heap.size w w1) := Below.step HB0.out HB0.out.size hs
      have x1 := HX0.out.below hs HX0.out.lt
      have HX1 : Hid _ := x1
      obtain ⟨a0, a1, a2, a3⟩ := x1.cells
      have ah := x1.heap
      have al := x1.lt
      clear hs x1 HX0
      go_wp2_with fail
      refine (HT.out _ HB1.out).mono ?_
      rintro e w2 ⟨rfl, hs⟩
      have HB2 : Hid (Below w.heap.size w w2) := HB1.out.trans (hs.mono HB1.out.size)
      have x2 := HX1.out.below hs HX1.out.lt
      clear a0 a1 a2 a3 ah al
      obtain ⟨a0, a1, a2, a3⟩ := x2.cells
      have ah := x2.heap
      have al := x2.lt
      clear hs x2 HX1
      go_wp2_with fail
      refine (HN2.out _ HB2.out).mono ?_
      rintro e w3 ⟨rfl, hs⟩
      have HB3 : Hid (Below w.heap.size w w3) := HB2.out.trans (hs.mono HB2.out.size)
      clear hs a0 a1 a2 a3 ah al
      go_wp2_with fail
      go_ret2
      exact ⟨rfl, HB3.out⟩
set_option maxRecDepth 100000 in
set_option maxHeartbeats 2000000 in
theorem sIsStart_any (v sv : Value) (p : Pg) (st : List Int) (hok : WsOk st) (w : World) (h : AtProg w v p) (hs : StAt w sv st) :
    Calls Tryd.prog 22 #[v, sv] w fun e w' => e = .returned (.tuple #[.bool (startP p st), .bool (goodS p st)]) ∧ Below w.heap.size w w' := by
  have HS : Hid (∀ w1 : World, Below w.heap.size w w1 → Calls Tryd.prog 14 #[v] w1 fun e w' => e = .returned (.bool (goodP p)) ∧ Below w1.heap.size w1 w') := fun w1 hb => sGoodProg_any v p w1 (h.below hb)
  have HT : Hid (∀ w1 : World, Below w.heap.size w w1 → Calls Tryd.prog 55 #[v, sv] w1 fun e w' => e = .returned (.bool (stateP p st)) ∧ Below w1.heap.size w1 w') := fun w1 hb => sState_any v sv p st (st_ok hok) w1 (h.below hb) (hs.below hb)
  have HN0 : goodP p = true → stateP p st = true → ∀ (w1 : World) (u : Value), Below w.heap.size w w1 → NodesAt w1 u p.2.2.1 → Calls Tryd.prog 67 #[v, u, sv] w1 fun e w' => e = .returned (.bool (holdsL p.1 p.2.2.1 st)) ∧ Below w1.heap.size w1 w' := fun h1 h2 w1 u hb hu => by
    obtain ⟨hk, _⟩ := goodP_parts h1
    exact sHolds_any v u sv p p.2.2.1 st (st_ok hok) (said_of h2 (by omega)) w1 (h.below hb) hu (hs.below hb)
  have hn0 : startP p st = (goodP p && stateP p st && holdsL p.1 p.2.2.1 st) := rfl
  have hg0 : goodS p st = (goodP p && stateP p st) := rfl
  obtain ⟨_, _, s', c', e', hns, _⟩ := id h
  obtain ⟨sa, sn, sc, ca, cn, cc, rfl⟩ := h.shape
  have e2 : s' = .slice sa sn sc := by
    injection e' with e'
    simp only [Array.mk.injEq, List.cons.injEq] at e'
    exact e'.2.2.1.symm
  rw [e2] at hns
  clear e' e2
  have HN : Hid (goodP p = true → stateP p st = true → ∀ (w1 : World), Below w.heap.size w w1 → Calls Tryd.prog 67 #[.agg #[.int .i64 p.1, .int .i64 p.2.1, .slice sa sn sc, .slice ca cn cc], .slice sa sn sc, sv] w1 fun e w' => e = .returned (.bool (holdsL p.1 p.2.2.1 st)) ∧ Below w1.heap.size w1 w') := fun h1 h2 w1 hb => HN0 h1 h2 w1 _ hb (hns.below hb)
  have HB0 : Hid (Below w.heap.size w (w.alloc (.cells #[.int .i64 p.1, .int .i64 p.2.1, .slice sa sn sc, .slice ca cn cc] 27))) := (Below.refl _ _).alloc (Nat.le_refl _) _
  have x0 := box4_alloc w 27 (.int .i64 p.1) (.int .i64 p.2.1) (.slice sa sn sc) (.slice ca cn cc)
  have HX0 : Hid _ := x0
  obtain ⟨ua, uc, rfl⟩ := hs.shape
  rw [hn0, hg0]
  clear h hs hok x0 hn0 hg0 HN0 hns
  generalize holdsL p.1 p.2.2.1 st = NN at *
  generalize st.length = n at *
  generalize stateP p st = B2 at *
  generalize goodP p = B1 at *
  generalize p.1 = pw at *
  generalize p.2.1 = pv at *
  cases B1 with
  | false =>
    rw [Bool.false_and, Bool.false_and]
    clear HN HT HX0
    go_enter Tryd.func22, Tryd.ntmps22
    go_wp2_with fail
    refine (HS.out _ HB0.out).mono ?_
    rintro e w1 ⟨rfl, hs⟩
    have HB1 : Hid (Below w.heap.size w w1) := Below.step HB0.out HB0.out.size hs
    clear hs
    go_wp2_with fail
    go_ret2
    exact ⟨rfl, HB1.out⟩
  | true =>
    cases B2 with
    | false =>
      rw [Bool.and_false, Bool.false_and]
      clear HN
      go_enter Tryd.func22, Tryd.ntmps22
      go_wp2_with fail
      refine (HS.out _ HB0.out).mono ?_
      generalize w.alloc (.cells #[.int .i64 pw, .int .i64 pv, .slice sa sn sc, .slice ca cn cc] 27) = w0 at *
      rintro e w1 ⟨rfl, hs⟩
      have HB1 : Hid (Below w.heap.size w w1) := Below.step HB0.out HB0.out.size hs
      have x1 := HX0.out.below hs HX0.out.lt
      obtain ⟨a0, a1, a2, a3⟩ := x1.cells
      have ah := x1.heap
      have al := x1.lt
      clear hs x1 HX0
      go_wp2_with fail
      refine (HT.out _ HB1.out).mono ?_
      rintro e w2 ⟨rfl, hs⟩
      have HB2 : Hid (Below w.heap.size w w2) := HB1.out.trans (hs.mono HB1.out.size)
      clear hs a0 a1 a2 a3 ah al
      go_wp2_with fail
      go_ret2
      exact ⟨rfl, HB2.out⟩
    | true =>
      rw [Bool.and_true, Bool.true_and]
      have HN2 : Hid _ := HN.out rfl rfl
      clear HN
      go_enter Tryd.func22, Tryd.ntmps22
      go_wp2_with fail
      refine (HS.out _ HB0.out).mono ?_
      generalize w.alloc (.cells #[.int .i64 pw, .int .i64 pv, .slice sa sn sc, .slice ca cn cc] 27) = w0 at *
      rintro e w1 ⟨rfl, hs⟩
      have HB1 : Hid (Below w.heap.size w w1) := Below.step HB0.out HB0.out.size hs
      have x1 := HX0.out.below hs HX0.out.lt
      have HX1 : Hid _ := x1
      obtain ⟨a0, a1, a2, a3⟩ := x1.cells
      have ah := x1.heap
      have al := x1.lt
      clear hs x1 HX0
      go_wp2_with fail
      refine (HT.out _ HB1.out).mono ?_
      rintro e w2 ⟨rfl, hs⟩
      have HB2 : Hid (Below w.heap.size w w2) := HB1.out.trans (hs.mono HB1.out.size)
      have x2 := HX1.out.below hs HX1.out.lt
      clear a0 a1 a2 a3 ah al
      obtain ⟨a0, a1, a2, a3⟩ := x2.cells
      have ah := x2.heap
      have al := x2.lt
      clear hs x2 HX1
      go_wp2_with fail
      refine (HN2.out _ HB2.out).mono ?_
      rintro e w3 ⟨rfl, hs⟩
      have HB3 : Hid (Below w.heap.size w w3) := HB2.out.trans (hs.mono HB2.out.size)
      clear hs a0 a1 a2 a3 ah al
      go_wp2_with fail
      go_ret2
      exact ⟨rfl, HB3.out⟩
end Go.Proofs.YtmhpnkfibecnmaaDoor

namespace Go.Proofs.YtmhpnkfibecnmaaDoor
open Go Go.RowKit
open M
set_option linter.unusedVariables false

/-- word v of the state of a number -/
def ofW (k : Nat) (no : Int) (v : Nat) : Int := no / 2 ^ (k * v) % 2 ^ k
/-- the state of a number -/
def ofL (k vars : Nat) (no : Int) : List Int := (List.range vars).map (ofW k no)
theorem ofL_len (k vars : Nat) (no : Int) : (ofL k vars no).length = vars := by simp [ofL]
theorem ofL_succ (k j : Nat) (no : Int) : ofL k (j + 1) no = ofL k j no ++ [ofW k no j] := by simp [ofL, List.range_succ]
theorem ofW_in (k : Nat) (no : Int) (v : Nat) : 0 ≤ ofW k no v ∧ ofW k no v < 2 ^ k := ⟨Int.emod_nonneg _ (by have := two_pos k; omega), Int.emod_lt_of_pos _ (two_pos k)⟩
theorem ofL_mem {k vars : Nat} {no : Int} : ∀ s ∈ ofL k vars no, 0 ≤ s ∧ s < 2 ^ k := by
  intro s hs
  obtain ⟨v, _, rfl⟩ := List.mem_map.1 hs
  exact ofW_in k no v
theorem two_mono {a b : Nat} (h : a ≤ b) : (2 : Int) ^ a ≤ 2 ^ b := by
  rw [pw_int, pw_int]
  exact pw_mono _ _ h
/-- behind its last word a number is nothing -/
theorem ofW_high {k vars v : Nat} {no : Int} (h0 : 0 ≤ no) (h1 : no < 2 ^ (k * vars)) (hv : vars ≤ v) : ofW k no v = 0 := by
  have hm : (2 : Int) ^ (k * vars) ≤ 2 ^ (k * v) := two_mono (Nat.mul_le_mul_left k hv)
  unfold ofW
  rw [Int.ediv_eq_zero_of_lt h0 (by omega)]
  simp
theorem padW_ofL {k vars : Nat} {no : Int} (h0 : 0 ≤ no) (h1 : no < 2 ^ (k * vars)) (v : Nat) : padW (ofL k vars no) v = ofW k no v := by
  unfold padW
  rw [List.getD_eq_getElem?_getD]
  by_cases hv : v < vars
  · simp [ofL, hv]
  · rw [ofW_high h0 h1 (by omega), List.getElem?_eq_none (by rw [ofL_len]; omega)]
    rfl
theorem shr_two (a : Int) (n : Nat) : a >>> n = a / 2 ^ n := by
  rw [Int.shiftRight_eq_div_pow]
  simp
end Go.Proofs.YtmhpnkfibecnmaaDoor

namespace Go.Proofs.YtmhpnkfibecnmaaDoor
open Go Go.RowKit
open M
set_option linter.unusedVariables false

/-- the kind of an op's parts; 0 where it has none -/
def wantOf (op : Int) : Int := if manyOf op = 0 then 0 else partOf op
theorem wantOf_part {op : Int} (h : manyOf op ≠ 0) : wantOf op = partOf op := by unfold wantOf; rw [if_neg h]
set_option maxHeartbeats 2000000 in
theorem shapeOf_any (op : Int) (w : World) :
    Calls Tryd.prog 145 #[.int .i64 op] w fun e w' => e = .returned (.tuple #[.int .i64 (manyOf op), .int .i64 (wantOf op), .int .i64 (ownOf op)]) ∧ w' = w := by
  by_cases h : 1 ≤ op ∧ op ≤ 20
  · rcases (show op = 1 ∨ op = 2 ∨ op = 3 ∨ op = 4 ∨ op = 5 ∨ op = 6 ∨ op = 7 ∨ op = 8 ∨ op = 9 ∨ op = 10 ∨ op = 11 ∨ op = 12 ∨ op = 13 ∨ op = 14 ∨ op = 15 ∨ op = 16 ∨ op = 17 ∨ op = 18 ∨ op = 19 ∨ op = 20 by omega) with rfl | rfl | rfl | rfl | rfl | rfl | rfl | rfl | rfl | rfl | rfl | rfl | rfl | rfl | rfl | rfl | rfl | rfl | rfl | rfl
    all_goals
      go_enter Tryd.func145, Tryd.ntmps145
      go_wp2
      go_ret3
      exact ⟨rfl, rfl⟩
  · have hm : manyOf op = 0 := by unfold manyOf; (repeat' split) <;> omega
    have hw : wantOf op = 0 := by unfold wantOf; rw [if_pos hm]
    have ho : ownOf op = 0 := by unfold ownOf; (repeat' split) <;> omega
    rw [hm, hw, ho]
    clear hm hw ho
    have e1 : (op == 1) = false := beq_eq_false_iff_ne.2 (by omega)
    have e2 : (op == 2) = false := beq_eq_false_iff_ne.2 (by omega)
    have e3 : (op == 3) = false := beq_eq_false_iff_ne.2 (by omega)
    have e4 : (op == 4) = false := beq_eq_false_iff_ne.2 (by omega)
    have e5 : (op == 5) = false := beq_eq_false_iff_ne.2 (by omega)
    have e6 : (op == 6) = false := beq_eq_false_iff_ne.2 (by omega)
    have e7 : (op == 7) = false := beq_eq_false_iff_ne.2 (by omega)
    have e8 : (op == 8) = false := beq_eq_false_iff_ne.2 (by omega)
    have e9 : (op == 9) = false := beq_eq_false_iff_ne.2 (by omega)
    have e10 : (op == 10) = false := beq_eq_false_iff_ne.2 (by omega)
    have e11 : (op == 11) = false := beq_eq_false_iff_ne.2 (by omega)
    have e12 : (op == 12) = false := beq_eq_false_iff_ne.2 (by omega)
    have e13 : (op == 13) = false := beq_eq_false_iff_ne.2 (by omega)
    have e14 : (op == 14) = false := beq_eq_false_iff_ne.2 (by omega)
    have e15 : (op == 15) = false := beq_eq_false_iff_ne.2 (by omega)
    have e16 : (op == 16) = false := beq_eq_false_iff_ne.2 (by omega)
    have e17 : (op == 17) = false := beq_eq_false_iff_ne.2 (by omega)
    have e18 : (op == 18) = false := beq_eq_false_iff_ne.2 (by omega)
    have e19 : (op == 19) = false := beq_eq_false_iff_ne.2 (by omega)
    have e20 : (op == 20) = false := beq_eq_false_iff_ne.2 (by omega)
    clear h
    go_enter Tryd.func145, Tryd.ntmps145
    go_wp2
    go_ret3
    exact ⟨rfl, rfl⟩
theorem goodVars_yes (vars : Int) (h : 1 ≤ vars ∧ vars ≤ 4) (w : World) :
    Calls Tryd.prog 144 #[.int .i64 vars] w fun e w' => e = .returned (.bool true) ∧ w' = w := by
  obtain ⟨h1, h2⟩ := h
  have hd : decide (vars ≤ 4) = true := decide_eq_true h2
  go_enter Tryd.func144, Tryd.ntmps144
  go_wp2
  go_ret
  exact ⟨ret_bool (by first | rfl | exact hd), rfl⟩
theorem goodVars_no (vars : Int) (h : ¬ (1 ≤ vars ∧ vars ≤ 4)) (w : World) :
    Calls Tryd.prog 144 #[.int .i64 vars] w fun e w' => e = .returned (.bool false) ∧ w' = w := by
  by_cases h1 : 1 ≤ vars
  · have hd : decide (vars ≤ 4) = false := decide_eq_false (by omega)
    go_enter Tryd.func144, Tryd.ntmps144
    go_wp2
    go_ret
    exact ⟨ret_bool (by first | rfl | exact hd), rfl⟩
  · go_enter Tryd.func144, Tryd.ntmps144
    go_wp2
    go_ret
    exact ⟨rfl, rfl⟩
set_option maxHeartbeats 1000000 in
theorem goodN_any (wide vars op n : Int) (hv0 : 0 ≤ vars) (hv1 : vars ≤ 9223372036854775807) (h0 : 0 ≤ n) (h1 : n ≤ 18446744073709551615) (w : World) (hT : Tab w) :
    Calls Tryd.prog 146 #[.int .i64 wide, .int .i64 vars, .agg #[.int .i64 op, .int .u64 n]] w fun e w' => e = .returned (.bool (okN wide vars op n)) ∧ Below w.heap.size w w' := by
  unfold okN
  have h0w : 0 < w.heap.size := by
    have h0 := hT 0 (by omega)
    by_cases hb : 0 < w.heap.size
    · exact hb
    · have e : w.heap[0]? = none := Array.getElem?_eq_none (by omega)
      simp [World.cell?, e] at h0
  have hb : Below w.heap.size w (w.alloc (.cells #[.int .i64 op, .int .u64 n] 159)) := (Below.refl _ _).alloc (Nat.le_refl _) _
  by_cases c1 : op = 1
  · rw [if_pos c1]
    subst c1
    have hT2 : Tab (w.alloc (.cells #[.int .i64 1, .int .u64 n] 159)) := by
      intro k hk
      rw [hb.cell (p := ⟨0, k, none⟩) h0w]
      exact hT k hk
    have g := iGoodWord_any wide n (w.alloc (.cells #[.int .i64 1, .int .u64 n] 159)) hT2
    generalize goodB wide n = z at *
    have HB : Hid (Below w.heap.size w (w.alloc (.cells #[.int .i64 1, .int .u64 n] 159))) := hb
    clear hb hT2 hT
    go_enter Tryd.func146, Tryd.ntmps146
    go_wp2_with fail
    refine g.mono ?_
    rintro e w' ⟨rfl, rfl⟩
    clear g
    go_wp2_with fail
    go_ret
    exact ⟨rfl, HB.out⟩
  · rw [if_neg c1]
    have e1 : (op == 1) = false := beq_eq_false_iff_ne.2 c1
    have HB : Hid (Below w.heap.size w (w.alloc (.cells #[.int .i64 op, .int .u64 n] 159))) := hb
    clear hb hT
    by_cases c2 : op = 2
    · rw [if_pos c2]
      subst c2
      go_enter Tryd.func146, Tryd.ntmps146
      go_wp2_with fail
      go_ret
      exact ⟨rfl, HB.out⟩
    · rw [if_neg c2]
      have e2 : (op == 2) = false := beq_eq_false_iff_ne.2 c2
      by_cases c3 : op = 20
      · rw [if_pos c3]
        subst c3
        have hd : decide (n < 2) = decide (n ≤ 1) := by
          by_cases h : n < 2
          · rw [decide_eq_true h, decide_eq_true (by omega)]
          · rw [decide_eq_false h, decide_eq_false (by omega)]
        rw [hd]
        clear hd
        go_enter Tryd.func146, Tryd.ntmps146
        go_wp2_with fail
        go_ret
        exact ⟨rfl, HB.out⟩
      · rw [if_neg c3]
        have e3 : (op == 20) = false := beq_eq_false_iff_ne.2 c3
        clear c1 c2 c3
        go_enter Tryd.func146, Tryd.ntmps146
        go_wp2_with fail
        go_ret
        exact ⟨rfl, HB.out⟩
end Go.Proofs.YtmhpnkfibecnmaaDoor

namespace Go.Proofs.YtmhpnkfibecnmaaDoor
open Go Go.RowKit
open M
set_option linter.unusedVariables false

theorem infoPtr : (Tryd.prog.info? 101).map (fun i => (i.zero, i.size, i.bytes)) = some (some (.pointer none), 1, 8) := by kernel_rfl
set_option maxRecDepth 100000 in
theorem nodeOver_shape (op n : Int) (a : Option Addr) (len cap : Nat) (hl : len ≤ 9223372036854775807) (h : ownOf op = 0 ∨ len ≠ manyOf op) (w : World) :
    Calls Tryd.prog 147 #[.agg #[.int .i64 op, .int .u64 n], .slice a len cap] w fun e w' => e = .returned (.pointer none) ∧ Below w.heap.size w w' := by
  have g := fun w1 => shapeOf_any op w1
  have HB : Hid (Below w.heap.size w (w.alloc (.cells #[.int .i64 op, .int .u64 n] 159))) := (Below.refl _ _).alloc (Nat.le_refl _) _
  by_cases h0 : ownOf op = 0
  · rw [h0] at g
    clear h h0
    generalize manyOf op = mm at *
    generalize wantOf op = ww at *
    go_enter Tryd.func147, Tryd.ntmps147
    go_wp2_with fail
    refine (g _).mono ?_
    rintro e w' ⟨rfl, rfl⟩
    clear g
    go_wp2_with fail
    go_ret
    exact ⟨rfl, HB.out⟩
  · have e0 : (ownOf op == 0) = false := beq_eq_false_iff_ne.2 h0
    have hne : ((len : Int) != ((manyOf op : Nat) : Int)) = true := bne_iff_ne.2 (by rcases h with h | h; exact absurd h h0; omega)
    have hm := manyOf_le op
    clear h h0
    generalize manyOf op = mm at *
    generalize wantOf op = ww at *
    generalize ownOf op = oo at *
    go_enter Tryd.func147, Tryd.ntmps147
    go_wp2_with fail
    refine (g _).mono ?_
    rintro e w' ⟨rfl, rfl⟩
    clear g
    go_wp2_with fail
    go_ret
    exact ⟨rfl, HB.out⟩
theorem onePtr_cells (w : World) (p : Nat) : ∀ (j : Nat) (u : Value), ([ptr p] : List Value)[j]? = some u → (w.alloc (.cells #[ptr p] 101)).cell? ((⟨w.heap.size, 0, none⟩ : Addr).add j) = some u := by
  intro j u hu
  match j, hu with
  | 0, hu => simp at hu; subst hu; simp [Addr.add]
theorem cell_otherBlock {w : World} {b o b' o' : Nat} {v : Value} (h : b ≠ b') : (w.setCell ⟨b, o, none⟩ v).cell? ⟨b', o', none⟩ = w.cell? ⟨b', o', none⟩ :=
  World.cell?_of_block (w := w) (a := ⟨b', o', none⟩) (Below.heap_setCell _ _ _ _ (fun e => h e.symm))
theorem frozen_heap {w : World} {b o : Nat} {c : Array Value} {e : TypeId} (h : w.heap[b]? = some (.cells c e (0, 0))) : w.frozen? ⟨b, o, none⟩ = false := by
  simp [World.frozen?, h]
theorem sizes_take {l : List Tr} {j : Nat} {a : Tr} (h : l[j]? = some a) : sizes (l.take (j + 1)) = sizes (l.take j) + a.size := by
  rw [List.take_add_one, h, sizes_append]
  simp [sizes]
theorem sizes_le (l : List Tr) (j : Nat) : sizes (l.take j) ≤ sizes l := by
  have h := sizes_append (l.take j) (l.drop j)
  rw [List.take_append_drop] at h
  omega
set_option maxRecDepth 100000 in
set_option maxHeartbeats 2000000 in
theorem nodeOver_yes (op n : Int) (l : List Tr) (ps : List Nat) (ad : Option Addr) (cap : Nat) (w : World) (S : Nat → Prop) (hS : ∀ k, S k → k < w.heap.size)
    (hc : ∀ (i b : Nat), ps[i]? = some b → ∃ g off : Nat, ad = some ⟨g, off, none⟩ ∧ g < w.heap.size ∧ w.cell? ⟨g, off + i, none⟩ = some (ptr b)) (ht : TrsAt w S l ps) (hown : ¬ ownOf op = 0) (hm : manyOf op = l.length) (hk : ∀ q ∈ l, q.kind = partOf op) (hsz : sizes l ≤ 1000000) :
    Calls Tryd.prog 147 #[.agg #[.int .i64 op, .int .u64 n], .slice ad ps.length cap] w fun e w' => ∃ b, e = .returned (ptr b) ∧ TrAt w' (fun k => S k ∨ (w.heap.size ≤ k ∧ k < w'.heap.size)) (Tr.over (op, n) l) b ∧ Below w.heap.size w w' := by
  have g0 := fun w1 => shapeOf_any op w1
  have hm2 := manyOf_le op
  have hl := ht.1
  have e0 : (ownOf op == 0) = false := beq_eq_false_iff_ne.2 hown
  have hlm : ps.length = manyOf op := by omega
  have HW : Hid (manyOf op ≠ 0 → wantOf op = partOf op) := fun h => wantOf_part h
  have HC : Hid _ := hc
  have HT : Hid _ := ht
  have HS : Hid _ := hS
  have HK : Hid _ := hk
  obtain ⟨i0, hi, hz0, hz1, hz2⟩ := info_parts infoPtr
  clear hc ht hS hk hown
  generalize hmm : manyOf op = mm at *
  generalize hww : wantOf op = ww at *
  generalize hpp : partOf op = pp at *
  generalize hoo : ownOf op = oo at *
  have HOO : Hid (ownOf op = oo) := hoo
  have HLL : Hid (l.length ≤ 2) := (by omega : l.length ≤ 2)
  clear hmm hww hpp hoo hl hm
  subst hlm
  go_enter Tryd.func147, Tryd.ntmps147
  go_wp2_with fail
  refine (g0 _).mono ?_
  rintro e w' ⟨rfl, rfl⟩
  clear g0
  go_wp2_with fail
  go_loopw [32] (fun i wr => ∃ (j : Nat) (sv : Value), j ≤ ps.length ∧ i = .int .i64 j ∧ Hid (wr.heap[w.heap.size + 1]? = some (.cells #[.int .i64 op, .int .u64 n, .int .i64 oo, .int .i64 ((1 + sizes (l.take j) : Nat) : Int), sv] 179 (0, 0))) ∧ Hid (wr.ownsRow (w.heap.size + 2) 101 1 sv j (ptrs (ps.take j))) ∧ Hid (Below w.heap.size w wr)) (fun i _ => ps.length - (intOf i).toNat)
  case atStart =>
    refine ⟨0, .slice none 0 0, by omega, rfl, ?_, World.ownsRow_nil _ _ _ _, ?_⟩
    · have e : (w.alloc (.cells #[.int .i64 op, .int .u64 n] 159)).heap.size = w.heap.size + 1 := by simp
      show ((w.alloc (.cells #[.int .i64 op, .int .u64 n] 159)).heap.push _)[w.heap.size + 1]? = _
      rw [← e, Array.getElem?_push_size]
      simp [sizes]
    · exact ((Below.refl _ _).alloc (Nat.le_refl _) _).alloc (by simp) _
  case round =>
    obtain ⟨j, sv, hj, rfl, HH, HO, HB⟩ := hrel
    by_cases hlt' : j < ps.length
    · obtain ⟨p, hp⟩ : ∃ p, ps[j]? = some p := ⟨ps[j], List.getElem?_eq_getElem hlt'⟩
      obtain ⟨a, ha⟩ : ∃ a, l[j]? = some a := ⟨l[j]'(by have := HT.out.1; omega), List.getElem?_eq_getElem _⟩
      obtain ⟨g, off, rfl, hlt, c0⟩ := HC.out j p hp
      rw [← HB.out.cell (p := ⟨g, off + j, none⟩) hlt] at c0
      have htr := HT.out.2 j a p ha hp
      obtain ⟨qs, hn, _⟩ := trAt_open (TrAt.frame (S' := S) (fun k hk => hk) (fun k hk => HB.out.block k (HS.out k hk)) htr)
      obtain ⟨hSp, _, _, n2, n3, _⟩ := hn
      have hkq := HK.out a (List.mem_of_getElem? ha)
      have hww := HW.out (by omega)
      rw [hkq, ← hww] at n2
      have hsa : 1 + sizes (l.take j) + a.size ≤ 1000001 := by
        have h1 := sizes_take ha
        have h2 := sizes_le l (j + 1)
        omega
      have HE : Hid (1 + sizes (l.take (j + 1)) = 1 + sizes (l.take j) + a.size) := by
        show 1 + sizes (l.take (j + 1)) = 1 + sizes (l.take j) + a.size
        rw [sizes_take ha]
        omega
      have HP : Hid (ptrs (ps.take (j + 1)) = ptrs (ps.take j) ++ [ptr p]) := by
        show ptrs (ps.take (j + 1)) = ptrs (ps.take j) ++ [ptr p]
        rw [List.take_add_one, hp]
        simp [ptrs]
      have d3 := cell_heap (o := 3) HH.out
      have d4 := cell_heap (o := 4) HH.out
      simp only [List.getElem?_toArray, List.getElem?_cons_succ, List.getElem?_cons_zero] at d3 d4
      have hmlt : w.heap.size + 1 < wr.heap.size := (Array.getElem?_eq_some_iff.1 HH.out).1
      clear hp ha htr hkq hww
      generalize 1 + sizes (l.take j) = y at *
      generalize hxs : ptrs (ps.take j) = xs at *
      clear hxs
      have own0 := HO.out
      have own1 := own0.alloc (.cells #[ptr p] 101)
      have HB1 : Hid (Below w.heap.size w (wr.alloc (.cells #[ptr p] 101))) := HB.out.alloc HB.out.size _
      have cellsN := onePtr_cells wr p
      have HH1 : Hid ((wr.alloc (.cells #[ptr p] 101)).heap[w.heap.size + 1]? = some (.cells #[.int .i64 op, .int .u64 n, .int .i64 oo, .int .i64 (y : Int), sv] 179 (0, 0))) := by
        show (wr.alloc (.cells #[ptr p] 101)).heap[w.heap.size + 1]? = _
        rw [Below.heap_alloc _ _ _ hmlt]
        exact HH.out
      have n3a : (wr.alloc (.cells #[ptr p] 101)).cell? ⟨p, 3, none⟩ = some (.int .i64 (a.size : Int)) := by
        rw [← n3]
        exact World.cell?_of_block (w := wr) (a := ⟨p, 3, none⟩) (Below.heap_alloc _ _ _ (World.block_lt_of_cell? wr ⟨p, 3, none⟩ n3))
      have HP0 : Hid (p < w.heap.size) := HS.out p hSp
      have HML : Hid (w.heap.size + 1 < wr.heap.size) := hmlt
      clear hmlt
      go_wp2_with (at_builtin; refine wpList_append_own _ rfl _ _ 177 rfl (w.heap.size + 2) 101 i0 (.pointer none) 1 8 Tryd.underlying177 hi hz0 hz1 hz2 rfl (by decide) _ _ _ rfl own1 ⟨wr.heap.size, 0, none⟩ 1 1 [ptr p] rfl rfl cellsN (by intro u hu; simp at hu; subst hu; rfl) (by unfold maxLen; omega) (by omega) (by have h := HML.out; simp; omega) ?_)
      intro v7 w7 own7 grow7 _
      obtain ⟨ad7, cap7, rfl⟩ := own_shape own7
      have hne : some (w.heap.size + 1) ≠ sv.ownBlock := fun e => by
        have := (own0.lt _ e.symm).1
        omega
      have hne2 : some p ≠ sv.ownBlock := fun e => by
        have := (own0.lt _ e.symm).1
        have := HP0.out
        omega
      have HH7 : Hid (w7.heap[w.heap.size + 1]? = some (.cells #[.int .i64 op, .int .u64 n, .int .i64 oo, .int .i64 (y : Int), sv] 179 (0, 0))) := by
        show w7.heap[w.heap.size + 1]? = _
        rw [grow7.block _ (by have h := HML.out; simp; omega) hne]
        exact HH1.out
      have HB7 : Hid (Below w.heap.size w w7) := HB1.out.grown grow7 (by have h := HML.out; simp; omega) (fun k hk => by have := (own0.lt _ hk).1; omega)
      have HH8 : Hid ((w7.setCell ⟨w.heap.size + 1, 4, none⟩ (.slice ad7 (j + 1) cap7)).heap[w.heap.size + 1]? = some (.cells #[.int .i64 op, .int .u64 n, .int .i64 oo, .int .i64 (y : Int), (.slice ad7 (j + 1) cap7)] 179 (0, 0))) := heap_set HH7.out
      have d7 := cell_heap (o := 4) HH7.out
      have f7 := frozen_heap (o := 4) HH7.out
      have d8 := cell_heap (o := 3) HH8.out
      have f8 := frozen_heap (o := 3) HH8.out
      simp only [List.getElem?_toArray, List.getElem?_cons_succ, List.getElem?_cons_zero] at d7 d8
      have n8 : (w7.setCell ⟨w.heap.size + 1, 4, none⟩ (.slice ad7 (j + 1) cap7)).cell? ⟨p, 3, none⟩ = some (.int .i64 (a.size : Int)) := by
        rw [cell_otherBlock (by have := HP0.out; omega)]
        exact grow7.cell n3a hne2
      have own8 : Hid (((w7.setCell ⟨w.heap.size + 1, 4, none⟩ (.slice ad7 (j + 1) cap7)).setCell ⟨w.heap.size + 1, 3, none⟩ (.int .i64 ((y + a.size : Nat) : Int))).drew.ownsRow (w.heap.size + 2) 101 1 (.slice ad7 (j + 1) cap7) (j + 1) (ptrs (ps.take (j + 1)))) := by
        show World.ownsRow _ _ _ _ _ _ _
        rw [HP.out]
        have h1 := ownsRow_setCell_below own7 (a := ⟨w.heap.size + 1, 4, none⟩) (by simp) (.slice ad7 (j + 1) cap7)
        exact ownsRow_setCell_below h1 (a := ⟨w.heap.size + 1, 3, none⟩) (by simp) _
      have HH9 : Hid (((w7.setCell ⟨w.heap.size + 1, 4, none⟩ (.slice ad7 (j + 1) cap7)).setCell ⟨w.heap.size + 1, 3, none⟩ (.int .i64 ((y + a.size : Nat) : Int))).drew.heap[w.heap.size + 1]? = some (.cells #[.int .i64 op, .int .u64 n, .int .i64 oo, .int .i64 ((y + a.size : Nat) : Int), (.slice ad7 (j + 1) cap7)] 179 (0, 0))) := heap_set HH8.out
      have HB9 : Hid (Below w.heap.size w ((w7.setCell ⟨w.heap.size + 1, 4, none⟩ (.slice ad7 (j + 1) cap7)).setCell ⟨w.heap.size + 1, 3, none⟩ (.int .i64 ((y + a.size : Nat) : Int))).drew) := ((HB7.out.setCell (p := ⟨w.heap.size + 1, 4, none⟩) (by simp) _).setCell (p := ⟨w.heap.size + 1, 3, none⟩) (by simp) _).drew
      clear own0 own1 own7 grow7 hne hne2 cellsN c0 n2 n3 n3a d3 d4
      go_wp2_with fail
      go_region
      all_goals
        go_wp2_with fail
        go_roundw
        case rel =>
          refine ⟨j + 1, .slice ad7 (j + 1) cap7, by omega, by go_num, ?_, own8, HB9⟩
          show Hid _
          rw [HE.out]
          exact HH9
        case measure => simp [intOf]; omega
    · obtain rfl : j = ps.length := by omega
      have HE : Hid (∃ b, (w.heap.size + 1) = b ∧ TrAt wr (fun k => S k ∨ (w.heap.size ≤ k ∧ k < wr.heap.size)) (Tr.over (op, n) l) b ∧ Below w.heap.size w wr) := by
        refine ⟨_, rfl, trAt_shut (ps := ps) HLL.out ?_ ?_, HB.out⟩
        · have hh := HH.out
          have hle : l.length = ps.length := HT.out.1
          rw [← hle, List.take_length] at hh
          have own := HO.out
          rw [List.take_length] at own
          have hlt2 := (Array.getElem?_eq_some_iff.1 hh).1
          refine ⟨Or.inr ⟨by omega, hlt2⟩, cell_heap (o := 0) hh, cell_heap (o := 1) hh, ?_, cell_heap (o := 3) hh, sv, cell_heap (o := 4) hh, ?_⟩
          · rw [HOO.out]
            exact cell_heap (o := 2) hh
          · have hp := ptrs_of_own own (by omega)
            refine ⟨hp.1, ?_⟩
            rcases hp.2 with h | ⟨g1, off1, cap1, hv, hg1, hc1⟩
            · exact Or.inl h
            · refine Or.inr ⟨g1, off1, cap1, hv, Or.inr ⟨?_, hg1⟩, hc1⟩
              have := (own.lt g1 (by rw [hv]; rfl)).1
              omega
        · exact TrsAt.frame (fun k hk => Or.inl hk) (fun k hk => HB.out.block k (HS.out k hk)) HT.out
      clear HH HO HB HT HC
      go_wp2_with fail
      go_ret
      obtain ⟨b, rfl, h1, h2⟩ := HE.out
      exact ⟨_, rfl, h1, h2⟩
theorem nodeOver_made (op n : Int) (l : List Tr) (ps : List Nat) (v : Value) (w : World) (S : Nat → Prop) (hS : ∀ k, S k → k < w.heap.size) (hv : PtrsAt w (Old w) v ps)
    (ht : TrsAt w S l ps) (hown : ¬ ownOf op = 0) (hm : manyOf op = l.length) (hk : ∀ q ∈ l, q.kind = partOf op) (hsz : sizes l ≤ 1000000) :
    Calls Tryd.prog 147 #[.agg #[.int .i64 op, .int .u64 n], v] w fun e w' => ∃ b, e = .returned (ptr b) ∧ TrAt w' (fun k => S k ∨ (w.heap.size ≤ k ∧ k < w'.heap.size)) (Tr.over (op, n) l) b ∧ Below w.heap.size w w' := by
  rcases hv.2 with ⟨rfl, a, cap, rfl⟩ | ⟨g, off, cap, rfl, hg, hc⟩
  · exact nodeOver_yes op n l [] a cap w S hS (fun i b hb => by simp at hb) ht hown hm hk hsz
  · exact nodeOver_yes op n l ps _ cap w S hS (fun i b hb => ⟨g, off, rfl, hg, hc i b hb⟩) ht hown hm hk hsz
end Go.Proofs.YtmhpnkfibecnmaaDoor

namespace Go.Proofs.YtmhpnkfibecnmaaDoor
open Go Go.RowKit
open M
set_option linter.unusedVariables false

/-- a part that may be none -/
abbrev pv (q : Option (Nat × Tr)) : Value := .pointer (q.map fun b => ⟨b.1, 0, none⟩)
set_option maxRecDepth 100000 in
set_option maxHeartbeats 2000000 in
theorem nodeOver_bad (op n : Int) (qs : List (Option (Nat × Tr))) (ad : Option Addr) (cap : Nat) (w : World) (hown : ¬ ownOf op = 0) (hm : manyOf op = qs.length)
    (hc : ∀ (i : Nat) (q : Option (Nat × Tr)), qs[i]? = some q → ∃ g off : Nat, ad = some ⟨g, off, none⟩ ∧ g < w.heap.size ∧ w.cell? ⟨g, off + i, none⟩ = some (pv q))
    (ht : ∀ (b : Nat) (a : Tr), some (b, a) ∈ qs → TrAt w (Old w) a b ∧ a.size ≤ 1000000)
    (hbad : ¬ ∀ q ∈ qs, ∃ b a, q = some (b, a) ∧ a.kind = partOf op) :
    Calls Tryd.prog 147 #[.agg #[.int .i64 op, .int .u64 n], .slice ad qs.length cap] w fun e w' => e = .returned (.pointer none) ∧ Below w.heap.size w w' := by
  have g0 := fun w1 => shapeOf_any op w1
  have hm2 := manyOf_le op
  have e0 : (ownOf op == 0) = false := beq_eq_false_iff_ne.2 hown
  have hlm : qs.length = manyOf op := by omega
  have HW : Hid (manyOf op ≠ 0 → wantOf op = partOf op) := fun h => wantOf_part h
  have HC : Hid _ := hc
  have HT : Hid _ := ht
  have HBAD : Hid _ := hbad
  obtain ⟨i0, hi, hz0, hz1, hz2⟩ := info_parts infoPtr
  clear hc ht hbad hown
  generalize hmm : manyOf op = mm at *
  generalize hww : wantOf op = ww at *
  generalize hpp : partOf op = pp at *
  generalize hoo : ownOf op = oo at *
  clear hmm hww hpp hoo hm
  subst hlm
  go_enter Tryd.func147, Tryd.ntmps147
  go_wp2_with fail
  refine (g0 _).mono ?_
  rintro e w' ⟨rfl, rfl⟩
  clear g0
  go_wp2_with fail
  go_loopw [32] (fun i wr => ∃ (j : Nat) (sv : Value) (y : Nat) (xs : List Value), j ≤ qs.length ∧ i = .int .i64 j ∧ Hid (wr.heap[w.heap.size + 1]? = some (.cells #[.int .i64 op, .int .u64 n, .int .i64 oo, .int .i64 (y : Int), sv] 179 (0, 0))) ∧ y ≤ 1 + j * 1000000 ∧ Hid (wr.ownsRow (w.heap.size + 2) 101 1 sv j xs) ∧ Hid (Below w.heap.size w wr) ∧ Hid (∀ (i : Nat) (q : Option (Nat × Tr)), i < j → qs[i]? = some q → ∃ b a, q = some (b, a) ∧ a.kind = pp)) (fun i _ => qs.length - (intOf i).toNat)
  case atStart =>
    refine ⟨0, .slice none 0 0, 1, [], by omega, rfl, ?_, by omega, World.ownsRow_nil _ _ _ _, ?_, (fun i q hi _ => absurd hi (by omega) : ∀ (i : Nat) (q : Option (Nat × Tr)), i < 0 → qs[i]? = some q → ∃ b a, q = some (b, a) ∧ a.kind = pp)⟩
    · have e : (w.alloc (.cells #[.int .i64 op, .int .u64 n] 159)).heap.size = w.heap.size + 1 := by simp
      show ((w.alloc (.cells #[.int .i64 op, .int .u64 n] 159)).heap.push _)[w.heap.size + 1]? = _
      rw [← e, Array.getElem?_push_size]
      simp
    · exact ((Below.refl _ _).alloc (Nat.le_refl _) _).alloc (by simp) _
  case round =>
    obtain ⟨j, sv, y, xs, hj, rfl, HH, hy, HO, HB, HG⟩ := hrel
    by_cases hlt' : j < qs.length
    · obtain ⟨q, hq⟩ : ∃ q, qs[j]? = some q := ⟨qs[j], List.getElem?_eq_getElem hlt'⟩
      obtain ⟨g, off, rfl, hg, c0⟩ := HC.out j q hq
      rw [← HB.out.cell (p := ⟨g, off + j, none⟩) hg] at c0
      rcases q with _ | ⟨p, a⟩
      · have c0' : wr.cell? ⟨g, off + j, none⟩ = some (.pointer none) := c0
        clear c0 hq HG HH HO HC HT HBAD
        go_wp2_with fail
        go_ret
        exact ⟨rfl, HB.out⟩
      · have c0' : wr.cell? ⟨g, off + j, none⟩ = some (ptr p) := c0
        obtain ⟨htr, hsa⟩ := HT.out p a (List.mem_of_getElem? hq)
        obtain ⟨rs, hn, _⟩ := trAt_open (htr.below HB.out)
        obtain ⟨_, _, _, n2, n3, _⟩ := hn
        have HP0 : Hid (p < w.heap.size) := (trAt_open htr).choose_spec.1.1
        have hww := HW.out (by omega)
        clear c0
        by_cases hk : a.kind = pp
        · rw [hk, ← hww] at n2
          have HG2 : Hid (∀ (i : Nat) (q : Option (Nat × Tr)), i < j + 1 → qs[i]? = some q → ∃ b a, q = some (b, a) ∧ a.kind = pp) := by
            intro i q hi hq'
            by_cases e : i = j
            · subst e
              rw [hq] at hq'
              obtain rfl := Option.some.inj hq'
              exact ⟨p, a, rfl, hk⟩
            · exact HG.out i q (by omega) hq'
          have d3 := cell_heap (o := 3) HH.out
          have d4 := cell_heap (o := 4) HH.out
          simp only [List.getElem?_toArray, List.getElem?_cons_succ, List.getElem?_cons_zero] at d3 d4
          have hmlt : w.heap.size + 1 < wr.heap.size := (Array.getElem?_eq_some_iff.1 HH.out).1
          have own0 := HO.out
          have own1 := own0.alloc (.cells #[ptr p] 101)
          have HB1 : Hid (Below w.heap.size w (wr.alloc (.cells #[ptr p] 101))) := HB.out.alloc HB.out.size _
          have cellsN := onePtr_cells wr p
          have HH1 : Hid ((wr.alloc (.cells #[ptr p] 101)).heap[w.heap.size + 1]? = some (.cells #[.int .i64 op, .int .u64 n, .int .i64 oo, .int .i64 (y : Int), sv] 179 (0, 0))) := by
            show (wr.alloc (.cells #[ptr p] 101)).heap[w.heap.size + 1]? = _
            rw [Below.heap_alloc _ _ _ hmlt]
            exact HH.out
          have n3a : (wr.alloc (.cells #[ptr p] 101)).cell? ⟨p, 3, none⟩ = some (.int .i64 (a.size : Int)) := by
            rw [← n3]
            exact World.cell?_of_block (w := wr) (a := ⟨p, 3, none⟩) (Below.heap_alloc _ _ _ (World.block_lt_of_cell? wr ⟨p, 3, none⟩ n3))
          have HML : Hid (w.heap.size + 1 < wr.heap.size) := hmlt
          clear hmlt hq htr hk hww
          go_wp2_with (at_builtin; refine wpList_append_own _ rfl _ _ 177 rfl (w.heap.size + 2) 101 i0 (.pointer none) 1 8 Tryd.underlying177 hi hz0 hz1 hz2 rfl (by decide) _ _ _ rfl own1 ⟨wr.heap.size, 0, none⟩ 1 1 [ptr p] rfl rfl cellsN (by intro u hu; simp at hu; subst hu; rfl) (by unfold maxLen; omega) (by omega) (by have h := HML.out; simp; omega) ?_)
          intro v7 w7 own7 grow7 _
          obtain ⟨ad7, cap7, rfl⟩ := own_shape own7
          have hne : some (w.heap.size + 1) ≠ sv.ownBlock := fun e => by
            have := (own0.lt _ e.symm).1
            omega
          have hne2 : some p ≠ sv.ownBlock := fun e => by
            have := (own0.lt _ e.symm).1
            have := HP0.out
            omega
          have HH7 : Hid (w7.heap[w.heap.size + 1]? = some (.cells #[.int .i64 op, .int .u64 n, .int .i64 oo, .int .i64 (y : Int), sv] 179 (0, 0))) := by
            show w7.heap[w.heap.size + 1]? = _
            rw [grow7.block _ (by have h := HML.out; simp; omega) hne]
            exact HH1.out
          have HB7 : Hid (Below w.heap.size w w7) := HB1.out.grown grow7 (by have h := HML.out; simp; omega) (fun k hk => by have := (own0.lt _ hk).1; omega)
          have HH8 : Hid ((w7.setCell ⟨w.heap.size + 1, 4, none⟩ (.slice ad7 (j + 1) cap7)).heap[w.heap.size + 1]? = some (.cells #[.int .i64 op, .int .u64 n, .int .i64 oo, .int .i64 (y : Int), (.slice ad7 (j + 1) cap7)] 179 (0, 0))) := heap_set HH7.out
          have d7 := cell_heap (o := 4) HH7.out
          have f7 := frozen_heap (o := 4) HH7.out
          have d8 := cell_heap (o := 3) HH8.out
          have f8 := frozen_heap (o := 3) HH8.out
          simp only [List.getElem?_toArray, List.getElem?_cons_succ, List.getElem?_cons_zero] at d7 d8
          have n8 : (w7.setCell ⟨w.heap.size + 1, 4, none⟩ (.slice ad7 (j + 1) cap7)).cell? ⟨p, 3, none⟩ = some (.int .i64 (a.size : Int)) := by
            rw [cell_otherBlock (by have := HP0.out; omega)]
            exact grow7.cell n3a hne2
          have own8 : Hid (((w7.setCell ⟨w.heap.size + 1, 4, none⟩ (.slice ad7 (j + 1) cap7)).setCell ⟨w.heap.size + 1, 3, none⟩ (.int .i64 ((y + a.size : Nat) : Int))).drew.ownsRow (w.heap.size + 2) 101 1 (.slice ad7 (j + 1) cap7) (j + 1) (xs ++ [ptr p])) := by
            show World.ownsRow _ _ _ _ _ _ _
            have h1 := ownsRow_setCell_below own7 (a := ⟨w.heap.size + 1, 4, none⟩) (by simp) (.slice ad7 (j + 1) cap7)
            exact ownsRow_setCell_below h1 (a := ⟨w.heap.size + 1, 3, none⟩) (by simp) _
          have HH9 : Hid (((w7.setCell ⟨w.heap.size + 1, 4, none⟩ (.slice ad7 (j + 1) cap7)).setCell ⟨w.heap.size + 1, 3, none⟩ (.int .i64 ((y + a.size : Nat) : Int))).drew.heap[w.heap.size + 1]? = some (.cells #[.int .i64 op, .int .u64 n, .int .i64 oo, .int .i64 ((y + a.size : Nat) : Int), (.slice ad7 (j + 1) cap7)] 179 (0, 0))) := heap_set HH8.out
          have HB9 : Hid (Below w.heap.size w ((w7.setCell ⟨w.heap.size + 1, 4, none⟩ (.slice ad7 (j + 1) cap7)).setCell ⟨w.heap.size + 1, 3, none⟩ (.int .i64 ((y + a.size : Nat) : Int))).drew) := ((HB7.out.setCell (p := ⟨w.heap.size + 1, 4, none⟩) (by simp) _).setCell (p := ⟨w.heap.size + 1, 3, none⟩) (by simp) _).drew
          clear own0 own1 own7 grow7 hne hne2 cellsN c0' n2 n3 n3a d3 d4
          go_wp2_with fail
          go_region
          all_goals
            go_wp2_with fail
            go_roundw
            case rel =>
              exact ⟨j + 1, .slice ad7 (j + 1) cap7, y + a.size, xs ++ [ptr p], by omega, by go_num, HH9, by omega, own8, HB9, HG2⟩
            case measure => simp [intOf]; omega
        · have hne : (a.kind != ww) = true := bne_iff_ne.2 (by rw [hww]; exact hk)
          generalize a.kind = kk at *
          clear hk hww hq HG HH HO HC HT HBAD htr
          go_wp2_with fail
          go_ret
          exact ⟨rfl, HB.out⟩
    · exfalso
      obtain rfl : j = qs.length := by omega
      refine HBAD.out (fun q hq => ?_)
      obtain ⟨i, hi, rfl⟩ := List.mem_iff_getElem.1 hq
      exact HG.out i _ hi (List.getElem?_eq_getElem hi)
end Go.Proofs.YtmhpnkfibecnmaaDoor

namespace Go.Proofs.YtmhpnkfibecnmaaDoor
open Go Go.RowKit
open M
set_option linter.unusedVariables false

theorem rootOf_out (wide vars : Int) (a : Option Addr) (len cap : Nat) (hlen : len ≤ 9223372036854775807) (h : ¬ (wideB wide = true ∧ 1 ≤ vars ∧ vars ≤ 4 ∧ len ≤ 48)) (w : World) :
    Calls Tryd.prog 128 #[.int .i64 wide, .int .i64 vars, .slice a len cap] w fun e w' => e = .returned (.pointer none) ∧ w' = w := by
  have g1 := goodWide_any wide w
  cases hw : wideB wide with
  | false =>
    rw [hw] at g1
    clear hw h
    go_enter Tryd.func128, Tryd.ntmps128
    go_wp2_with fail
    refine g1.mono ?_
    rintro e w' ⟨rfl, rfl⟩
    clear g1
    go_wp2_with fail
    go_ret
    exact ⟨rfl, rfl⟩
  | true =>
    rw [hw] at g1
    by_cases hv : 1 ≤ vars ∧ vars ≤ 4
    · have g2 := goodVars_yes vars hv w
      have hl : 48 < len := by
        by_cases h48 : 48 < len
        · exact h48
        · exact absurd ⟨hw, hv.1, hv.2, by omega⟩ h
      clear hw h hv
      go_enter Tryd.func128, Tryd.ntmps128
      go_wp2_with fail
      refine g1.mono ?_
      rintro e w' ⟨rfl, rfl⟩
      clear g1
      go_wp2_with fail
      refine g2.mono ?_
      rintro e w' ⟨rfl, rfl⟩
      clear g2
      go_wp2_with fail
      go_ret
      exact ⟨rfl, rfl⟩
    · have g2 := goodVars_no vars hv w
      clear hw h hv
      go_enter Tryd.func128, Tryd.ntmps128
      go_wp2_with fail
      refine g1.mono ?_
      rintro e w' ⟨rfl, rfl⟩
      clear g1
      go_wp2_with fail
      refine g2.mono ?_
      rintro e w' ⟨rfl, rfl⟩
      clear g2
      go_wp2_with fail
      go_ret
      exact ⟨rfl, rfl⟩
set_option maxRecDepth 100000 in
theorem rootOf_nil (k : Nat) (vars : Int) (a : Option Addr) (cap : Nat) (hw : wideB k = true) (hv : 1 ≤ vars ∧ vars ≤ 4) (w : World) :
    Calls Tryd.prog 128 #[.int .i64 k, .int .i64 vars, .slice a 0 cap] w fun e w' => e = .returned (.pointer none) ∧ w' = w := by
  have g1 := goodWide_any k w
  rw [hw] at g1
  have g2 := goodVars_yes vars hv w
  clear hw hv
  go_enter Tryd.func128, Tryd.ntmps128
  go_wp2_with fail
  refine g1.mono ?_
  rintro e w' ⟨rfl, rfl⟩
  clear g1
  go_wp2_with fail
  refine g2.mono ?_
  rintro e w' ⟨rfl, rfl⟩
  clear g2
  go_wp2_with fail
  go_loop [7, 30] (fun v i => v = .slice none 0 0 ∧ i = .int .i64 0) (fun _ _ => 0)
  case atStart => exact ⟨rfl, rfl⟩
  case round =>
    obtain ⟨rfl, rfl⟩ := hrel
    go_wp2_with fail
    go_ret
    exact ⟨rfl, rfl⟩
theorem step_kind {k vars : Int} {x : Nd} {p : List (Ent Tr)} (hle : manyOf x.1 ≤ p.length) (h : ∃ e ∈ p.take (manyOf x.1), e.kind ≠ partOf x.1) : stepK k vars (p.map Ent.kind).reverse x = none := by
  have hm := manyOf_le x.1
  unfold stepK
  split
  · rfl
  obtain ⟨e, he, hk⟩ := h
  generalize manyOf x.1 = m at *
  generalize partOf x.1 = q at *
  match m, hm, p, hle, he with
  | 0, _, p, _, he => simp at he
  | 1, _, d :: r, _, he =>
    simp at he
    subst he
    simp [popN, hk]
  | 2, _, d :: c :: r, _, he =>
    simp at he
    rcases he with rfl | rfl
    · simp [popN, hk]
    · simp only [popN, List.map_cons, List.reverse_cons, List.getLast?_concat, List.dropLast_concat]
      split
      · simp [hk]
      · rfl
theorem step_tree {k vars : Int} {j : Nat} {x : Nd} {p : List (Ent Tr)} (h1 : ¬ ownOf x.1 = 0) (h2 : okN k vars x.1 x.2 = true) (hle : manyOf x.1 ≤ p.length) (h : ∀ e ∈ p.take (manyOf x.1), e.kind = partOf x.1) :
    ∃ a0, stepE k vars Tr.leaf Tr.one Tr.two j p x = some (⟨a0, ownOf x.1, Tr.over x ((p.take (manyOf x.1)).reverse.map Ent.val)⟩ :: p.drop (manyOf x.1)) := by
  have hm := manyOf_le x.1
  unfold stepE
  rw [if_neg (by rw [h2]; simp [h1])]
  generalize manyOf x.1 = m at *
  generalize partOf x.1 = q at *
  match m, hm, p, hle, h with
  | 0, _, p, _, _ => exact ⟨j, rfl⟩
  | 1, _, d :: r, _, h =>
    have hd := h d (by simp)
    refine ⟨d.at0, ?_⟩
    simp [hd, Tr.over]
  | 2, _, d :: c :: r, _, h =>
    have hd := h d (by simp)
    have hc := h c (by simp)
    refine ⟨c.at0, ?_⟩
    simp [hd, hc, Tr.over]
theorem own_low {w : World} {B g n cap rest : Nat} {bs : List Nat} (h : w.ownsRow B 101 1 (.slice (some ⟨g, 0, none⟩) n cap) n (ptrs bs)) (hn : n = bs.length) (hr : rest ≤ n) : w.ownsRow B 101 1 (.slice (some ⟨g, 0, none⟩) rest cap) rest (ptrs (bs.take rest)) := by
  subst hn
  refine ⟨by simp [ptrs]; omega, ?_⟩
  rcases h.2 with ⟨h1, _⟩ | ⟨g', cap', cur, h1, hg, hh, h2, h3, h4, h5⟩
  · cases h1
  · simp at h1
    obtain ⟨rfl, rfl⟩ := h1
    refine Or.inr ⟨g, cap, cur, rfl, hg, hh, by omega, h3, h4, ?_⟩
    have h6 := congrArg (List.take rest) h5
    rw [List.take_take] at h6
    simp only [Nat.mul_one] at h6 ⊢
    rw [Nat.min_eq_left hr] at h6
    rw [h6]
    simp [ptrs, List.map_take]
theorem own_high {w : World} {B g n cap rest : Nat} {bs : List Nat} (h : w.ownsRow B 101 1 (.slice (some ⟨g, 0, none⟩) n cap) n (ptrs bs)) (hn : n = bs.length) (hr : rest ≤ n) (hl : n ≤ 48) :
    PtrsAt w (Old w) (.slice (if cap = rest then some ⟨g, 0, none⟩ else some ⟨g, rest, none⟩) (n - rest) (cap - rest)) (bs.drop rest) := by
  subst hn
  have hlt := (h.lt g rfl).2
  refine ⟨by simp; omega, ?_⟩
  by_cases h0 : rest = bs.length
  · subst h0
    exact Or.inl ⟨by simp, (if cap = bs.length then some ⟨g, 0, none⟩ else some ⟨g, bs.length, none⟩), cap - bs.length, by simp⟩
  · have hc : rest < cap := by
      rcases h.2 with ⟨h1, _⟩ | ⟨g', cap', cur, h1, hg, hh, h2, _⟩
      · cases h1
      · simp at h1
        omega
    refine Or.inr ⟨g, rest, cap - rest, by rw [if_neg (by omega)]; simp, hlt, fun i b hb => ?_⟩
    have hcell := h.cells (g := g) rfl (rest + i) (ptr b) (by
      rw [List.getElem?_drop] at hb
      simp [ptrs, hb])
    rw [show ((⟨g, 0, none⟩ : Addr).add (rest + i)) = ⟨g, rest + i, none⟩ from by unfold Addr.add; split <;> simp_all] at hcell
    exact hcell
theorem trs_drop {w : World} {S : Nat → Prop} {l : List Tr} {ps : List Nat} (h : TrsAt w S l ps) (r : Nat) : TrsAt w S (l.drop r) (ps.drop r) :=
  ⟨by simp [h.1], fun i a p ha hp => h.2 (r + i) a p (by rw [List.getElem?_drop] at ha; exact ha) (by rw [List.getElem?_drop] at hp; exact hp)⟩
theorem trs_take {w : World} {S : Nat → Prop} {l : List Tr} {ps : List Nat} (h : TrsAt w S l ps) (r : Nat) : TrsAt w S (l.take r) (ps.take r) :=
  ⟨by simp [h.1], fun i a p ha hp => h.2 i a p (by rw [List.getElem?_take] at ha; split at ha; exact ha; cases ha) (by rw [List.getElem?_take] at hp; split at hp; exact hp; cases hp)⟩
theorem trs_snoc {w : World} {S : Nat → Prop} {l : List Tr} {ps : List Nat} {a : Tr} {p : Nat} (h : TrsAt w S l ps) (ha : TrAt w S a p) : TrsAt w S (l ++ [a]) (ps ++ [p]) := by
  refine ⟨by simp [h.1], fun i c q hc hq => ?_⟩
  have hl := h.1
  by_cases hi : i < l.length
  · rw [List.getElem?_append_left hi] at hc
    rw [List.getElem?_append_left (by omega)] at hq
    exact h.2 i c q hc hq
  · rw [List.getElem?_append_right (by omega)] at hc hq
    rw [hl] at hc
    generalize i - ps.length = j at hc hq
    match j, hc, hq with
    | 0, hc, hq =>
      simp at hc hq
      subst hc hq
      exact ha
    | j + 1, hc, hq => simp at hq
theorem pile_next {w3 w7 : World} {v v0 v7 : Value} {o : Obj} {l : List Tr} {ps : List Nat} (ht : TrsAt w3 (OldBut w3 v) l ps) (grow : (w3.alloc o).grownBy w7 v0.ownBlock) (hat : v7.ownBlock = v0.ownBlock ∨ v7.ownBlock = some (w3.heap.size + 1)) (hvb : v0.ownBlock = v.ownBlock) : TrsAt w7 (OldBut w7 v7) l ps := by
  have hs := grow.size
  rw [show (w3.alloc o).heap.size = w3.heap.size + 1 from by simp] at hs
  refine TrsAt.frame (fun k hk => ⟨by omega, ?_⟩) (fun k hk => ?_) ht
  · rcases hat with h | h
    · rw [h, hvb]
      exact hk.2
    · rw [h]
      intro e
      have := Option.some.inj e
      omega
  · rw [grow.block k (by simp; omega) (by rw [hvb]; exact hk.2)]
    exact Below.heap_alloc _ _ _ hk.1
theorem PtrsAt.shape {w : World} {S : Nat → Prop} {v : Value} {bs : List Nat} (h : PtrsAt w S v bs) : ∃ (a : Option Addr) (cap : Nat), v = .slice a bs.length cap := by
  rcases h.2 with ⟨rfl, a, cap, h⟩ | ⟨g, off, cap, h, _⟩
  · exact ⟨a, cap, h⟩
  · exact ⟨_, cap, h⟩
theorem size_le_sizes {l : List Tr} {a : Tr} (h : a ∈ l) : a.size ≤ sizes l := by
  induction l with
  | nil => cases h
  | cons b l ih =>
    simp only [sizes]
    rcases List.mem_cons.1 h with rfl | h
    · omega
    · have := ih h
      omega
/-- parts of which one is of another kind -/
theorem nodeOver_mixed (op n : Int) (l : List Tr) (ps : List Nat) (v : Value) (w : World) (S : Nat → Prop) (hS : ∀ k, S k → k < w.heap.size) (hv : PtrsAt w (Old w) v ps)
    (ht : TrsAt w S l ps) (hm : manyOf op = l.length) (hk : ¬ (¬ ownOf op = 0 ∧ ∀ q ∈ l, q.kind = partOf op)) (hsz : sizes l ≤ 1000000) :
    Calls Tryd.prog 147 #[.agg #[.int .i64 op, .int .u64 n], v] w fun e w' => e = .returned (.pointer none) ∧ Below w.heap.size w w' := by
  by_cases h0 : ownOf op = 0
  · obtain ⟨a, cap, rfl⟩ := hv.shape
    exact nodeOver_shape op n a _ cap hv.1 (Or.inl h0) w
  · have hbad : ¬ ∀ q ∈ l, q.kind = partOf op := fun h => hk ⟨h0, h⟩
    obtain ⟨a, cap, hsh⟩ := hv.shape
    have hzl : (((ps.zip l).map some : List (Option (Nat × Tr)))).length = ps.length := by
      have := ht.1
      simp
      omega
    rw [hsh, ← hzl]
    refine nodeOver_bad op n ((ps.zip l).map some) a cap w h0 (by rw [hzl, hm, ht.1]) ?_ ?_ ?_
    · intro i q hq
      rw [List.getElem?_map, Option.map_eq_some_iff] at hq
      obtain ⟨⟨b, c⟩, hbc, rfl⟩ := hq
      obtain ⟨hb, hc⟩ := List.getElem?_zip_eq_some.1 hbc
      rcases hv.2 with ⟨rfl, _⟩ | ⟨g, off, cap', h, hg, hcell⟩
      · simp at hb
      · rw [hsh] at h
        simp at h
        exact ⟨g, off, h.1, hg, hcell i b hb⟩
    · intro b c hbc
      obtain ⟨x, hx, he⟩ := List.mem_map.1 hbc
      obtain rfl := Option.some.inj he
      obtain ⟨i, hi⟩ := List.mem_iff_getElem?.1 hx
      obtain ⟨hb, hc⟩ := List.getElem?_zip_eq_some.1 hi
      refine ⟨TrAt.frame (fun k hk => hS k hk) (fun _ _ => rfl) (ht.2 i c b hc hb), ?_⟩
      have h9 : c.size ≤ sizes l := size_le_sizes (List.mem_of_getElem? hc)
      omega
    · intro hall
      refine hbad (fun q hq => ?_)
      obtain ⟨i, hi⟩ := List.mem_iff_getElem?.1 hq
      have hil := (List.getElem?_eq_some_iff.1 hi).1
      obtain ⟨b, hb⟩ : ∃ b, ps[i]? = some b := ⟨ps[i]'(by have := ht.1; omega), List.getElem?_eq_getElem _⟩
      have hz : (ps.zip l)[i]? = some (b, q) := List.getElem?_zip_eq_some.2 ⟨hb, hi⟩
      obtain ⟨b', a', he, hk'⟩ := hall (some (b, q)) (List.mem_map.2 ⟨(b, q), List.mem_of_getElem? hz, rfl⟩)
      simp at he
      rw [he.2]
      exact hk'
theorem sizes_flat (l : List Tr) : sizes l = (l.flatMap Tr.flat).length := by
  induction l with
  | nil => rfl
  | cons a l ih => simp [sizes, ih, Tr.flat_len]
theorem pile_sizes {k vars : Int} {t : List Nd} {j : Nat} {p : List (Ent Tr)} (h : pileT k vars t j = some p) : sizes (p.reverse.map Ent.val) ≤ t.length := by
  have h2 := (pileT_ok j p h).2
  rw [sizes_flat, List.flatMap_map, h2]
  simp
  omega
theorem pile_end {k : Nat} {vars : Int} {t : List Nd} {p : List (Ent Tr)} (hk1 : 1 ≤ k) (hk : k ≤ 64) (hv : 1 ≤ vars) (hv4 : vars ≤ 4) (hl : t.length ≤ 48) (h : pileT k vars t t.length = some p) :
    (p.length ≠ 1 → kindL k vars t = 0) ∧ ∀ e, p = [e] → pileT k vars t t.length = some [⟨0, e.val.kind, e.val⟩] := by
  have hf := foldK_of_pileT h
  rw [List.take_length] at hf
  by_cases h1 : 1 ≤ t.length
  · have hg : wideB k = true ∧ 1 ≤ vars ∧ vars ≤ 4 ∧ 1 ≤ t.length ∧ t.length ≤ 48 := ⟨decide_eq_true (by omega), hv, hv4, h1, hl⟩
    have he := kind_end hg (by rw [List.take_length]; exact hf)
    constructor
    · intro hp
      rw [he]
      unfold root1
      rw [if_neg (by simpa using hp)]
    · rintro e rfl
      obtain ⟨k1, k2⟩ := (pileT_ok _ _ h).1 e (by simp)
      have hpos : 0 < kindL k vars t := by
        rw [he]
        have := Tr.kind_pos k1
        simp [root1]
        omega
      obtain ⟨_, _, _, _, _, r, hr, _⟩ := root_tree hpos
      rw [hr]
      have e1 : pileT k vars t t.length = some [e] := h
      rw [hr] at e1
      simp at e1
      subst e1
      rfl
  · have h0 : t = [] := List.length_eq_zero_iff.1 (by omega)
    subst h0
    simp [pileE] at h
    subst h
    constructor
    · intro _
      exact kind_out (by simp)
    · intro e he
      cases he
set_option maxRecDepth 100000 in
set_option maxHeartbeats 4000000 in
theorem rootOf_in (k : Nat) (vars : Int) (b off cap : Nat) (t : List Nd) (hk1 : 1 ≤ k) (hk : k ≤ 64) (hv : 1 ≤ vars) (hv4 : vars ≤ 4) (hl : t.length ≤ 48) (hok : ∀ x ∈ t, NdOk x) (w : World) (hT : Tab w) (hlt : b < w.heap.size)
    (hc : ∀ (i : Nat) (x : Nd), t[i]? = some x → w.cell? ⟨b, off + i * 2, none⟩ = some (.int .i64 x.1) ∧ w.cell? ⟨b, off + i * 2 + 1, none⟩ = some (.int .u64 x.2)) :
    Calls Tryd.prog 128 #[.int .i64 k, .int .i64 vars, .slice (some ⟨b, off, none⟩) t.length cap] w fun e w' => Below w.heap.size w w' ∧
      ((kindL k vars t = 0 ∧ e = .returned (.pointer none)) ∨ ∃ (r : Tr) (p : Nat), pileT k vars t t.length = some [⟨0, r.kind, r⟩] ∧ e = .returned (ptr p) ∧ TrAt w' (Old w') r p) := by
  have hw : wideB k = true := decide_eq_true (by omega)
  have g1 := goodWide_any k w
  rw [hw] at g1
  have g2 := goodVars_yes vars ⟨hv, hv4⟩ w
  clear hw
  obtain ⟨i0, hi, hz0, hz1, hz2⟩ := info_parts infoPtr
  go_enter Tryd.func128, Tryd.ntmps128
  go_wp2_with fail
  refine g1.mono ?_
  rintro e w' ⟨rfl, rfl⟩
  clear g1
  go_wp2_with fail
  refine g2.mono ?_
  rintro e w' ⟨rfl, rfl⟩
  clear g2
  go_wp2_with fail
  have HC : Hid _ := hc
  have HOK : Hid _ := hok
  have HT : Hid (Tab w') := hT
  clear hc hok hT
  go_loopw [7, 30] (fun v i wr => ∃ (j : Nat) (p : List (Ent Tr)) (bs : List Nat), j ≤ t.length ∧ i = .int .i64 j ∧ Hid (pileT k vars t j = some p) ∧ Hid (wr.ownsRow w'.heap.size 101 1 v bs.length (ptrs bs)) ∧ Hid (TrsAt wr (OldBut wr v) (p.reverse.map Ent.val) bs) ∧ Hid (Below w'.heap.size w' wr)) (fun _ i _ => t.length - (intOf i).toNat)
  case atStart => exact ⟨0, [], [], by omega, rfl, rfl, World.ownsRow_nil _ _ _ _, ⟨rfl, fun i a p ha _ => by simp at ha⟩, Below.refl _ _⟩
  case round =>
    obtain ⟨j, p, bs, hj, rfl, HF, HO, HS, HB⟩ := hrel
    have hpl : p.length = bs.length := by
      have := HS.out.1
      simpa using this
    by_cases hlt' : j < t.length
    · obtain ⟨⟨op, n⟩, hx⟩ : ∃ x, t[j]? = some x := ⟨t[j], List.getElem?_eq_getElem hlt'⟩
      obtain ⟨ho0, ho1, hn0, hn1⟩ := HOK.out (op, n) (List.mem_of_getElem? hx)
      simp only at ho0 ho1 hn0 hn1
      obtain ⟨c0, c1⟩ := HC.out j (op, n) hx
      rw [← HB.out.cell (p := ⟨b, off + j * 2, none⟩) hlt] at c0
      rw [← HB.out.cell (p := ⟨b, off + j * 2 + 1, none⟩) hlt] at c1
      simp only at c0 c1
      have HX : Hid (t[j]? = some (op, n)) := hx
      have hb1 : Below w'.heap.size w' (wr.alloc (.cells #[.int .i64 op, .int .u64 n] 159)) := HB.out.alloc HB.out.size _
      have g1 := shapeOf_any op (wr.alloc (.cells #[.int .i64 op, .int .u64 n] 159))
      have g2 := goodN_any k vars op n (by omega) (by omega) hn0 hn1 (wr.alloc (.cells #[.int .i64 op, .int .u64 n] 159)) (HT.out.below hb1 HT.out.some)
      have HBa : Hid (Below w'.heap.size w' (wr.alloc (.cells #[.int .i64 op, .int .u64 n] 159))) := hb1
      have hpj : bs.length ≤ 48 := by
        have h1 := foldK_of_pileT HF.out
        have h2 := foldK_len _ _ _ h1
        simp at h2
        omega
      have hml := manyOf_le op
      have HPL : Hid (p.length = bs.length) := hpl
      obtain ⟨ad, cp, hv7⟩ := own_shape HO.out
      clear hx hb1 hpl
      cases z2 : okN k vars op n with
      | false =>
        have HK : Hid (kindL k vars t = 0) := kind_stop HX.out (foldK_of_pileT HF.out) (step_num z2)
        rw [z2] at g2
        clear z2
        generalize ownOf op = o at *
        generalize manyOf op = m at *
        generalize wantOf op = q at *
        subst hv7
        go_wp2_with fail
        refine g1.mono ?_
        rintro e w2 ⟨rfl, rfl⟩
        clear g1
        go_wp2_with fail
        refine g2.mono ?_
        rintro e w2 ⟨rfl, hb2⟩
        clear g2
        have HB2 : Hid (Below w'.heap.size w' w2) := HBa.out.trans (hb2.mono HBa.out.size)
        clear hb2
        go_wp2_with fail
        go_ret
        exact ⟨HB2.out, Or.inl ⟨HK.out, rfl⟩⟩
      | true =>
        rw [z2] at g2
        by_cases z3 : bs.length < manyOf op
        · have HK : Hid (kindL k vars t = 0) := kind_stop HX.out (foldK_of_pileT HF.out) (step_few (by have := HPL.out; simp; omega))
          clear z2
          generalize ownOf op = o at *
          generalize manyOf op = m at *
          generalize wantOf op = q at *
          subst hv7
          go_wp2_with fail
          refine g1.mono ?_
          rintro e w2 ⟨rfl, rfl⟩
          clear g1
          go_wp2_with fail
          refine g2.mono ?_
          rintro e w2 ⟨rfl, hb2⟩
          clear g2
          have HB2 : Hid (Below w'.heap.size w' w2) := HBa.out.trans (hb2.mono HBa.out.size)
          clear hb2
          go_wp2_with fail
          go_ret
          exact ⟨HB2.out, Or.inl ⟨HK.out, rfl⟩⟩
        · subst hv7
          obtain ⟨m, hmm⟩ : ∃ m, m = manyOf op := ⟨_, rfl⟩
          rw [← hmm] at g1 z3 hml
          have HMM : Hid (m = manyOf op) := hmm
          clear hmm
          generalize hqq : wantOf op = q at g1
          generalize hoo : ownOf op = o at g1
          go_wp2_with fail
          refine g1.mono ?_
          rintro e w2 ⟨rfl, rfl⟩
          clear g1
          go_wp2_with fail
          refine g2.mono ?_
          rintro e w2 ⟨rfl, hb2⟩
          clear g2
          have HB2 : Hid (Below w'.heap.size w' w2) := HBa.out.trans (hb2.mono HBa.out.size)
          have e0 : w2.cell? ⟨wr.heap.size, 0, none⟩ = some (.int .i64 op) := by
            rw [hb2.cell (p := ⟨wr.heap.size, 0, none⟩) (by simp)]
            simp
          have e1 : w2.cell? ⟨wr.heap.size, 1, none⟩ = some (.int .u64 n) := by
            rw [hb2.cell (p := ⟨wr.heap.size, 1, none⟩) (by simp)]
            simp
          obtain ⟨rest, hrest⟩ : ∃ rest : Nat, (bs.length : Int) - (m : Int) = (rest : Int) := ⟨bs.length - m, by omega⟩
          have hr1 : rest ≤ bs.length := by omega
          have HR : Hid (rest + m = bs.length) := (by omega : rest + m = bs.length)
          go_wp2_with fail
          clear hrest
          have hp1 : Hid (TrsAt w2 (OldBut w2 (.slice ad bs.length cp)) (p.reverse.map Ent.val) bs ∧ w2.ownsRow w'.heap.size 101 1 (.slice ad bs.length cp) bs.length (ptrs bs)) := by
            have hba : Below wr.heap.size wr w2 := ((Below.refl _ _).alloc (Nat.le_refl _) _).trans (hb2.mono (by simp))
            exact ⟨TrsAt.frame (fun k hk => ⟨Nat.lt_of_lt_of_le hk.1 hba.size, hk.2⟩) (fun k hk => hba.block k hk.1) HS.out, owns_below HO.out hba⟩
          have HLP : Hid ((p.reverse.map Ent.val).drop rest = (p.take m).reverse.map Ent.val ∧ (p.reverse.map Ent.val).take rest = (p.drop m).reverse.map Ent.val) := by
            have h1 := HPL.out
            have h2 := HR.out
            constructor
            · rw [← List.map_drop, List.drop_reverse, show p.length - rest = m from by omega]
            · rw [← List.map_take, List.take_reverse, show p.length - rest = m from by omega]
          by_cases hgood : ¬ ownOf op = 0 ∧ ∀ e ∈ p.take m, e.kind = partOf op
          · obtain ⟨a0, hst⟩ := step_tree (j := j) (k := k) (vars := vars) (x := (op, n)) (p := p) hgood.1 z2 (by have := HMM.out; have := HPL.out; have := HR.out; simp only; omega) (by rw [show manyOf (op, n).1 = m from HMM.out.symm]; exact hgood.2)
            have HF2 : Hid (pileT k vars t (j + 1) = some (⟨a0, ownOf op, Tr.over (op, n) ((p.take m).reverse.map Ent.val)⟩ :: p.drop m)) := by
              show pileE k vars Tr.leaf Tr.one Tr.two t (j + 1) = _
              rw [pileE, show pileE k vars Tr.leaf Tr.one Tr.two t j = some p from HF.out, HX.out]
              simp only [Option.bind_some]
              rw [hst, ← show m = manyOf (op, n).1 from HMM.out]
            have GE : Hid (∀ (sl : Value) (w1 : World), PtrsAt w1 (Old w1) sl (bs.drop rest) → Below w2.heap.size w2 w1 → Calls Tryd.prog 147 #[.agg #[.int .i64 op, .int .u64 n], sl] w1 fun e w3 => ∃ pb, e = .returned (ptr pb) ∧
                TrsAt w3 (OldBut w3 (.slice ad bs.length cp)) ((p.drop m).reverse.map Ent.val ++ [Tr.over (op, n) ((p.take m).reverse.map Ent.val)]) (bs.take rest ++ [pb]) ∧ w3.ownsRow w'.heap.size 101 1 (.slice ad bs.length cp) bs.length (ptrs bs) ∧ Below w'.heap.size w' w3) := by
              intro sl w1 hsl hb3
              obtain ⟨h1, h2⟩ := hp1.out
              have h1' : TrsAt w1 (OldBut w1 (.slice ad bs.length cp)) (p.reverse.map Ent.val) bs := TrsAt.frame (fun k hk => ⟨Nat.lt_of_lt_of_le hk.1 hb3.size, hk.2⟩) (fun k hk => hb3.block k hk.1) h1
              have h2' := owns_below h2 hb3
              have hd := trs_drop h1' rest
              rw [HLP.out.1] at hd
              have ht := trs_take h1' rest
              rw [HLP.out.2] at ht
              have hkk : ∀ q ∈ (p.take m).reverse.map Ent.val, q.kind = partOf op := by
                intro q hq
                obtain ⟨e, he, rfl⟩ := List.mem_map.1 hq
                have he' : e ∈ p.take m := by simpa using he
                rw [← ((pileT_ok j p HF.out).1 e (List.mem_of_mem_take he')).2]
                exact hgood.2 e he'
              have hsz : sizes ((p.take m).reverse.map Ent.val) ≤ 1000000 := by
                have h3 := pile_sizes HF.out
                have h4 := sizes_append ((p.reverse.map Ent.val).take rest) ((p.reverse.map Ent.val).drop rest)
                rw [List.take_append_drop, HLP.out.1] at h4
                omega
              refine (nodeOver_made op n _ (bs.drop rest) sl w1 (OldBut w1 (.slice ad bs.length cp)) (fun k hk => hk.1) hsl hd hgood.1 ?_ hkk hsz).mono ?_
              · rw [← HMM.out]
                have := HPL.out
                have := HR.out
                simp
                omega
              · rintro e w3 ⟨pb, he, htr, hb4⟩
                have hS : ∀ k, OldBut w1 (.slice ad bs.length cp) k → OldBut w3 (.slice ad bs.length cp) k := fun k hk => ⟨Nat.lt_of_lt_of_le hk.1 hb4.size, hk.2⟩
                refine ⟨pb, he, trs_snoc (TrsAt.frame hS (fun k hk => hb4.block k hk.1) ht) (TrAt.frame (fun k hk => ?_) (fun _ _ => rfl) htr), owns_below h2' hb4, HB2.out.trans ((hb3.trans (hb4.mono hb3.size)).mono HB2.out.size)⟩
                rcases hk with hk | ⟨hk1, hk2⟩
                · exact hS k hk
                · refine ⟨hk2, fun e => ?_⟩
                  have := (h2'.lt k e.symm).2
                  omega
            clear hgood hst HF
            have HSH : Hid _ := hp1.out.2
            have HN2 : Hid ((p.drop m).reverse.map Ent.val ++ [Tr.over (op, n) ((p.take m).reverse.map Ent.val)] = ((⟨a0, ownOf op, Tr.over (op, n) ((p.take m).reverse.map Ent.val)⟩ :: p.drop m).reverse.map Ent.val)) := by
              show _ = _
              simp
            generalize hNL : (p.drop m).reverse.map Ent.val ++ [Tr.over (op, n) ((p.take m).reverse.map Ent.val)] = NL at *
            generalize hNP : (⟨a0, ownOf op, Tr.over (op, n) ((p.take m).reverse.map Ent.val)⟩ :: p.drop m : List (Ent Tr)) = NP at *
            clear hNL hNP HLP
            rcases HO.out.2 with ⟨hnil, hb0⟩ | ⟨g, cap', cur, hv, hg, hh, hcap1, hcap2, hcap3, hcur⟩
            · have hbs : bs = [] := List.length_eq_zero_iff.1 hb0
              subst hbs
              obtain rfl : rest = 0 := by simp at hr1; exact hr1
              obtain ⟨rfl, rfl⟩ : ad = none ∧ cp = 0 := by
                simp at hnil
                exact hnil
              have GC := fun (w1 : World) (hb3 : Below w2.heap.size w2 w1) => GE.out (.slice none 0 0) w1 ⟨by simp, Or.inl ⟨rfl, none, 0, rfl⟩⟩ hb3
              have hd2 : Below w2.heap.size w2 w2.drew := (Below.refl _ _).drew
              clear hnil hb0 HO hr1 hp1 HSH GE HPL HS
              go_region_with (go_at_call 147; refine (GC _ hd2).mono ?_; rintro e w3 ⟨pb, rfl, ht3, ho3, hb3⟩; have HT3 : Hid _ := ht3; have HO3 : Hid _ := ho3; have HB3 : Hid _ := hb3; clear ht3 ho3 hb3)
              all_goals clear GC hd2
              all_goals
                have own1 : (w3.alloc (.cells #[ptr pb] 101)).ownsRow w'.heap.size 101 1 (.slice none 0 0) 0 [] := World.ownsRow_nil _ _ _ _
                have HBx : Hid (Below w'.heap.size w' (w3.alloc (.cells #[ptr pb] 101))) := HB3.out.alloc HB3.out.size _
                have cellsN := onePtr_cells w3 pb
                go_wp2_with (at_builtin; refine wpList_append_own_at _ rfl _ _ 177 rfl w'.heap.size 101 i0 (.pointer none) 1 8 Tryd.underlying177 hi hz0 hz1 hz2 rfl (by decide) _ _ _ rfl own1 ⟨w3.heap.size, 0, none⟩ 1 1 [ptr pb] rfl rfl cellsN (by intro u hu; simp at hu; subst hu; rfl) (by unfold maxLen; omega) (by omega) (by have h := HB3.out.size; simp; omega) ?_)
                intro v7 w7 own7 grow7 _ hat7
                have HO7 : Hid (w7.ownsRow w'.heap.size 101 1 v7 ([pb] : List Nat).length (ptrs [pb])) := own7
                have HT7 : Hid (TrsAt w7 (OldBut w7 v7) (NP.reverse.map Ent.val) [pb]) := by
                  show TrsAt _ _ _ _
                  rw [← HN2.out]
                  exact pile_next HT3.out grow7 hat7 rfl
                have HB7 : Hid (Below w'.heap.size w' w7) := HBx.out.grown grow7 HBx.out.size (fun k hk => by cases hk)
                clear own1 own7 grow7 hat7 cellsN
                go_wp2_with fail
                go_roundw
                case rel => exact ⟨j + 1, NP, [pb], by omega, by go_num, HF2, HO7, HT7, HB7⟩
                case measure => simp [intOf]; omega
            · obtain ⟨rfl, rfl⟩ : ad = some ⟨g, 0, none⟩ ∧ cap' = cp := by
                simp at hv
                exact ⟨hv.1, hv.2.symm⟩
              have hcap2' : cap' ≤ 9223372036854775807 := hcap2
              have GC := fun (w1 : World) (hb3 : Below w2.heap.size w2 w1) => GE.out _ w1 (own_high (owns_below HSH.out hb3) rfl hr1 hpj) hb3
              obtain ⟨asl, hasl⟩ : ∃ asl, (if cap' = rest then some (⟨g, 0, none⟩ : Addr) else some ⟨g, rest, none⟩) = asl := ⟨_, rfl⟩
              rw [hasl] at GC
              have hd2 : Below w2.heap.size w2 w2.drew := (Below.refl _ _).drew
              have HG0 : Hid (w'.heap.size ≤ g) := hg
              clear hv hcur hcap2 hh HO hg hp1 HSH GE HPL HS
              go_region_with (go_at_call 147; refine (GC _ hd2).mono ?_; rintro e w3 ⟨pb, rfl, ht3, ho3, hb3⟩; have HT3 : Hid _ := ht3; have HO3 : Hid _ := ho3; have HB3 : Hid _ := hb3; clear ht3 ho3 hb3)
              all_goals clear GC hd2 hasl
              all_goals
                have own1 := (own_low HO3.out rfl hr1).alloc (.cells #[ptr pb] 101)
                have HLX : Hid (ptrs (bs.take rest) ++ [ptr pb] = ptrs (bs.take rest ++ [pb]) ∧ rest + 1 = (bs.take rest ++ [pb]).length) := by
                  constructor
                  · simp [ptrs]
                  · simp
                    omega
                generalize ptrs (bs.take rest) = xs0 at own1 HLX
                generalize bs.take rest ++ [pb] = NB at *
                have HBx : Hid (Below w'.heap.size w' (w3.alloc (.cells #[ptr pb] 101))) := HB3.out.alloc HB3.out.size _
                have cellsN := onePtr_cells w3 pb
                go_wp2_with (at_builtin; refine wpList_append_own_at _ rfl _ _ 177 rfl w'.heap.size 101 i0 (.pointer none) 1 8 Tryd.underlying177 hi hz0 hz1 hz2 rfl (by decide) _ _ _ rfl own1 ⟨w3.heap.size, 0, none⟩ 1 1 [ptr pb] rfl rfl cellsN (by intro u hu; simp at hu; subst hu; rfl) (by unfold maxLen; omega) (by omega) (by have h := HB3.out.size; simp; omega) ?_)
                intro v7 w7 own7 grow7 _ hat7
                have HO7 : Hid (w7.ownsRow w'.heap.size 101 1 v7 NB.length (ptrs NB)) := by
                  show World.ownsRow _ _ _ _ _ _ _
                  rw [← HLX.out.1, ← HLX.out.2]
                  exact own7
                have HT7 : Hid (TrsAt w7 (OldBut w7 v7) (NP.reverse.map Ent.val) NB) := by
                  show TrsAt _ _ _ _
                  rw [← HN2.out]
                  exact pile_next HT3.out grow7 hat7 rfl
                have HB7 : Hid (Below w'.heap.size w' w7) := HBx.out.grown grow7 HBx.out.size (fun k hk => by
                  have e : g = k := Option.some.inj hk
                  rw [← e]
                  exact HG0.out)
                clear own1 own7 grow7 hat7 cellsN
                go_wp2_with fail
                go_roundw
                case rel => exact ⟨j + 1, NP, NB, by omega, by go_num, HF2, HO7, HT7, HB7⟩
                case measure => simp [intOf]; omega
          · have HK : Hid (kindL k vars t = 0) := by
              show _ = _
              by_cases h0 : ownOf op = 0
              · exact kind_stop HX.out (foldK_of_pileT HF.out) (step_own h0)
              · refine kind_stop HX.out (foldK_of_pileT HF.out) (step_kind (x := (op, n)) (by have := HMM.out; have := HPL.out; have := HR.out; simp only; omega) ?_)
                rw [show manyOf (op, n).1 = m from HMM.out.symm]
                refine Classical.byContradiction fun hne => hgood ⟨h0, fun e he => Classical.byContradiction fun hk' => hne ⟨e, he, hk'⟩⟩
            have GE : Hid (∀ (sl : Value) (w1 : World), PtrsAt w1 (Old w1) sl (bs.drop rest) → Below w2.heap.size w2 w1 → Calls Tryd.prog 147 #[.agg #[.int .i64 op, .int .u64 n], sl] w1 fun e w3 => e = .returned (.pointer none) ∧ Below w'.heap.size w' w3) := by
              intro sl w1 hsl hb3
              obtain ⟨h1, h2⟩ := hp1.out
              have h1' : TrsAt w1 (OldBut w1 (.slice ad bs.length cp)) (p.reverse.map Ent.val) bs := TrsAt.frame (fun k hk => ⟨Nat.lt_of_lt_of_le hk.1 hb3.size, hk.2⟩) (fun k hk => hb3.block k hk.1) h1
              have hd := trs_drop h1' rest
              rw [HLP.out.1] at hd
              have hsz : sizes ((p.take m).reverse.map Ent.val) ≤ 1000000 := by
                have h3 := pile_sizes HF.out
                have h4 := sizes_append ((p.reverse.map Ent.val).take rest) ((p.reverse.map Ent.val).drop rest)
                rw [List.take_append_drop, HLP.out.1] at h4
                omega
              refine (nodeOver_mixed op n _ (bs.drop rest) sl w1 (OldBut w1 (.slice ad bs.length cp)) (fun k hk => hk.1) hsl hd ?_ ?_ hsz).mono ?_
              · rw [← HMM.out]
                have := HPL.out
                have := HR.out
                simp
                omega
              · rintro ⟨h0, hall⟩
                refine hgood ⟨h0, fun e he => ?_⟩
                rw [((pileT_ok j p HF.out).1 e (List.mem_of_mem_take he)).2]
                exact hall e.val (List.mem_map.2 ⟨e, by simpa using he, rfl⟩)
              · rintro e w3 ⟨he, hb4⟩
                exact ⟨he, HB2.out.trans ((hb3.trans (hb4.mono hb3.size)).mono HB2.out.size)⟩
            clear hgood HF HLP
            have HSH : Hid _ := hp1.out.2
            rcases HO.out.2 with ⟨hnil, hb0⟩ | ⟨g, cap', cur, hv, hg, hh, hcap1, hcap2, hcap3, hcur⟩
            · have hbs : bs = [] := List.length_eq_zero_iff.1 hb0
              subst hbs
              obtain rfl : rest = 0 := by simp at hr1; exact hr1
              obtain ⟨rfl, rfl⟩ : ad = none ∧ cp = 0 := by
                simp at hnil
                exact hnil
              have GC := fun (w1 : World) (hb3 : Below w2.heap.size w2 w1) => GE.out (.slice none 0 0) w1 ⟨by simp, Or.inl ⟨rfl, none, 0, rfl⟩⟩ hb3
              have hd2 : Below w2.heap.size w2 w2.drew := (Below.refl _ _).drew
              clear hnil hb0 HO hr1 hp1 HSH GE HPL HS
              go_region_with (go_at_call 147; refine (GC _ hd2).mono ?_; rintro e w3 ⟨rfl, hb3⟩; have HB3 : Hid _ := hb3; clear hb3)
              all_goals clear GC hd2
              all_goals
                go_wp2_with fail
                go_ret
                exact ⟨HB3.out, Or.inl ⟨HK.out, rfl⟩⟩
            · obtain ⟨rfl, rfl⟩ : ad = some ⟨g, 0, none⟩ ∧ cap' = cp := by
                simp at hv
                exact ⟨hv.1, hv.2.symm⟩
              have hcap2' : cap' ≤ 9223372036854775807 := hcap2
              have GC := fun (w1 : World) (hb3 : Below w2.heap.size w2 w1) => GE.out _ w1 (own_high (owns_below HSH.out hb3) rfl hr1 hpj) hb3
              obtain ⟨asl, hasl⟩ : ∃ asl, (if cap' = rest then some (⟨g, 0, none⟩ : Addr) else some ⟨g, rest, none⟩) = asl := ⟨_, rfl⟩
              rw [hasl] at GC
              have hd2 : Below w2.heap.size w2 w2.drew := (Below.refl _ _).drew
              clear hv hcur hcap2 hh HO hg hp1 HSH GE HPL HS
              go_region_with (go_at_call 147; refine (GC _ hd2).mono ?_; rintro e w3 ⟨rfl, hb3⟩; have HB3 : Hid _ := hb3; clear hb3)
              all_goals clear GC hd2 hasl
              all_goals
                go_wp2_with fail
                go_ret
                exact ⟨HB3.out, Or.inl ⟨HK.out, rfl⟩⟩
    · obtain rfl : j = t.length := by omega
      have HE := pile_end hk1 hk hv hv4 hl HF.out
      obtain ⟨ad, cp, hv7⟩ := own_shape HO.out
      by_cases h1 : bs.length = 1
      · obtain ⟨b0, rfl⟩ := List.length_eq_one_iff.1 h1
        obtain ⟨e0, rfl⟩ : ∃ e0, p = [e0] := List.length_eq_one_iff.1 hpl
        have hr := HE.2 e0 rfl
        have htr : TrAt wr (Old wr) e0.val b0 := TrAt.frame (fun k hk => hk.1) (fun _ _ => rfl) (HS.out.2 0 e0.val b0 rfl rfl)
        rcases HO.out.2 with ⟨_, hb0⟩ | ⟨g, cap', cur, hv, hg, hh, _⟩
        · simp at hb0
        have hcell := HO.out.cells (g := g) (by rw [hv]; rfl) 0 (ptr b0) rfl
        have hcell' : wr.cell? ⟨g, 0, none⟩ = some (ptr b0) := hcell
        have HR : Hid (Below w'.heap.size w' wr ∧ ∃ r : Tr, pileT k vars t t.length = some [⟨0, r.kind, r⟩] ∧ TrAt wr (Old wr) r b0) := ⟨HB.out, e0.val, hr, htr⟩
        clear hcell hr htr HE hh HO HS HF HB hv7
        subst hv
        go_wp2_with fail
        go_ret
        obtain ⟨h1, r, h2, h4⟩ := HR.out
        exact ⟨h1, Or.inr ⟨r, b0, h2, rfl, h4⟩⟩
      · have HK : Hid (kindL k vars t = 0) := HE.1 (by omega)
        have hne : ((bs.length : Int) != 1) = true := bne_iff_ne.2 (by omega)
        have hb48 : bs.length ≤ 48 := by
          have h1 := foldK_of_pileT HF.out
          have h2 := foldK_len _ _ _ h1
          simp at h2
          omega
        clear HE HF HS HO
        subst hv7
        go_wp2_with fail
        go_ret
        exact ⟨HB.out, Or.inl ⟨HK.out, rfl⟩⟩
theorem kindL_zero {wide vars : Int} {t : List Nd} (h : ¬ 0 < kindL wide vars t) : kindL wide vars t = 0 := by
  have h0 : kindL wide vars t = 0 ∨ 0 < kindL wide vars t := by
    by_cases hg : wideB wide = true ∧ 1 ≤ vars ∧ vars ≤ 4 ∧ 1 ≤ t.length ∧ t.length ≤ 48
    · cases hf : foldK wide vars t [] with
      | none => exact Or.inl (kind_none hf)
      | some q =>
        obtain ⟨p, hp, hq⟩ := pileE_kinds wide vars Tr.leaf Tr.one Tr.two t t.length q (Nat.le_refl _) (by rw [List.take_length]; exact hf)
        rw [kind_end hg (by rw [List.take_length]; exact hf)]
        unfold root1
        split
        · rename_i h1
          right
          obtain ⟨e, rfl⟩ : ∃ e, p = [e] := List.length_eq_one_iff.1 (by rw [← hq] at h1; simpa using h1)
          obtain ⟨k1, k2⟩ := (pileT_ok _ _ hp).1 e (by simp)
          have := Tr.kind_pos k1
          rw [← hq]
          simp
          omega
        · exact Or.inl rfl
    · exact Or.inl (kind_out hg)
  omega
/-- the root of a term that is not good: none -/
theorem rootOf_no (wide vars : Int) (v : Value) (t : List Nd) (w : World) (hT : Tab w) (h : NodesAt w v t) (hk : ¬ 0 < kindL wide vars t) :
    Calls Tryd.prog 128 #[.int .i64 wide, .int .i64 vars, v] w fun e w' => e = .returned (.pointer none) ∧ Below w.heap.size w w' := by
  by_cases hg : wideB wide = true ∧ 1 ≤ vars ∧ vars ≤ 4 ∧ t.length ≤ 48
  · obtain ⟨h1, h2, h3, h4⟩ := hg
    obtain ⟨k, rfl, hk1, hk64⟩ := wideB_true h1
    obtain ⟨hok, hlen, hN⟩ := h
    rcases hN with ⟨rfl, a, cap, rfl⟩ | ⟨b, off, cap, rfl, hlt, hc⟩
    · have g := rootOf_nil k vars a cap h1 ⟨h2, h3⟩ w
      refine g.mono ?_
      rintro e w' ⟨he, rfl⟩
      exact ⟨he, Below.refl _ _⟩
    · refine (rootOf_in k vars b off cap t hk1 hk64 h2 h3 h4 hok w hT hlt hc).mono ?_
      rintro e w' ⟨hb, ⟨_, he⟩ | ⟨r, p, hr, _⟩⟩
      · exact ⟨he, hb⟩
      · exfalso
        have hf := foldK_of_pileT hr
        have hl1 : 1 ≤ t.length := by
          by_cases h0 : 1 ≤ t.length
          · exact h0
          · obtain rfl : t = [] := List.length_eq_zero_iff.1 (by omega)
            simp [pileE] at hr
        have he := kind_end ⟨h1, h2, h3, hl1, h4⟩ hf
        have hkp : r.kind = 1 ∨ r.kind = 2 := Tr.kind_pos ((pileT_ok _ _ hr).1 _ (List.mem_singleton.2 rfl)).1
        simp [root1] at he
        omega
  · obtain ⟨a, cap, rfl⟩ := h.shape
    refine (rootOf_out wide vars a t.length cap h.2.1 hg w).mono ?_
    rintro e w' ⟨he, rfl⟩
    exact ⟨he, Below.refl _ _⟩
theorem rootOf_yes (wide vars : Int) (v : Value) (t : List Nd) (w : World) (hT : Tab w) (h : NodesAt w v t) (r : Tr) (hk : 0 < kindL wide vars t) (hr : pileT wide vars t t.length = some [⟨0, r.kind, r⟩]) :
    Calls Tryd.prog 128 #[.int .i64 wide, .int .i64 vars, v] w fun e w' => ∃ p, e = .returned (ptr p) ∧ TrAt w' (Old w') r p ∧ Below w.heap.size w w' := by
  obtain ⟨h1, h2, h3, h4, h5, _⟩ := root_tree hk
  obtain ⟨k, rfl, hk1, hk64⟩ := wideB_true h1
  obtain ⟨hok, hlen, hN⟩ := h
  rcases hN with ⟨rfl, _⟩ | ⟨b, off, cap, rfl, hlt, hc⟩
  · simp at h4
  refine (rootOf_in k vars b off cap t hk1 hk64 h2 h3 h5 hok w hT hlt hc).mono ?_
  rintro e w' ⟨hb, ⟨h0, _⟩ | ⟨r', p, hr', he, htr⟩⟩
  · omega
  · rw [hr] at hr'
    simp at hr'
    obtain rfl := hr'.2
    exact ⟨p, he, htr, hb⟩
end Go.Proofs.YtmhpnkfibecnmaaDoor

namespace Go.Proofs.YtmhpnkfibecnmaaDoor
open Go Go.RowKit
open M
set_option linter.unusedVariables false

theorem joinTerms_reads0 (wide vars op : Int) (a b : List Nd) (hwide0 : -9223372036854775808 ≤ wide) (hwide1 : wide ≤ 9223372036854775807) (hvars0 : -9223372036854775808 ≤ vars) (hvars1 : vars ≤ 9223372036854775807) (ho0 : -9223372036854775808 ≤ op) (ho1 : op ≤ 9223372036854775807) (hok : ∀ x ∈ a, NdOk x) (hl : a.length ≤ 1048576) (hokb : ∀ x ∈ b, NdOk x) (hlb : b.length ≤ 1048576) :
    ∀ (w1 : World) (B : Nat) (v1 : Value), OwnNodes w1 B v1 (joinL wide vars op a b) → NodesAt w1 v1 (joinL wide vars op a b) := by
  intro w1 B v1 ho
  refine nodes_of_own ?_ ?_ ho
  · intro x hx
    unfold joinL madeL at hx
    split at hx
    · split at hx
      · rcases List.mem_append.1 hx with h | h
        · rcases List.mem_append.1 h with h | h
          · exact hok x h
          · exact hokb x h
        · simp at h
          subst h
          exact ⟨ho0, ho1, by simp, by simp⟩
      · cases hx
    · cases hx
  · unfold joinL madeL
    split
    · split
      · simp
        omega
      · simp
    · simp
theorem joinTerms_len0 (wide vars op : Int) (a b : List Nd) : (joinL wide vars op a b).length ≤ a.length + b.length + 1 := by
  unfold joinL madeL
  split
  · split
    · simp
      omega
    · simp
  · simp
end Go.Proofs.YtmhpnkfibecnmaaDoor

namespace Go.Proofs.YtmhpnkfibecnmaaDoor
open Go Go.RowKit
open M
set_option linter.unusedVariables false

/-- all but a row is as it was, and the row is the old one or a new one -/
def Laid (w w' : World) (v v' : Value) : Prop := w.grownBy w' v.ownBlock ∧ (v'.ownBlock = v.ownBlock ∨ ∃ k, v'.ownBlock = some k ∧ w.heap.size ≤ k)
theorem Laid.refl (w : World) (v : Value) : Laid w w v v := ⟨⟨rfl, rfl, rfl, Nat.le_refl _, fun _ _ _ => rfl⟩, Or.inl rfl⟩
theorem Laid.apart {w w' : World} {v v' : Value} (h : Laid w w' v v') {k : Nat} (hk : OldBut w v k) : OldBut w' v' k ∧ w'.heap[k]? = w.heap[k]? := by
  refine ⟨⟨Nat.lt_of_lt_of_le hk.1 h.1.size, ?_⟩, h.1.block k hk.1 hk.2⟩
  rcases h.2 with e | ⟨g, e, hg⟩
  · rw [e]
    exact hk.2
  · rw [e]
    intro e2
    have := Option.some.inj e2
    have := hk.1
    omega
theorem Laid.trans {w w1 w2 : World} {v v1 v2 : Value} (h : Laid w w1 v v1) (h' : Laid w1 w2 v1 v2) : Laid w w2 v v2 := by
  refine ⟨⟨h'.1.os.trans h.1.os, h'.1.tape.trans h.1.tape, h'.1.output.trans h.1.output, Nat.le_trans h.1.size h'.1.size, fun k hk hne => ?_⟩, ?_⟩
  · have h1 := h.apart (k := k) ⟨hk, hne⟩
    rw [h'.1.block k h1.1.1 h1.1.2]
    exact h1.2
  · rcases h'.2 with e | ⟨g, e, hg⟩
    · rw [e]
      exact h.2
    · exact Or.inr ⟨g, e, Nat.le_trans h.1.size hg⟩
theorem Laid.tree {w w' : World} {v v' : Value} {t : Tr} {b : Nat} (h : Laid w w' v v') (ht : TrAt w (OldBut w v) t b) : TrAt w' (OldBut w' v') t b :=
  TrAt.frame (fun k hk => (h.apart hk).1) (fun k hk => (h.apart hk).2) ht
theorem flats_take {l : List Tr} {j : Nat} {a : Tr} (h : l[j]? = some a) : (l.take (j + 1)).flatMap Tr.flat = (l.take j).flatMap Tr.flat ++ a.flat := by
  rw [List.take_add_one, h, List.flatMap_append]
  simp
theorem PtrsAt.at {w : World} {S : Nat → Prop} {a : Option Addr} {n cap : Nat} {ps : List Nat} (h : PtrsAt w S (.slice a n cap) ps) {j p : Nat} (hp : ps[j]? = some p) : ∃ g off : Nat, a = some ⟨g, off, none⟩ ∧ S g ∧ w.cell? ⟨g, off + j, none⟩ = some (ptr p) := by
  rcases h.2 with ⟨rfl, _⟩ | ⟨g, off, cap', h1, h2, h3⟩
  · simp at hp
  · simp at h1
    exact ⟨g, off, h1.1, h2, h3 j p hp⟩
end Go.Proofs.YtmhpnkfibecnmaaDoor

namespace Go.Proofs.YtmhpnkfibecnmaaDoor
open Go Go.RowKit
open M
set_option linter.unusedVariables false

/-- parts that are not those that the op wants -/
theorem nodeOver_not (op n : Int) (qs : List (Option (Nat × Tr))) (g : Nat) (cap : Nat) (w : World) (hl : qs.length ≤ 48) (hg : g < w.heap.size)
    (hc : ∀ (i : Nat) (q : Option (Nat × Tr)), qs[i]? = some q → w.cell? ⟨g, i, none⟩ = some (pv q))
    (ht : ∀ (b : Nat) (a : Tr), some (b, a) ∈ qs → TrAt w (Old w) a b ∧ a.size ≤ 1000000)
    (hbad : ¬ (¬ ownOf op = 0 ∧ manyOf op = qs.length ∧ ∀ q ∈ qs, ∃ b a, q = some (b, a) ∧ a.kind = partOf op)) :
    Calls Tryd.prog 147 #[.agg #[.int .i64 op, .int .u64 n], .slice (some ⟨g, 0, none⟩) qs.length cap] w fun e w' => e = .returned (.pointer none) ∧ Below w.heap.size w w' := by
  by_cases h0 : ownOf op = 0 ∨ qs.length ≠ manyOf op
  · exact nodeOver_shape op n _ _ cap (by omega) h0 w
  · have h1 : ¬ ownOf op = 0 := fun e => h0 (Or.inl e)
    have h2 : manyOf op = qs.length := Classical.byContradiction fun e => h0 (Or.inr (fun e2 => e e2.symm))
    exact nodeOver_bad op n qs _ cap w h1 h2 (fun i q hq => ⟨g, 0, rfl, hg, by rw [Nat.zero_add]; exact hc i q hq⟩) ht (fun h => hbad ⟨h1, h2, h⟩)
/-- a root that may be none -/
def RootQ (wide vars : Int) (t : List Nd) (q : Option (Nat × Tr)) (w : World) : Prop :=
  match q with
  | none => ¬ 0 < kindL wide vars t
  | some (b, r) => 0 < kindL wide vars t ∧ pileT wide vars t t.length = some [⟨0, r.kind, r⟩] ∧ TrAt w (Old w) r b ∧ r.Ok wide vars ∧ r.flat = t ∧ r.kind = kindL wide vars t ∧ t.length ≤ 48 ∧ wideB wide = true ∧ 1 ≤ vars ∧ vars ≤ 4
theorem RootQ.below {wide vars : Int} {t : List Nd} {q : Option (Nat × Tr)} {w w' : World} (h : RootQ wide vars t q w) (hb : Below w.heap.size w w') : RootQ wide vars t q w' := by
  match q, h with
  | none, h => exact h
  | some (b, r), ⟨h1, h2, h3, h4⟩ => exact ⟨h1, h2, h3.below hb, h4⟩
theorem rootOf_q (wide vars : Int) (v : Value) (t : List Nd) (w : World) (hT : Tab w) (h : NodesAt w v t) :
    Calls Tryd.prog 128 #[.int .i64 wide, .int .i64 vars, v] w fun e w' => ∃ q, e = .returned (pv q) ∧ RootQ wide vars t q w' ∧ Below w.heap.size w w' := by
  by_cases hk : 0 < kindL wide vars t
  · obtain ⟨g1, g2, g3, g4, g5, r, hr, k1, k2, k3⟩ := root_tree hk
    refine (rootOf_yes wide vars v t w hT h r hk hr).mono ?_
    rintro e w' ⟨p, he, htr, hb⟩
    exact ⟨some (p, r), he, ⟨hk, hr, htr, k1, k2, k3, g5, g1, g2, g3⟩, hb⟩
  · refine (rootOf_no wide vars v t w hT h hk).mono ?_
    rintro e w' ⟨he, hb⟩
    exact ⟨none, he, hk, hb⟩
theorem RootQ.tree {wide vars : Int} {t : List Nd} {q : Option (Nat × Tr)} {w : World} (h : RootQ wide vars t q w) : ∀ (b : Nat) (a : Tr), q = some (b, a) → TrAt w (Old w) a b ∧ a.size ≤ 1000000 := by
  rintro b a rfl
  obtain ⟨h1, h2, h3, h4, h5, h6, h7, h8⟩ := h
  refine ⟨h3, ?_⟩
  have := a.flat_len
  rw [h5] at this
  omega
theorem okN_zero {wide vars op : Int} (h : manyOf op ≠ 0) : okN wide vars op 0 = true := by
  unfold okN
  rw [if_neg (by rintro rfl; exact h rfl), if_neg (by rintro rfl; exact h rfl), if_neg (by rintro rfl; exact h rfl)]
  rfl
theorem many_ops {op : Int} (h : manyOf op ≠ 0) : op = 13 ∨ op = 19 ∨ (3 ≤ op ∧ op ≤ 12) ∨ (14 ≤ op ∧ op ≤ 18) := by
  unfold manyOf at h
  split at h
  · omega
  · split at h
    · omega
    · exact absurd rfl h
theorem own_many {op : Int} (h : manyOf op ≠ 0) : ¬ ownOf op = 0 := by
  have := many_ops h
  unfold ownOf
  split
  · decide
  · split
    · decide
    · omega
theorem part_many {op : Int} (h : manyOf op ≠ 0) : 0 < partOf op := by
  have := many_ops h
  unfold partOf
  split
  · decide
  · split
    · decide
    · omega
theorem oneV_cells (w : World) (x : Value) : (w.alloc (.cells #[x] 101)).cell? ⟨w.heap.size, 0, none⟩ = some x := by simp
end Go.Proofs.YtmhpnkfibecnmaaDoor

namespace Go.Proofs.YtmhpnkfibecnmaaDoor
open Go Go.RowKit
open M
set_option linter.unusedVariables false

theorem varsL_len (t : List Nd) : (varsL t).length ≤ t.length := by
  have h : ∀ n : Nat, n ≤ t.length → (varsL (t.take n)).length ≤ n := by
    intro n
    induction n with
    | zero => intro _; simp [varsL]
    | succ n ih =>
      intro hn
      obtain ⟨x, hx⟩ : ∃ x, t[n]? = some x := ⟨t[n], List.getElem?_eq_getElem (by omega)⟩
      have e : t.take (n + 1) = t.take n ++ [x] := by
        rw [List.take_add_one, hx]
        rfl
      rw [e, varsL_snoc]
      have i1 := ih (by omega)
      split
      · have := (putL_len (varsL (t.take n)) x.2).1
        omega
      · omega
  have h2 := h t.length (Nat.le_refl _)
  rw [List.take_length] at h2
  exact h2
theorem varsIn_len0 (wide vars : Int) (t : List Nd) : (varsInL wide vars t).length ≤ t.length := by
  unfold varsInL
  split
  · exact varsL_len t
  · simp
theorem varsIn_reads0 (wide vars : Int) (t : List Nd) (hwide0 : -9223372036854775808 ≤ wide) (hwide1 : wide ≤ 9223372036854775807) (hvars0 : -9223372036854775808 ≤ vars) (hvars1 : vars ≤ 9223372036854775807) (hok : ∀ x ∈ t, NdOk x) (hl : t.length ≤ 1048576) :
    ∀ (w1 : World) (B : Nat) (v1 : Value), OwnInts w1 B v1 (varsInL wide vars t) → IntsAt w1 v1 (varsInL wide vars t) := by
  intro w1 B v1 ho
  have := varsIn_len0 wide vars t
  exact ints_of_own (by omega) ho
end Go.Proofs.YtmhpnkfibecnmaaDoor

namespace Go.Proofs.YtmhpnkfibecnmaaDoor
open Go Go.RowKit
open M
set_option linter.unusedVariables false

/-- of what lay there nothing but block g has turned -/
structure But (g : Nat) (w w' : World) : Prop where
  os : w'.os = w.os
  tape : w'.tape = w.tape
  output : w'.output = w.output
  size : w.heap.size ≤ w'.heap.size
  block : ∀ k, k ≠ g → k < w.heap.size → w'.heap[k]? = w.heap[k]?
theorem But.refl (g : Nat) (w : World) : But g w w := ⟨rfl, rfl, rfl, Nat.le_refl _, fun _ _ _ => rfl⟩
theorem But.trans {g : Nat} {u v w : World} (h : But g u v) (k : But g v w) : But g u w :=
  ⟨k.os.trans h.os, k.tape.trans h.tape, k.output.trans h.output, Nat.le_trans h.size k.size, fun i hi hs => (k.block i hi (Nat.lt_of_lt_of_le hs h.size)).trans (h.block i hi hs)⟩
theorem But.setCell {g : Nat} {u w : World} (h : But g u w) (o : Nat) (v : Value) : But g u (w.setCell ⟨g, o, none⟩ v) :=
  h.trans ⟨rfl, rfl, rfl, by simp [World.setCell], fun k hk _ => Below.heap_setCell _ _ _ _ hk⟩
theorem But.drew {g : Nat} {u w : World} (h : But g u w) : But g u w.drew := ⟨h.os, h.tape, h.output, h.size, h.block⟩
theorem But.below {B g : Nat} {w w' : World} (h : But g w w') (hB : B ≤ g) (hs : B ≤ w.heap.size) : Below B w w' :=
  ⟨h.os, h.tape, h.output, h.size, fun k hk => h.block k (by omega) (by omega)⟩
/-- four truths in memory -/
def bools (f : Int → Bool) : Array Value := #[.bool (f 0), .bool (f 1), .bool (f 2), .bool (f 3)]
theorem bools_put (f : Int → Bool) (i : Nat) (h : i < 4) : (bools f).setIfInBounds i (.bool true) = bools (fun j => f j || j == (i : Int)) := by
  match i, h with
  | 0, _ => simp [bools]
  | 1, _ => simp [bools]
  | 2, _ => simp [bools]
  | 3, _ => simp [bools]
abbrev OldNot (w : World) (g : Nat) : Nat → Prop := fun k => k < w.heap.size ∧ k ≠ g
/-- what nameVars does with a tree -/
def NameP (r : Tr) : Prop := ∀ (b g : Nat) (f : Int → Bool) (w : World), TrAt w (OldNot w g) r b → w.heap[g]? = some (.cells (bools f) 109 (0, 0)) → (∀ x ∈ r.flat, x.1 = 2 → 0 ≤ x.2 ∧ x.2 < 4) → (∃ wide vars : Int, r.Ok wide vars) →
  Calls Tryd.prog 108 #[ptr b, ptr g] w fun e w' => e = .returned (.tuple #[]) ∧ w'.heap[g]? = some (.cells (bools (fun i => f i || decide ((2, i) ∈ r.flat))) 109 (0, 0)) ∧ But g w w'
set_option maxRecDepth 100000 in
set_option maxHeartbeats 4000000 in
theorem nameVars_leaf (b g i : Nat) (f : Int → Bool) (w : World) (htr : TrAt w (OldNot w g) (.leaf (2, (i : Int))) b) (hh : w.heap[g]? = some (.cells (bools f) 109 (0, 0))) (hi : i < 4) :
    Calls Tryd.prog 108 #[ptr b, ptr g] w fun e w' => e = .returned (.tuple #[]) ∧ w'.heap[g]? = some (.cells (bools (fun j => f j || j == (i : Int))) 109 (0, 0)) ∧ But g w w' := by
  obtain ⟨hb, n0, n1, _, _, pvl, n4, hpv⟩ := htr
  obtain ⟨pa, pc, rfl⟩ := hpv.shape
  have d0 : w.cell? ⟨g, i, none⟩ = some (.bool (f (i : Int))) := by
    rw [cell_heap hh]
    rcases (show i = 0 ∨ i = 1 ∨ i = 2 ∨ i = 3 by omega) with rfl | rfl | rfl | rfl <;> rfl
  have f0 := frozen_heap (o := i) hh
  have m4 : (w.setCell ⟨g, i, none⟩ (.bool true)).cell? ⟨b, 4, none⟩ = some (.slice pa 0 pc) := by
    rw [cell_otherBlock (fun e => hb.2 e.symm)]
    exact n4
  have m4' : (w.setCell ⟨g, i, none⟩ (.bool true)).drew.cell? ⟨b, 4, none⟩ = some (.slice pa 0 pc) := m4
  have HH : Hid ((w.setCell ⟨g, i, none⟩ (.bool true)).drew.heap[g]? = some (.cells (bools (fun j => f j || j == (i : Int))) 109 (0, 0))) := by
    show (w.setCell ⟨g, i, none⟩ (.bool true)).heap[g]? = _
    rw [heap_set hh, bools_put f i hi]
  have HB : Hid (But g w (w.setCell ⟨g, i, none⟩ (.bool true)).drew) := ((But.refl g w).setCell i _).drew
  simp only at n0 n1
  clear hpv hh hb n4
  go_enter Tryd.func108, Tryd.ntmps108
  go_wp2_with fail
  go_region
  all_goals
    go_wp2_with fail
    go_loop [25] (fun i => i = .int .i64 0) (fun _ => 0)
    case atStart => rfl
    case round =>
      obtain rfl := hrel
      go_wp2_with fail
      go_end0
      exact ⟨rfl, HH.out, HB.out⟩
set_option maxRecDepth 100000 in
set_option maxHeartbeats 4000000 in
theorem nameVars_step (r : Tr) (ih : ∀ q ∈ r.parts, NameP q) : NameP r := by
  intro b g f w htr hh hv ⟨wide, vars, hok⟩
  by_cases h2 : r.nd.1 = 2
  · have hm := (Tr.ok_nd hok).2.2
    rw [h2] at hm
    cases r with
    | leaf x =>
      obtain ⟨op, n⟩ := x
      obtain rfl : op = 2 := h2
      have h4 := hv (2, n) (by simp [Tr.flat]) rfl
      simp only at h4
      obtain ⟨i, rfl⟩ := Int.eq_ofNat_of_zero_le h4.1
      refine (nameVars_leaf b g i f w htr hh (by omega)).mono ?_
      rintro e w' ⟨he, h5, h6⟩
      refine ⟨he, ?_, h6⟩
      rw [h5]
      have e2 : (fun j : Int => f j || j == (i : Int)) = fun j => f j || decide (((2, j) : Nd) ∈ (Tr.leaf (2, (i : Int))).flat) := by
        funext j
        simp [Tr.flat]
        rfl
      rw [e2]
    | one x a => exact absurd (show (0 : Nat) = 1 from hm) (by decide)
    | two x a c => exact absurd (show (0 : Nat) = 2 from hm) (by decide)
  · have e2 : (r.nd.1 == 2) = false := beq_eq_false_iff_ne.2 h2
    obtain ⟨ps, ⟨hb, n0, n1, _, _, pvl, n4, hpv⟩, hpt⟩ := trAt_open htr
    obtain ⟨pa, pc, hpsh⟩ := hpv.shape
    have hpl2 : ps.length ≤ 2 := by
      have h2 : r.parts.length ≤ 2 := by cases r <;> simp [Tr.parts]
      have := hpt.1
      omega
    have HIH : Hid (∀ (j q' : Nat) (q : Tr) (w1 : World) (f' : Int → Bool), r.parts[j]? = some q → ps[j]? = some q' → But g w w1 → w1.heap[g]? = some (.cells (bools f') 109 (0, 0)) → Calls Tryd.prog 108 #[ptr q', ptr g] w1 fun e w' => e = .returned (.tuple #[]) ∧ w'.heap[g]? = some (.cells (bools (fun i => f' i || decide ((2, i) ∈ q.flat))) 109 (0, 0)) ∧ But g w1 w') := by
      intro j q' q w1 f' hq hq' hb1 hh1
      have hmem := List.mem_of_getElem? hq
      have hfl : ∀ x ∈ q.flat, x ∈ r.flat := by
        intro x hx
        rw [Tr.flat_eq r]
        exact List.mem_append_left _ (List.mem_flatMap.2 ⟨q, hmem, hx⟩)
      exact ih q hmem q' g f' w1 (TrAt.frame (fun k hk => ⟨Nat.lt_of_lt_of_le hk.1 hb1.size, hk.2⟩) (fun k hk => hb1.block k hk.2 hk.1) (hpt.2 j q q' hq hq')) hh1 (fun x hx => hv x (hfl x hx)) ⟨wide, vars, (Tr.ok_parts hok q hmem).2⟩
    have HPV : Hid _ := hpv
    have HL : Hid (r.parts.length = ps.length) := hpt.1
    have HE : Hid (∀ i : Int, decide (((2, i) : Nd) ∈ r.flat) = decide (((2, i) : Nd) ∈ r.parts.flatMap Tr.flat)) := by
      intro i
      apply decide_eq_decide.2
      rw [Tr.flat_eq r]
      constructor
      · intro h
        rcases List.mem_append.1 h with h | h
        · exact h
        · simp at h
          exact absurd (by rw [← h]) h2
      · intro h
        exact List.mem_append_left _ h
    have HH0 : Hid _ := hh
    clear ih hpt hpv htr hh hv hok h2
    subst hpsh
    generalize r.nd.1 = op at *
    go_enter Tryd.func108, Tryd.ntmps108
    go_wp2_with fail
    go_loopw [25] (fun i wr => ∃ j : Nat, j ≤ ps.length ∧ i = .int .i64 j ∧ Hid (wr.heap[g]? = some (.cells (bools (fun i => f i || decide ((2, i) ∈ (r.parts.take j).flatMap Tr.flat))) 109 (0, 0))) ∧ Hid (But g w wr)) (fun i _ => ps.length - (intOf i).toNat)
    case atStart =>
      refine ⟨0, by omega, rfl, ?_, But.refl _ _⟩
      show w.heap[g]? = _
      rw [HH0.out]
      simp
    case round =>
      obtain ⟨j, hj, rfl, HH, HB⟩ := hrel
      by_cases hlt' : j < ps.length
      · obtain ⟨p, hp⟩ : ∃ p, ps[j]? = some p := ⟨ps[j], List.getElem?_eq_getElem hlt'⟩
        obtain ⟨q, hq⟩ : ∃ q, r.parts[j]? = some q := ⟨r.parts[j]'(by have := HL.out; omega), List.getElem?_eq_getElem _⟩
        obtain ⟨pg, off, rfl, hg, c0⟩ := PtrsAt.at HPV.out hp
        have c1 : wr.cell? ⟨pg, off + j, none⟩ = some (ptr p) := by
          rw [World.cell?_of_block (w := w) (a := ⟨pg, off + j, none⟩) (HB.out.block pg hg.2 hg.1)]
          exact c0
        have gI := HIH.out j p q wr _ hq hp HB.out HH.out
        have HF : Hid ((fun i : Int => (f i || decide (((2, i) : Nd) ∈ (r.parts.take j).flatMap Tr.flat)) || decide (((2, i) : Nd) ∈ q.flat)) = fun i => f i || decide (((2, i) : Nd) ∈ (r.parts.take (j + 1)).flatMap Tr.flat)) := by
          show _ = _
          funext i
          rw [flats_take hq, Bool.or_assoc]
          congr 1
          by_cases h1 : ((2, i) : Nd) ∈ (r.parts.take j).flatMap Tr.flat <;> by_cases h3 : ((2, i) : Nd) ∈ q.flat <;> simp [h1, h3]
        rw [HF.out] at gI
        clear hp hq hg c0 HF
        generalize hfn : (fun i : Int => f i || decide (((2, i) : Nd) ∈ (r.parts.take (j + 1)).flatMap Tr.flat)) = fn at *
        have HFN : Hid _ := hfn
        clear hfn
        go_wp2_with fail
        refine gI.mono ?_
        rintro e w2 ⟨rfl, hh2, hb2⟩
        have HH2 : Hid _ := hh2
        have HB2 : Hid (But g w w2) := HB.out.trans hb2
        clear gI hh2 hb2
        go_wp2_with fail
        go_roundw
        case rel => exact ⟨j + 1, by omega, by go_num, by rw [HFN.out]; exact HH2, HB2⟩
        case measure => simp [intOf]; omega
      · obtain rfl : j = ps.length := by omega
        have HR : Hid (wr.heap[g]? = some (.cells (bools (fun i => f i || decide ((2, i) ∈ r.flat))) 109 (0, 0))) := by
          show wr.heap[g]? = _
          rw [HH.out]
          have h1 : r.parts.take ps.length = r.parts := by rw [← HL.out, List.take_length]
          rw [h1]
          have h3 : (fun i : Int => f i || decide (((2, i) : Nd) ∈ r.parts.flatMap Tr.flat)) = fun i => f i || decide (((2, i) : Nd) ∈ r.flat) := by
            funext i
            rw [HE.out i]
          rw [h3]
        clear HH HIH HPV HE
        go_wp2_with fail
        go_end0
        exact ⟨rfl, HR.out, HB.out⟩
theorem nameVars_any : ∀ r : Tr, NameP r := Tr.ind nameVars_step
end Go.Proofs.YtmhpnkfibecnmaaDoor

namespace Go.Proofs.YtmhpnkfibecnmaaDoor
open Go Go.RowKit
open M
set_option linter.unusedVariables false

theorem iDivWord_any (k : Nat) (hk1 : 1 ≤ k) (hk : k ≤ 64) (a b : Int) (ha0 : 0 ≤ a) (ha : a < pw k) (hb0 : 0 ≤ b) (hb : b < pw k) (w : World) (hT : Tab w) :
    Calls Tryd.prog 159 #[.int .i64 k, .int .u64 a, .int .u64 b] w fun e w' => e = .returned (.tuple #[.int .u64 (quotOf k a b), .int .u64 (remOf a b), .bool true]) ∧ (w' = w ∨ w' = w.drew) := by
  have hl := pw_le k hk
  have hg : (goodB k a && goodB k b) = true := by rw [good_of k hk1 hk a ha, good_of k hk1 hk b hb]; rfl
  unfold quotOf remOf
  by_cases h : b = 0
  · rw [if_pos h, if_pos h]
    subst h
    refine (iDivWord_zero k hk1 hk a ha0 (by omega) w hT hg).mono ?_
    rintro e w' ⟨he, hw⟩
    exact ⟨he, Or.inl hw⟩
  · rw [if_neg h, if_neg h]
    refine (iDivWord_yes k hk1 hk a b ha0 (by omega) hb0 (by omega) (by omega) w hT hg).mono ?_
    rintro e w' ⟨he, hw⟩
    exact ⟨he, Or.inr hw⟩
set_option maxHeartbeats 1000000 in
theorem numberOf_3 (k : Nat) (hk1 : 1 ≤ k) (hk : k ≤ 64) (a b : Int) (ha0 : 0 ≤ a) (ha : a < pw k) (hb0 : 0 ≤ b) (hb : b < pw k) (w : World) (hT : Tab w) :
    Calls Tryd.prog 143 #[.int .i64 k, .int .i64 3, .int .u64 a, .int .u64 b] w fun e w' => e = .returned (.int .u64 (doOp k 3 a b)) ∧ (w' = w ∨ w' = w.drew) := by
  have hl := pw_le k hk
  have hg : (goodB k a && goodB k b) = true := by rw [good_of k hk1 hk a ha, good_of k hk1 hk b hb]; rfl
  have e0 : doOp k 3 a b = cut k (IntKind.u64.wrap (a + b)) := rfl
  rw [e0]
  have g := iAddWord_yes k hk1 hk a b ha0 (by omega) hb0 (by omega) w hT hg
  clear e0 ha0 ha hb0 hb hl hg hT
  generalize cut k (IntKind.u64.wrap (a + b)) = Z at *
  go_enter Tryd.func143, Tryd.ntmps143
  go_wp2_with fail
  refine g.mono ?_
  rintro e w1 ⟨rfl, hw⟩
  clear g
  go_wp2_with fail
  go_ret
  exact ⟨rfl, Or.inl rfl⟩
set_option maxHeartbeats 1000000 in
theorem numberOf_4 (k : Nat) (hk1 : 1 ≤ k) (hk : k ≤ 64) (a b : Int) (ha0 : 0 ≤ a) (ha : a < pw k) (hb0 : 0 ≤ b) (hb : b < pw k) (w : World) (hT : Tab w) :
    Calls Tryd.prog 143 #[.int .i64 k, .int .i64 4, .int .u64 a, .int .u64 b] w fun e w' => e = .returned (.int .u64 (doOp k 4 a b)) ∧ (w' = w ∨ w' = w.drew) := by
  have hl := pw_le k hk
  have hg : (goodB k a && goodB k b) = true := by rw [good_of k hk1 hk a ha, good_of k hk1 hk b hb]; rfl
  have e0 : doOp k 4 a b = cut k (IntKind.u64.wrap (a - b)) := rfl
  rw [e0]
  have g := iSubWord_yes k hk1 hk a b ha0 (by omega) hb0 (by omega) w hT hg
  clear e0 ha0 ha hb0 hb hl hg hT
  generalize cut k (IntKind.u64.wrap (a - b)) = Z at *
  go_enter Tryd.func143, Tryd.ntmps143
  go_wp2_with fail
  refine g.mono ?_
  rintro e w1 ⟨rfl, hw⟩
  clear g
  go_wp2_with fail
  go_ret
  exact ⟨rfl, Or.inl rfl⟩
set_option maxHeartbeats 1000000 in
theorem numberOf_5 (k : Nat) (hk1 : 1 ≤ k) (hk : k ≤ 64) (a b : Int) (ha0 : 0 ≤ a) (ha : a < pw k) (hb0 : 0 ≤ b) (hb : b < pw k) (w : World) (hT : Tab w) :
    Calls Tryd.prog 143 #[.int .i64 k, .int .i64 5, .int .u64 a, .int .u64 b] w fun e w' => e = .returned (.int .u64 (doOp k 5 a b)) ∧ (w' = w ∨ w' = w.drew) := by
  have hl := pw_le k hk
  have hg : (goodB k a && goodB k b) = true := by rw [good_of k hk1 hk a ha, good_of k hk1 hk b hb]; rfl
  have e0 : doOp k 5 a b = cut k (IntKind.u64.wrap (a * b)) := rfl
  rw [e0]
  have g := iMulWord_yes k hk1 hk a b ha0 (by omega) hb0 (by omega) w hT hg
  clear e0 ha0 ha hb0 hb hl hg hT
  generalize cut k (IntKind.u64.wrap (a * b)) = Z at *
  go_enter Tryd.func143, Tryd.ntmps143
  go_wp2_with fail
  refine g.mono ?_
  rintro e w1 ⟨rfl, hw⟩
  clear g
  go_wp2_with fail
  go_ret
  exact ⟨rfl, Or.inl rfl⟩
set_option maxHeartbeats 1000000 in
theorem numberOf_6 (k : Nat) (hk1 : 1 ≤ k) (hk : k ≤ 64) (a b : Int) (ha0 : 0 ≤ a) (ha : a < pw k) (hb0 : 0 ≤ b) (hb : b < pw k) (w : World) (hT : Tab w) :
    Calls Tryd.prog 143 #[.int .i64 k, .int .i64 6, .int .u64 a, .int .u64 b] w fun e w' => e = .returned (.int .u64 (doOp k 6 a b)) ∧ (w' = w ∨ w' = w.drew) := by
  have hl := pw_le k hk
  have hg : (goodB k a && goodB k b) = true := by rw [good_of k hk1 hk a ha, good_of k hk1 hk b hb]; rfl
  have e0 : doOp k 6 a b = quotOf k a b := rfl
  rw [e0]
  have g := iDivWord_any k hk1 hk a b ha0 ha hb0 hb w hT
  clear e0 ha0 ha hb0 hb hl hg hT
  generalize quotOf k a b = Q at *
  generalize remOf a b = R at *
  go_enter Tryd.func143, Tryd.ntmps143
  go_wp2_with fail
  refine g.mono ?_
  rintro e w1 ⟨rfl, hw⟩
  clear g
  go_wp2_with fail
  go_ret
  exact ⟨rfl, hw⟩
set_option maxHeartbeats 1000000 in
theorem numberOf_7 (k : Nat) (hk1 : 1 ≤ k) (hk : k ≤ 64) (a b : Int) (ha0 : 0 ≤ a) (ha : a < pw k) (hb0 : 0 ≤ b) (hb : b < pw k) (w : World) (hT : Tab w) :
    Calls Tryd.prog 143 #[.int .i64 k, .int .i64 7, .int .u64 a, .int .u64 b] w fun e w' => e = .returned (.int .u64 (doOp k 7 a b)) ∧ (w' = w ∨ w' = w.drew) := by
  have hl := pw_le k hk
  have hg : (goodB k a && goodB k b) = true := by rw [good_of k hk1 hk a ha, good_of k hk1 hk b hb]; rfl
  have e0 : doOp k 7 a b = remOf a b := rfl
  rw [e0]
  have g := iDivWord_any k hk1 hk a b ha0 ha hb0 hb w hT
  clear e0 ha0 ha hb0 hb hl hg hT
  generalize quotOf k a b = Q at *
  generalize remOf a b = R at *
  go_enter Tryd.func143, Tryd.ntmps143
  go_wp2_with fail
  refine g.mono ?_
  rintro e w1 ⟨rfl, hw⟩
  clear g
  go_wp2_with fail
  go_ret
  exact ⟨rfl, hw⟩
set_option maxHeartbeats 1000000 in
theorem numberOf_8 (k : Nat) (hk1 : 1 ≤ k) (hk : k ≤ 64) (a b : Int) (ha0 : 0 ≤ a) (ha : a < pw k) (hb0 : 0 ≤ b) (hb : b < pw k) (w : World) (hT : Tab w) :
    Calls Tryd.prog 143 #[.int .i64 k, .int .i64 8, .int .u64 a, .int .u64 b] w fun e w' => e = .returned (.int .u64 (doOp k 8 a b)) ∧ (w' = w ∨ w' = w.drew) := by
  have hl := pw_le k hk
  have hg : (goodB k a && goodB k b) = true := by rw [good_of k hk1 hk a ha, good_of k hk1 hk b hb]; rfl
  have e0 : doOp k 8 a b = bits .and .u64 a b := rfl
  rw [e0]
  clear e0 ha0 ha hb0 hb hl hg hT
  go_enter Tryd.func143, Tryd.ntmps143
  go_wp2_with fail
  go_ret
  exact ⟨rfl, Or.inl rfl⟩
set_option maxHeartbeats 1000000 in
theorem numberOf_9 (k : Nat) (hk1 : 1 ≤ k) (hk : k ≤ 64) (a b : Int) (ha0 : 0 ≤ a) (ha : a < pw k) (hb0 : 0 ≤ b) (hb : b < pw k) (w : World) (hT : Tab w) :
    Calls Tryd.prog 143 #[.int .i64 k, .int .i64 9, .int .u64 a, .int .u64 b] w fun e w' => e = .returned (.int .u64 (doOp k 9 a b)) ∧ (w' = w ∨ w' = w.drew) := by
  have hl := pw_le k hk
  have hg : (goodB k a && goodB k b) = true := by rw [good_of k hk1 hk a ha, good_of k hk1 hk b hb]; rfl
  have e0 : doOp k 9 a b = bits .or .u64 a b := rfl
  rw [e0]
  clear e0 ha0 ha hb0 hb hl hg hT
  go_enter Tryd.func143, Tryd.ntmps143
  go_wp2_with fail
  go_ret
  exact ⟨rfl, Or.inl rfl⟩
set_option maxHeartbeats 1000000 in
theorem numberOf_10 (k : Nat) (hk1 : 1 ≤ k) (hk : k ≤ 64) (a b : Int) (ha0 : 0 ≤ a) (ha : a < pw k) (hb0 : 0 ≤ b) (hb : b < pw k) (w : World) (hT : Tab w) :
    Calls Tryd.prog 143 #[.int .i64 k, .int .i64 10, .int .u64 a, .int .u64 b] w fun e w' => e = .returned (.int .u64 (doOp k 10 a b)) ∧ (w' = w ∨ w' = w.drew) := by
  have hl := pw_le k hk
  have hg : (goodB k a && goodB k b) = true := by rw [good_of k hk1 hk a ha, good_of k hk1 hk b hb]; rfl
  have e0 : doOp k 10 a b = bits .xor .u64 a b := rfl
  rw [e0]
  clear e0 ha0 ha hb0 hb hl hg hT
  go_enter Tryd.func143, Tryd.ntmps143
  go_wp2_with fail
  go_ret
  exact ⟨rfl, Or.inl rfl⟩
set_option maxHeartbeats 1000000 in
theorem numberOf_11 (k : Nat) (hk1 : 1 ≤ k) (hk : k ≤ 64) (a b : Int) (ha0 : 0 ≤ a) (ha : a < pw k) (hb0 : 0 ≤ b) (hb : b < pw k) (w : World) (hT : Tab w) :
    Calls Tryd.prog 143 #[.int .i64 k, .int .i64 11, .int .u64 a, .int .u64 b] w fun e w' => e = .returned (.int .u64 (doOp k 11 a b)) ∧ (w' = w ∨ w' = w.drew) := by
  have hl := pw_le k hk
  have hg : (goodB k a && goodB k b) = true := by rw [good_of k hk1 hk a ha, good_of k hk1 hk b hb]; rfl
  have e0 : doOp k 11 a b = moved k a b true := rfl
  rw [e0]
  have g := iShiftWord_yes k hk1 hk a b true ha0 ha hb0 hb w hT hg
  clear e0 ha0 ha hb0 hb hl hg hT
  generalize moved k a b true = Z at *
  go_enter Tryd.func143, Tryd.ntmps143
  go_wp2_with fail
  refine g.mono ?_
  rintro e w1 ⟨rfl, hw⟩
  clear g
  go_wp2_with fail
  go_ret
  exact ⟨rfl, Or.inl rfl⟩
set_option maxHeartbeats 1000000 in
theorem numberOf_12 (k : Nat) (hk1 : 1 ≤ k) (hk : k ≤ 64) (a b : Int) (ha0 : 0 ≤ a) (ha : a < pw k) (hb0 : 0 ≤ b) (hb : b < pw k) (w : World) (hT : Tab w) :
    Calls Tryd.prog 143 #[.int .i64 k, .int .i64 12, .int .u64 a, .int .u64 b] w fun e w' => e = .returned (.int .u64 (doOp k 12 a b)) ∧ (w' = w ∨ w' = w.drew) := by
  have hl := pw_le k hk
  have hg : (goodB k a && goodB k b) = true := by rw [good_of k hk1 hk a ha, good_of k hk1 hk b hb]; rfl
  have e0 : doOp k 12 a b = moved k a b false := rfl
  rw [e0]
  have g := iShiftWord_yes k hk1 hk a b false ha0 ha hb0 hb w hT hg
  clear e0 ha0 ha hb0 hb hl hg hT
  generalize moved k a b false = Z at *
  go_enter Tryd.func143, Tryd.ntmps143
  go_wp2_with fail
  refine g.mono ?_
  rintro e w1 ⟨rfl, hw⟩
  clear g
  go_wp2_with fail
  go_ret
  exact ⟨rfl, Or.inl rfl⟩
set_option maxHeartbeats 1000000 in
theorem numberOf_flip (k : Nat) (hk1 : 1 ≤ k) (hk : k ≤ 64) (a b : Int) (ha0 : 0 ≤ a) (ha : a < pw k) (w : World) (hT : Tab w) :
    Calls Tryd.prog 143 #[.int .i64 k, .int .i64 13, .int .u64 a, .int .u64 b] w fun e w' => e = .returned (.int .u64 (pw k - 1 - a)) ∧ (w' = w ∨ w' = w.drew) := by
  have g := iFlipWord_yes k hk a ha0 ha w hT (good_of k hk1 hk a ha)
  generalize pw k - 1 - a = Z at *
  clear ha0 ha hT
  go_enter Tryd.func143, Tryd.ntmps143
  go_wp2_with fail
  refine g.mono ?_
  rintro e w1 ⟨rfl, hw⟩
  clear g
  go_wp2_with fail
  go_ret
  exact ⟨rfl, Or.inl rfl⟩
theorem numberOf_any (op : Int) (hop : 3 ≤ op ∧ op ≤ 12) (k : Nat) (hk1 : 1 ≤ k) (hk : k ≤ 64) (a b : Int) (ha0 : 0 ≤ a) (ha : a < pw k) (hb0 : 0 ≤ b) (hb : b < pw k) (w : World) (hT : Tab w) :
    Calls Tryd.prog 143 #[.int .i64 k, .int .i64 op, .int .u64 a, .int .u64 b] w fun e w' => e = .returned (.int .u64 (doOp k op a b)) ∧ (w' = w ∨ w' = w.drew) := by
  rcases (show op = 3 ∨ op = 4 ∨ op = 5 ∨ op = 6 ∨ op = 7 ∨ op = 8 ∨ op = 9 ∨ op = 10 ∨ op = 11 ∨ op = 12 by omega) with rfl | rfl | rfl | rfl | rfl | rfl | rfl | rfl | rfl | rfl
  · exact numberOf_3 k hk1 hk a b ha0 ha hb0 hb w hT
  · exact numberOf_4 k hk1 hk a b ha0 ha hb0 hb w hT
  · exact numberOf_5 k hk1 hk a b ha0 ha hb0 hb w hT
  · exact numberOf_6 k hk1 hk a b ha0 ha hb0 hb w hT
  · exact numberOf_7 k hk1 hk a b ha0 ha hb0 hb w hT
  · exact numberOf_8 k hk1 hk a b ha0 ha hb0 hb w hT
  · exact numberOf_9 k hk1 hk a b ha0 ha hb0 hb w hT
  · exact numberOf_10 k hk1 hk a b ha0 ha hb0 hb w hT
  · exact numberOf_11 k hk1 hk a b ha0 ha hb0 hb w hT
  · exact numberOf_12 k hk1 hk a b ha0 ha hb0 hb w hT
theorem bitOf_any (p : Bool) (w : World) : Calls Tryd.prog 141 #[.bool p] w fun e w' => e = .returned (.int .u64 (if p = true then 1 else 0)) ∧ w' = w := by
  cases p
  · go_enter Tryd.func141, Tryd.ntmps141
    go_wp2
    go_ret
    exact ⟨rfl, rfl⟩
  · go_enter Tryd.func141, Tryd.ntmps141
    go_wp2
    go_ret
    exact ⟨rfl, rfl⟩
theorem holdsOf_14 (k : Nat) (hk1 : 1 ≤ k) (hk : k ≤ 64) (a b : Int) (ha0 : 0 ≤ a) (ha : a < pw k) (hb0 : 0 ≤ b) (hb : b < pw k) (w : World) (hT : Tab w) :
    Calls Tryd.prog 142 #[.int .i64 k, .int .i64 14, .int .u64 a, .int .u64 b] w fun e w' => ∃ p : Bool, e = .returned (.bool p) ∧ (if p = true then 1 else 0) = doOp k 14 a b ∧ w' = w := by
  have HE : Hid ((if (a == b) = true then (1 : Int) else 0) = doOp k 14 a b) := by
    show _ = (if _ then (1 : Int) else 0)
    simp
  clear ha0 ha hb0 hb hT
  go_enter Tryd.func142, Tryd.ntmps142
  go_wp2_with fail
  go_ret
  exact ⟨_, rfl, HE.out, rfl⟩
theorem holdsOf_15 (k : Nat) (hk1 : 1 ≤ k) (hk : k ≤ 64) (a b : Int) (ha0 : 0 ≤ a) (ha : a < pw k) (hb0 : 0 ≤ b) (hb : b < pw k) (w : World) (hT : Tab w) :
    Calls Tryd.prog 142 #[.int .i64 k, .int .i64 15, .int .u64 a, .int .u64 b] w fun e w' => ∃ p : Bool, e = .returned (.bool p) ∧ (if p = true then 1 else 0) = doOp k 15 a b ∧ w' = w := by
  have HE : Hid ((if (decide (a < b)) = true then (1 : Int) else 0) = doOp k 15 a b) := by
    show _ = (if _ then (1 : Int) else 0)
    simp
  clear ha0 ha hb0 hb hT
  go_enter Tryd.func142, Tryd.ntmps142
  go_wp2_with fail
  go_ret
  exact ⟨_, rfl, HE.out, rfl⟩
set_option maxHeartbeats 1000000 in
theorem holdsOf_16 (k : Nat) (hk1 : 1 ≤ k) (hk : k ≤ 64) (a b : Int) (ha0 : 0 ≤ a) (ha : a < pw k) (hb0 : 0 ≤ b) (hb : b < pw k) (w : World) (hT : Tab w) :
    Calls Tryd.prog 142 #[.int .i64 k, .int .i64 16, .int .u64 a, .int .u64 b] w fun e w' => ∃ p : Bool, e = .returned (.bool p) ∧ (if p = true then 1 else 0) = doOp k 16 a b ∧ w' = w := by
  obtain ⟨j, rfl⟩ : ∃ j, k = j + 1 := ⟨k - 1, by omega⟩
  have hg : (goodB ((j : Int) + 1) a && goodB ((j : Int) + 1) b) = true := by
    have h1 := good_of (j + 1) hk1 hk a ha
    have h2 := good_of (j + 1) hk1 hk b hb
    rw [show ((j + 1 : Nat) : Int) = (j : Int) + 1 from by omega] at h1 h2
    rw [h1, h2]
    rfl
  have g := iLessSigned_yes j hk a b ha0 ha hb0 hb w hT hg
  rw [show (j : Int) + 1 = ((j + 1 : Nat) : Int) from by omega] at g
  have HE : Hid ((if (decide (sgn (j + 1) a < sgn (j + 1) b)) = true then (1 : Int) else 0) = doOp (j + 1) 16 a b) := by
    show _ = (if sgn (j + 1) a < sgn (j + 1) b then (1 : Int) else 0)
    simp
  generalize decide (sgn (j + 1) a < sgn (j + 1) b) = Z at *
  generalize doOp (j + 1) 16 a b = Y at *
  generalize j + 1 = k at *
  clear ha0 ha hb0 hb hT hg
  go_enter Tryd.func142, Tryd.ntmps142
  go_wp2_with fail
  refine g.mono ?_
  rintro e w1 ⟨rfl, rfl⟩
  clear g
  go_wp2_with fail
  go_ret
  exact ⟨_, rfl, HE.out, rfl⟩
theorem holdsOf_17 (k : Nat) (a b : Int) (ha : a = 0 ∨ a = 1) (hb : b = 0 ∨ b = 1) (w : World) :
    Calls Tryd.prog 142 #[.int .i64 k, .int .i64 17, .int .u64 a, .int .u64 b] w fun e w' => ∃ p : Bool, e = .returned (.bool p) ∧ (if p = true then 1 else 0) = doOp k 17 a b ∧ w' = w := by
  rcases ha with rfl | rfl <;> rcases hb with rfl | rfl
  all_goals
    go_enter Tryd.func142, Tryd.ntmps142
    go_wp2_with fail
    go_ret
    exact ⟨_, rfl, rfl, rfl⟩
theorem holdsOf_18 (k : Nat) (a b : Int) (ha : a = 0 ∨ a = 1) (hb : b = 0 ∨ b = 1) (w : World) :
    Calls Tryd.prog 142 #[.int .i64 k, .int .i64 18, .int .u64 a, .int .u64 b] w fun e w' => ∃ p : Bool, e = .returned (.bool p) ∧ (if p = true then 1 else 0) = doOp k 18 a b ∧ w' = w := by
  rcases ha with rfl | rfl <;> rcases hb with rfl | rfl
  all_goals
    go_enter Tryd.func142, Tryd.ntmps142
    go_wp2_with fail
    go_ret
    exact ⟨_, rfl, rfl, rfl⟩
theorem holdsOf_no (k : Nat) (a b : Int) (ha : a = 0 ∨ a = 1) (w : World) :
    Calls Tryd.prog 142 #[.int .i64 k, .int .i64 19, .int .u64 a, .int .u64 b] w fun e w' => ∃ p : Bool, e = .returned (.bool p) ∧ (if p = true then 1 else 0) = 1 - a ∧ w' = w := by
  rcases ha with rfl | rfl
  all_goals
    go_enter Tryd.func142, Tryd.ntmps142
    go_wp2_with fail
    go_ret
    exact ⟨_, rfl, rfl, rfl⟩
end Go.Proofs.YtmhpnkfibecnmaaDoor

namespace Go.Proofs.YtmhpnkfibecnmaaDoor
open Go Go.RowKit
open M
set_option linter.unusedVariables false

end Go.Proofs.YtmhpnkfibecnmaaDoor

namespace Go.Proofs.YtmhpnkfibecnmaaDoor
open Go Go.RowKit
open M
set_option linter.unusedVariables false

/-- what value does with a tree -/
def ValP (k : Nat) (vars : Int) (st : List Int) (sv : Value) (r : Tr) : Prop := ∀ (b : Nat) (w : World), Tab w → TrAt w (Old w) r b → StAt w sv st → r.Ok k vars → Pos r → VarsBelow r st.length →
  Calls Tryd.prog 126 #[ptr b, .int .i64 k, sv] w fun e w' => e = .returned (.int .u64 (trVal k st r)) ∧ Below w.heap.size w w'
set_option maxRecDepth 100000 in
set_option maxHeartbeats 1000000 in
theorem value_lit (k : Nat) (sv : Value) (b : Nat) (op n : Int) (w : World) (hop : op = 1 ∨ op = 20) (c0 : w.cell? ⟨b, 0, none⟩ = some (.int .i64 op)) (c1 : w.cell? ⟨b, 1, none⟩ = some (.int .u64 n)) :
    Calls Tryd.prog 126 #[ptr b, .int .i64 k, sv] w fun e w' => e = .returned (.int .u64 n) ∧ w' = w := by
  rcases hop with rfl | rfl
  all_goals
    go_enter Tryd.func126, Tryd.ntmps126
    go_wp2_with fail
    go_ret
    exact ⟨rfl, rfl⟩
set_option maxRecDepth 100000 in
set_option maxHeartbeats 1000000 in
theorem value_var (k : Nat) (sv : Value) (st : List Int) (b i : Nat) (s : Int) (w : World) (hst : st.length ≤ 1048576) (hs : StAt w sv st) (hi : st[i]? = some s) (c0 : w.cell? ⟨b, 0, none⟩ = some (.int .i64 2)) (c1 : w.cell? ⟨b, 1, none⟩ = some (.int .u64 i)) :
    Calls Tryd.prog 126 #[ptr b, .int .i64 k, sv] w fun e w' => e = .returned (.int .u64 s) ∧ w' = w := by
  have hil : i < st.length := (List.getElem?_eq_some_iff.1 hi).1
  rcases hs with ⟨rfl, _⟩ | ⟨sb, so, sc, rfl, hsb, hcs⟩
  · simp at hil
  · have cs := hcs i s hi
    clear hcs hi
    go_enter Tryd.func126, Tryd.ntmps126
    go_wp2_with fail
    go_ret
    exact ⟨rfl, rfl⟩
/-- the two values of parts, 0 where there is none -/
def twoOf (l : List Int) : Array Value := #[.int .u64 (l.getD 0 0), .int .u64 (l.getD 1 0)]
theorem twoOf_put (l : List Int) (v : Int) (h : l.length < 2) : (twoOf l).setIfInBounds l.length (.int .u64 v) = twoOf (l ++ [v]) := by
  match l, h with
  | [], _ => rfl
  | [a], _ => rfl
  | _ :: _ :: _, h => simp at h; omega
set_option maxRecDepth 100000 in
set_option maxHeartbeats 4000000 in
theorem value_parts (k : Nat) (vars : Int) (st : List Int) (sv : Value) (r : Tr) (ih : ∀ q ∈ r.parts, ValP k vars st sv q) (hne : r.parts ≠ []) (Z : Int)
    (hfin : (r.kind = 1 ∧ ∀ w1, Tab w1 → Calls Tryd.prog 143 #[.int .i64 k, .int .i64 r.nd.1, .int .u64 ((r.parts.map (trVal k st)).getD 0 0), .int .u64 ((r.parts.map (trVal k st)).getD 1 0)] w1 fun e w' => e = .returned (.int .u64 Z) ∧ (w' = w1 ∨ w' = w1.drew)) ∨
      (r.kind = 2 ∧ ∀ w1, Tab w1 → Calls Tryd.prog 142 #[.int .i64 k, .int .i64 r.nd.1, .int .u64 ((r.parts.map (trVal k st)).getD 0 0), .int .u64 ((r.parts.map (trVal k st)).getD 1 0)] w1 fun e w' => ∃ p : Bool, e = .returned (.bool p) ∧ (if p = true then 1 else 0) = Z ∧ w' = w1))
    (b : Nat) (w : World) (hT : Tab w) (htr : TrAt w (Old w) r b) (hs : StAt w sv st) (hok : r.Ok k vars) (hp : Pos r) (hv : VarsBelow r st.length) :
    Calls Tryd.prog 126 #[ptr b, .int .i64 k, sv] w fun e w' => e = .returned (.int .u64 Z) ∧ Below w.heap.size w w' := by
  obtain ⟨ps, ⟨hb, n0, n1, n2, _, pvl, n4, hpv⟩, hpt⟩ := trAt_open htr
  have hmany := (Tr.ok_nd hok).2.2
  have hpl2 : ps.length ≤ 2 := by
    have h2 : r.parts.length ≤ 2 := by cases r <;> simp [Tr.parts]
    have := hpt.1
    omega
  have hm0 : manyOf r.nd.1 ≠ 0 := by
    rw [hmany]
    intro e
    exact hne (List.length_eq_zero_iff.1 e)
  have hops := many_ops hm0
  have e1 : (r.nd.1 == 1) = false := beq_eq_false_iff_ne.2 (by omega)
  have e20 : (r.nd.1 == 20) = false := beq_eq_false_iff_ne.2 (by omega)
  have e2 : (r.nd.1 == 2) = false := beq_eq_false_iff_ne.2 (by omega)
  have HIH : Hid (∀ (j q' : Nat) (q : Tr) (w1 : World), r.parts[j]? = some q → ps[j]? = some q' → Below w.heap.size w w1 → Calls Tryd.prog 126 #[ptr q', .int .i64 k, sv] w1 fun e w' => e = .returned (.int .u64 (trVal k st q)) ∧ Below w1.heap.size w1 w') := by
    intro j q' q w1 hq hq' hb1
    have hmem := List.mem_of_getElem? hq
    have hfl : ∀ x ∈ q.flat, x ∈ r.flat := by
      intro x hx
      rw [Tr.flat_eq r]
      exact List.mem_append_left _ (List.mem_flatMap.2 ⟨q, hmem, hx⟩)
    exact ih q hmem q' w1 (hT.below hb1 hT.some) ((hpt.2 j q q' hq hq').below hb1) (hs.below hb1) (Tr.ok_parts hok q hmem).2 (fun x hx => hp x (hfl x hx)) (fun x hx => hv x (hfl x hx))
  obtain ⟨pa, pc, hpsh⟩ := hpv.shape
  have HPV : Hid _ := hpv
  have HL : Hid (r.parts.length = ps.length) := hpt.1
  have HT : Hid (Tab w) := hT
  have HFIN : Hid _ := hfin
  have HN0 : Hid _ := n0
  have HN2 : Hid _ := n2
  have HBD : Hid (b < w.heap.size) := hb
  clear ih hpt hpv htr hs hp hv hok hT hfin hne hmany hm0 hops hb
  subst hpsh
  have n4a : (w.alloc (.cells #[.int .u64 0, .int .u64 0] 190)).cell? ⟨b, 4, none⟩ = some (.slice pa ps.length pc) := by
    rw [← n4]
    exact World.cell?_of_block (w := w) (a := ⟨b, 4, none⟩) (Below.heap_alloc _ _ _ HBD.out)
  generalize r.nd.1 = op at *
  go_enter Tryd.func126, Tryd.ntmps126
  go_wp2_with fail
  go_loopw [38] (fun i wr => ∃ j : Nat, j ≤ ps.length ∧ i = .int .i64 j ∧ Hid (wr.heap[w.heap.size]? = some (.cells (twoOf ((r.parts.take j).map (trVal k st))) 190 (0, 0))) ∧ Hid (Below w.heap.size w wr)) (fun i _ => ps.length - (intOf i).toNat)
  case atStart =>
    refine ⟨0, by omega, rfl, ?_, (Below.refl _ _).alloc (Nat.le_refl _) _⟩
    show (w.heap.push _)[w.heap.size]? = _
    simp [twoOf]
  case round =>
    obtain ⟨j, hj, rfl, HH, HB⟩ := hrel
    by_cases hlt' : j < ps.length
    · obtain ⟨p, hp⟩ : ∃ p, ps[j]? = some p := ⟨ps[j], List.getElem?_eq_getElem hlt'⟩
      obtain ⟨q, hq⟩ : ∃ q, r.parts[j]? = some q := ⟨r.parts[j]'(by have := HL.out; omega), List.getElem?_eq_getElem _⟩
      obtain ⟨g, off, rfl, hg, c0⟩ := PtrsAt.at HPV.out hp
      rw [← HB.out.cell (p := ⟨g, off + j, none⟩) hg] at c0
      have gI := HIH.out j p q wr hq hp HB.out
      have HE : Hid ((r.parts.take (j + 1)).map (trVal k st) = (r.parts.take j).map (trVal k st) ++ [trVal k st q] ∧ ((r.parts.take j).map (trVal k st)).length = j) := by
        constructor
        · rw [List.take_add_one, hq]
          simp
        · have := HL.out
          simp
          omega
      have hlw : w.heap.size < wr.heap.size := (Array.getElem?_eq_some_iff.1 HH.out).1
      clear hp hq hg
      generalize trVal k st q = vq at *
      generalize (r.parts.take j).map (trVal k st) = vj at *
      go_wp2_with fail
      refine gI.mono ?_
      rintro e w2 ⟨rfl, hb2⟩
      have HH2 : Hid (w2.heap[w.heap.size]? = some (.cells (twoOf vj) 190 (0, 0))) := by
        show w2.heap[w.heap.size]? = _
        rw [hb2.block _ hlw]
        exact HH.out
      have HB2 : Hid (Below w.heap.size w w2) := HB.out.trans (hb2.mono HB.out.size)
      have d0 : w2.cell? ⟨w.heap.size, j, none⟩ = some (.int .u64 (vj.getD j 0)) := by
        rw [cell_heap HH2.out]
        rcases (show j = 0 ∨ j = 1 by omega) with rfl | rfl <;> rfl
      have f0 := frozen_heap (o := j) HH2.out
      have HH3 : Hid ((w2.setCell ⟨w.heap.size, j, none⟩ (.int .u64 vq)).heap[w.heap.size]? = some (.cells (twoOf ((r.parts.take (j + 1)).map (trVal k st))) 190 (0, 0))) := by
        show (w2.setCell ⟨w.heap.size, j, none⟩ (.int .u64 vq)).heap[w.heap.size]? = _
        rw [heap_set HH2.out, HE.out.1]
        have h := twoOf_put vj vq (by have := HE.out.2; omega)
        rw [HE.out.2] at h
        rw [h]
      have HB3 : Hid (Below w.heap.size w (w2.setCell ⟨w.heap.size, j, none⟩ (.int .u64 vq))) := HB2.out.setCell (p := ⟨w.heap.size, j, none⟩) (Nat.le_refl _) _
      clear gI hb2
      go_wp2_with fail
      go_roundw
      case rel => exact ⟨j + 1, by omega, by go_num, HH3, HB3⟩
      case measure => simp [intOf]; omega
    · obtain rfl : j = ps.length := by omega
      have hh : wr.heap[w.heap.size]? = some (.cells (twoOf (r.parts.map (trVal k st))) 190 (0, 0)) := by
        have h1 := HH.out
        rw [show r.parts.take ps.length = r.parts from by rw [← HL.out, List.take_length]] at h1
        exact h1
      have d0 := cell_heap (o := 0) hh
      have d1 := cell_heap (o := 1) hh
      simp only [twoOf, List.getElem?_toArray, List.getElem?_cons_succ, List.getElem?_cons_zero] at d0 d1
      have m0 : wr.cell? ⟨b, 0, none⟩ = some (.int .i64 op) := by
        rw [HB.out.cell (p := ⟨b, 0, none⟩) HBD.out]
        exact HN0.out
      have m2 : wr.cell? ⟨b, 2, none⟩ = some (.int .i64 r.kind) := by
        rw [HB.out.cell (p := ⟨b, 2, none⟩) HBD.out]
        exact HN2.out
      have HTr : Hid (Tab wr) := HT.out.below HB.out HT.out.some
      clear HH hh HIH HPV HL
      generalize (r.parts.map (trVal k st)).getD 0 0 = x0 at *
      generalize (r.parts.map (trVal k st)).getD 1 0 = x1 at *
      rcases HFIN.out with ⟨hk, gN⟩ | ⟨hk, gH⟩
      · rw [hk] at m2
        have g9 := gN wr.drew HTr.out
        clear hk gN HFIN
        go_wp2_with fail
        go_region_with (go_at_call 143; refine g9.mono ?_; rintro e w9 ⟨rfl, hw9⟩; have HB9 : Hid (Below w.heap.size w w9) := (by rcases hw9 with rfl | rfl; exact HB.out.drew; exact HB.out.drew.drew); clear hw9)
        all_goals
          clear g9
          go_wp2_with fail
          go_ret
          exact ⟨rfl, HB9.out⟩
      · rw [hk] at m2
        have g9 := gH wr.drew HTr.out
        have gB : ∀ p : Bool, (if p = true then (1 : Int) else 0) = Z → Calls Tryd.prog 141 #[.bool p] wr.drew fun e w' => e = .returned (.int .u64 Z) ∧ w' = wr.drew := fun p hz => by rw [← hz]; exact bitOf_any p wr.drew
        have GB : Hid _ := gB
        clear gB
        clear hk gH HFIN
        go_wp2_with fail
        go_region_with (first | (go_at_call 142; refine g9.mono ?_; rintro e w9 ⟨pz, rfl, hz9, rfl⟩; have HZ9 : Hid _ := hz9; clear hz9) | (go_at_call 141; refine (GB.out _ HZ9.out).mono ?_; rintro e w9 ⟨rfl, rfl⟩))
        all_goals
          clear g9 GB
          go_wp2_with fail
          go_ret
          exact ⟨rfl, HB.out.drew⟩
theorem value_any (k : Nat) (hk1 : 1 ≤ k) (hk : k ≤ 64) (vars : Int) (st : List Int) (sv : Value) (hst : ∀ s ∈ st, 0 ≤ s ∧ s < pw k) (hsl : st.length ≤ 1048576) : ∀ r : Tr, ValP k vars st sv r := by
  apply Tr.ind
  intro r ih
  cases r with
  | leaf x =>
    intro b w hT htr hs hok hp hv
    obtain ⟨op, n⟩ := x
    obtain ⟨_, n0, n1, _⟩ := htr
    obtain ⟨h1, h2, m0⟩ := hok
    have hn0 := hp (op, n) (by simp [Tr.flat])
    have hvv := hv (op, n) (by simp [Tr.flat])
    simp only at h1 h2 m0 hn0 hvv n0 n1
    have hop : op = 1 ∨ op = 2 ∨ op = 20 := by
      unfold manyOf at m0
      unfold ownOf at h1
      split at m0
      · omega
      · split at m0
        · omega
        · split at h1
          · omega
          · split at h1 <;> omega
    by_cases h2' : op = 2
    · subst h2'
      obtain ⟨i, rfl⟩ := Int.eq_ofNat_of_zero_le hn0
      have hlt := hvv rfl
      have hi : st[i]? = some (trVal k st (.leaf (2, (i : Int)))) := by
        show st[i]? = some (st.getD ((i : Int).toNat) 0)
        rw [Int.toNat_natCast] at hlt ⊢
        rw [List.getD_eq_getElem?_getD, List.getElem?_eq_getElem hlt]
        rfl
      refine (value_var k sv st b i _ w hsl hs hi n0 n1).mono ?_
      rintro e w' ⟨he, rfl⟩
      exact ⟨he, Below.refl _ _⟩
    · have e : trVal k st (.leaf (op, n)) = n := by
        show val0 st (op, n) = n
        unfold val0
        rw [if_neg h2']
      rw [e]
      refine (value_lit k sv b op n w (by omega) n0 n1).mono ?_
      rintro e w' ⟨he, rfl⟩
      exact ⟨he, Below.refl _ _⟩
  | one x a =>
    intro b w hT htr hs hok hp hv
    obtain ⟨op, n⟩ := x
    obtain ⟨_, _, m1, hka, ha⟩ := id hok
    have hvo := trVal_ok hk1 hk hst ha (fun x hx => hp x (by simp [Tr.flat, hx])) (fun x hx => hv x (by simp [Tr.flat, hx]))
    simp only at m1 hka
    have hop : op = 13 ∨ op = 19 := by
      unfold manyOf at m1
      split at m1
      · assumption
      · split at m1 <;> omega
    refine value_parts k vars st sv (.one (op, n) a) ih (by simp [Tr.parts]) _ ?_ b w hT htr hs hok hp hv
    rcases hop with rfl | rfl
    · left
      rcases hvo with ⟨_, h0, h1⟩ | ⟨h2, _⟩
      · exact ⟨rfl, fun w1 hT1 => numberOf_flip k hk1 hk (trVal k st a) 0 h0 h1 w1 hT1⟩
      · simp only at h2
        rw [h2] at hka
        cases hka
    · right
      rcases hvo with ⟨h2, _⟩ | ⟨_, h0⟩
      · simp only at h2
        rw [h2] at hka
        cases hka
      · exact ⟨rfl, fun w1 hT1 => holdsOf_no k (trVal k st a) 0 h0 w1⟩
  | two x a c =>
    intro b w hT htr hs hok hp hv
    obtain ⟨op, n⟩ := x
    obtain ⟨_, _, m2, hka, hkc, ha, hc⟩ := id hok
    have hva := trVal_ok hk1 hk hst ha (fun x hx => hp x (by simp [Tr.flat, hx])) (fun x hx => hv x (by simp [Tr.flat, hx]))
    have hvc := trVal_ok hk1 hk hst hc (fun x hx => hp x (by simp [Tr.flat, hx])) (fun x hx => hv x (by simp [Tr.flat, hx]))
    simp only at m2 hka hkc
    have hop : (3 ≤ op ∧ op ≤ 12) ∨ (14 ≤ op ∧ op ≤ 16) ∨ (op = 17 ∨ op = 18) := by
      unfold manyOf at m2
      split at m2
      · cases m2
      · split at m2 <;> omega
    have wa := hva.word hk1
    have wc := hvc.word hk1
    simp only at wa wc
    refine value_parts k vars st sv (.two (op, n) a c) ih (by simp [Tr.parts]) _ ?_ b w hT htr hs hok hp hv
    rcases hop with hop | hop | hop
    · left
      exact ⟨by show ownOf op = 1; unfold ownOf; rw [if_pos (by omega)], fun w1 hT1 => numberOf_any op hop k hk1 hk (trVal k st a) (trVal k st c) wa.1 wa.2 wc.1 wc.2 w1 hT1⟩
    · right
      refine ⟨by show ownOf op = 2; unfold ownOf; rw [if_neg (by omega), if_pos (by omega)], fun w1 hT1 => ?_⟩
      rcases (show op = 14 ∨ op = 15 ∨ op = 16 by omega) with rfl | rfl | rfl
      · exact holdsOf_14 k hk1 hk (trVal k st a) (trVal k st c) wa.1 wa.2 wc.1 wc.2 w1 hT1
      · exact holdsOf_15 k hk1 hk (trVal k st a) (trVal k st c) wa.1 wa.2 wc.1 wc.2 w1 hT1
      · exact holdsOf_16 k hk1 hk (trVal k st a) (trVal k st c) wa.1 wa.2 wc.1 wc.2 w1 hT1
    · right
      have hp2 : partOf op = 2 := by
        unfold partOf
        rw [if_neg (by omega), if_pos (by omega)]
      rw [hp2] at hka hkc
      have v1 : trVal k st a = 0 ∨ trVal k st a = 1 := by
        rcases hva with ⟨h, _⟩ | ⟨_, h⟩
        · simp only at h
          rw [h] at hka
          cases hka
        · exact h
      have v2 : trVal k st c = 0 ∨ trVal k st c = 1 := by
        rcases hvc with ⟨h, _⟩ | ⟨_, h⟩
        · simp only at h
          rw [h] at hkc
          cases hkc
        · exact h
      refine ⟨by show ownOf op = 2; unfold ownOf; rw [if_neg (by omega), if_pos (by omega)], fun w1 hT1 => ?_⟩
      rcases hop with rfl | rfl
      · exact holdsOf_17 k (trVal k st a) (trVal k st c) v1 v2 w1
      · exact holdsOf_18 k (trVal k st a) (trVal k st c) v1 v2 w1
end Go.Proofs.YtmhpnkfibecnmaaDoor

namespace Go.Proofs.YtmhpnkfibecnmaaDoor
open Go Go.RowKit
open M
set_option linter.unusedVariables false

end Go.Proofs.YtmhpnkfibecnmaaDoor

namespace Go.Proofs.YtmhpnkfibecnmaaDoor
open Go Go.RowKit
open M
set_option linter.unusedVariables false

theorem equal4 (a b c d : Bool) (w : World) : Sem.run Tryd.prog (Op.equalIn 10000 109 (.agg #[.bool a, .bool b, .bool c, .bool d]) (.agg #[.bool false, .bool false, .bool false, .bool false])) w = .ok (!(a || b || c || d)) w := by
  cases a <;> cases b <;> cases c <;> cases d <;> kernel_rfl
end Go.Proofs.YtmhpnkfibecnmaaDoor

namespace Go.Proofs.YtmhpnkfibecnmaaDoor
open Go Go.RowKit
open M
set_option linter.unusedVariables false

/-- the tree that nodeOver made, among all that lies there -/
theorem tr_all {w w' : World} {S : Nat → Prop} {t : Tr} {b : Nat} (hS : ∀ k, S k → k < w.heap.size) (hb : Below w.heap.size w w') (h : TrAt w' (fun k => S k ∨ (w.heap.size ≤ k ∧ k < w'.heap.size)) t b) : TrAt w' (Old w') t b :=
  TrAt.frame (fun k hk => by
    rcases hk with hk | hk
    · exact Nat.lt_of_lt_of_le (hS k hk) hb.size
    · exact hk.2) (fun _ _ => rfl) h
/-- blocks of S or made since w, which lie there and are not the row's -/
abbrev Mix (S : Nat → Prop) (w wr : World) (v : Value) : Nat → Prop := fun k => (S k ∨ w.heap.size ≤ k) ∧ OldBut wr v k
theorem mix_next {S : Nat → Prop} {w w3 w7 : World} {v v0 v7 : Value} {o : Obj} {l : List Tr} {ps : List Nat} (ht : TrsAt w3 (Mix S w w3 v) l ps) (grow : (w3.alloc o).grownBy w7 v0.ownBlock) (hat : v7.ownBlock = v0.ownBlock ∨ v7.ownBlock = some (w3.heap.size + 1)) (hvb : v0.ownBlock = v.ownBlock) : TrsAt w7 (Mix S w w7 v7) l ps := by
  have hs := grow.size
  rw [show (w3.alloc o).heap.size = w3.heap.size + 1 from by simp] at hs
  refine TrsAt.frame (fun k hk => ⟨hk.1, ?_, ?_⟩) (fun k hk => ?_) ht
  · have := hk.2.1
    omega
  · rcases hat with h | h
    · rw [h, hvb]
      exact hk.2.2
    · rw [h]
      intro e
      have := Option.some.inj e
      have := hk.2.1
      omega
  · rw [grow.block k (by have := hk.2.1; simp; omega) (by rw [hvb]; exact hk.2.2)]
    exact Below.heap_alloc _ _ _ hk.2.1
/-- S or made since w -/
abbrev New (S : Nat → Prop) (w w' : World) : Nat → Prop := fun k => S k ∨ (w.heap.size ≤ k ∧ k < w'.heap.size)
theorem new_low {S : Nat → Prop} {w w1 w' : World} {t : Tr} {b : Nat} (hs : w.heap.size ≤ w1.heap.size) (h : TrAt w' (New S w1 w') t b) : TrAt w' (New S w w') t b :=
  TrAt.frame (fun k hk => hk.elim Or.inl fun h => Or.inr ⟨Nat.le_trans hs h.1, h.2⟩) (fun _ _ => rfl) h
end Go.Proofs.YtmhpnkfibecnmaaDoor
