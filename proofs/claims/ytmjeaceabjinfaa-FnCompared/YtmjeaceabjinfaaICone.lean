/-
  The program's cone: some wires of a circuit marked, and all from which they are made.
-/
import Derived.Test.YtmjeaceabjinfaaConeM
import Derived.Test.YtmjeaceabjinfaaRun
import Derived.Test.YtmjeaceabjinfaaIGood4
import Derived.Handy
namespace Go.Proofs.Ytmjeaceabjinfaa
open Go Go.RowKit
open M
set_option linter.unusedVariables false

theorem mark_at {w : World} {B g cap n : Nat} {m : List Bool} (h : w.ownsRow B 4 1 (.slice (some ⟨g, 0, none⟩) n cap) n (cellsB m)) (i : Nat) (hi : i < n) :
    (∃ u, w.cell? ⟨g, i, none⟩ = some u) ∧ w.frozen? ⟨g, i, none⟩ = false ∧ (w.setCell ⟨g, i, none⟩ (.bool true)).ownsRow B 4 1 (.slice (some ⟨g, 0, none⟩) n cap) n (cellsB (m.set i true)) := by
  have hl := h.1
  refine ⟨?_, h.frozenAt i, ?_⟩
  · refine ⟨_, (h.cellAt i (by omega)).trans (List.getElem?_eq_getElem (by omega))⟩
  · have st := (h.stored i (.bool true)).1
    unfold cellsB at *
    rw [List.map_set]
    exact st
theorem own_read {w : World} {B g cap n : Nat} {m : List Bool} (h : w.ownsRow B 4 1 (.slice (some ⟨g, 0, none⟩) n cap) n (cellsB m)) (i : Nat) (hi : i < n) : w.cell? ⟨g, i, none⟩ = some (.bool (at' m i)) := by
  have hl : m.length = n := by
    have := h.1
    unfold cellsB at this
    simpa using this
  rw [h.cellAt i (by omega)]
  unfold cellsB at'
  rw [List.getElem?_map, List.getElem?_eq_getElem (by omega), Int.toNat_natCast, List.getD_eq_getElem?_getD, List.getElem?_eq_getElem (by omega)]
  rfl
theorem cell_other {w : World} {g b o : Nat} {p : Nat} {v : Value} (h : b ≠ g) : (w.setCell ⟨g, p, none⟩ v).cell? ⟨b, o, none⟩ = w.cell? ⟨b, o, none⟩ := by
  have e := Below.heap_setCell w ⟨g, p, none⟩ v b (by exact h)
  simp only [World.cell?, e]
theorem takenL_len (g : Gt) : (takenL g).length ≤ 2 := by
  unfold takenL
  split
  · simp
  · split <;> simp
set_option maxRecDepth 100000 in
set_option maxHeartbeats 4000000 in
theorem cone_any (v wv : Value) (c : Ci) (ws : List Int) (hgd : goodC c = true) (hws : ∀ x ∈ ws, 0 ≤ x ∧ x < c.1 + c.2.1.length) (w : World) (h : AtCirc w v c) (hw : IntsAt w wv ws) :
    Calls Try.prog 89 #[v, wv] w fun e w' => ∃ r, e = .returned r ∧ OwnBools w' w.heap.size r (coneF c ws) ∧ Below w.heap.size w w' := by
  obtain ⟨hfit, gw, o, hv, h1, h2⟩ := h
  obtain ⟨ga, gc, hgw, hg⟩ := h1.opened
  obtain ⟨oa, oc, ho⟩ := h2.shape
  subst hgw ho hv
  have hwl := hw.1
  obtain ⟨wa', wcap, hwv, hwc⟩ := hw.opened
  subst hwv
  obtain ⟨hI0, hI1, hG, hO, hgb, _⟩ := goodC_ins hgd
  have hb0 : Below w.heap.size w (w.alloc (.cells #[.int .i64 c.1, .slice ga c.2.1.length gc, .slice oa c.2.2.length oc] 27)) := (Below.refl _ _).alloc (Nat.le_refl _) _
  have x0 := box3_alloc w 27 (.int .i64 c.1) (.slice ga c.2.1.length gc) (.slice oa c.2.2.length oc)
  have hsz : (w.alloc (.cells #[.int .i64 c.1, .slice ga c.2.1.length gc, .slice oa c.2.2.length oc] 27)).heap.size = w.heap.size + 1 := by simp only [World.size_alloc]
  have HG : Hid (∀ (w1 : World), Below w.heap.size w w1 → ∀ (i : Nat) (x : Gt), c.2.1[i]? = some x → ∃ b off : Nat, ga = some ⟨b, off, none⟩ ∧ GateAt w1 b (off + i * 3) x) := fun w1 hb i x hx => by
    obtain ⟨b, off, e, hlt, hat⟩ := hg i x hx
    exact ⟨b, off, e, hat.below hb hlt⟩
  have HW : Hid (∀ (w1 : World), Below w.heap.size w w1 → ∀ (i : Nat) (x : Int), ws[i]? = some x → ∃ b off : Nat, wa' = some ⟨b, off, none⟩ ∧ w1.cell? ⟨b, off + i, none⟩ = some (.int .i64 x)) := fun w1 hb i x hx => by
    obtain ⟨b, off, e, hlt, hat⟩ := hwc i x hx
    exact ⟨b, off, e, by rw [hb.cell (p := ⟨b, off + i, none⟩) hlt]; exact hat⟩
  have HGB : Hid (∀ (i : Nat) (x : Gt), c.2.1[i]? = some x → gateB (c.1 + i) x = true) := fun i x hx => gatesB_at hgb hx
  have HWS : Hid (∀ x ∈ ws, 0 ≤ x ∧ x < c.1 + c.2.1.length) := hws
  obtain ⟨i0, hi, hz0, hz1, hz2⟩ := info_parts infoBool
  unfold coneF
  obtain ⟨ins, gs, os⟩ := c
  simp only at *
  clear hg hwc h1 h2 hgb hfit hgd hws hw
  obtain ⟨I, rfl⟩ := Int.eq_ofNat_of_zero_le hI0
  rw [Int.toNat_natCast]
  obtain ⟨N, hN⟩ : ∃ N : Nat, I + gs.length = N := ⟨_, rfl⟩
  have hNI : (I : Int) + (gs.length : Int) = (N : Int) := by omega
  obtain ⟨F, HF⟩ : ∃ F, Hid (coneD (I : Int) gs gs.length (markB (List.replicate N false) ws) = F) := ⟨_, rfl⟩
  rw [hN, HF.out]
  have g2 := size_raw (I : Int) ga gs.length gc (.slice oa os.length oc) (by omega) (by omega) (by omega) (w.alloc (.cells #[.int .i64 (I : Int), .slice ga gs.length gc, .slice oa os.length oc] 27))
  rw [hNI] at g2
  have HNI : Hid ((I : Int) + (gs.length : Int) = (N : Int)) := hNI
  have hlt0 := x0.lt
  go_enter Try.func89, Try.ntmps89
  go_wp2_with fail
  refine g2.mono ?_
  clear g2 hNI
  generalize (w.alloc (.cells #[.int .i64 (I : Int), .slice ga gs.length gc, .slice oa os.length oc] 27)) = wa at *
  clear hsz
  rintro e w2 ⟨rfl, hw2⟩
  have hb2 : Below wa.heap.size wa w2 := by
    rw [hw2]
    exact (Below.refl _ _).alloc (Nat.le_refl _) _
  clear hw2
  have hs2 := hb2.size
  go_wp2_with (at_make; refine wpList_make_full _ rfl _ _ 33 rfl wa.heap.size 4 i0 (.bool false) 1 Try.underlying33 hi hz0 hz1 .i64 .i64 _ _ N rfl rfl (by omega) (by omega) (by rw [hz2]; omega) (by unfold maxLen; omega) (by omega) ?_)
  intro w3 hown hgrow
  have hb3 : Below wa.heap.size wa w3 := hb2.grown hgrow hb2.size (fun k hk => by cases hk)
  have HO1 : Hid (w3.ownsRow wa.heap.size 4 1 (.slice (some ⟨w2.heap.size, 0, none⟩) N N) N (cellsB (List.replicate N false))) := by
    have h2 := hown
    rw [toList_madeCells_one] at h2
    show w3.ownsRow wa.heap.size 4 1 (.slice (some ⟨w2.heap.size, 0, none⟩) N N) N (cellsB (List.replicate N false))
    unfold cellsB
    rw [List.map_replicate]
    exact h2
  have HB3 : Hid (Below wa.heap.size wa w3) := hb3
  have HB0 : Hid (Below w.heap.size w wa) := hb0
  have HX : Hid (Box3 wa w.heap.size 27 (.int .i64 (I : Int)) (.slice ga gs.length gc) (.slice oa os.length oc)) := x0
  clear hown hgrow hb3 hb0 hb2 x0
  generalize hQ : w2.heap.size = q at *
  have hq : wa.heap.size ≤ q := by omega
  clear hs2 hQ
  go_wp2_with fail
  go_loopw [16] (fun i wr => ∃ j : Nat, j ≤ ws.length ∧ i = .int .i64 j ∧ Hid (wr.ownsRow wa.heap.size 4 1 (.slice (some ⟨q, 0, none⟩) N N) N (cellsB (markB (List.replicate N false) (ws.take j)))) ∧ Hid (Below wa.heap.size wa wr)) (fun i _ => ws.length - (intOf i).toNat)
  case atStart => exact ⟨0, by omega, rfl, HO1, HB3⟩
  case round =>
    obtain ⟨j, hj, rfl, HO, HB⟩ := hrel
    by_cases hlt : j < ws.length
    · obtain ⟨x, hx⟩ : ∃ x, ws[j]? = some x := ⟨ws[j], List.getElem?_eq_getElem hlt⟩
      obtain ⟨b, off, rfl, d0⟩ := HW.out wr (HB0.out.trans (HB.out.mono HB0.out.size)) j x hx
      obtain ⟨hx0, hx1⟩ := HWS.out x (List.mem_of_getElem? hx)
      obtain ⟨X, rfl⟩ := Int.eq_ofNat_of_zero_le hx0
      have hXN : X < N := by have := HNI.out; omega
      obtain ⟨⟨u0, e0⟩, f0, o0⟩ := mark_at HO.out X hXN
      have HN : Hid ((wr.setCell ⟨q, X, none⟩ (.bool true)).ownsRow wa.heap.size 4 1 (.slice (some ⟨q, 0, none⟩) N N) N (cellsB (markB (List.replicate N false) (ws.take (j + 1))))) := by
        have h1 := o0
        show (wr.setCell ⟨q, X, none⟩ (.bool true)).ownsRow wa.heap.size 4 1 (.slice (some ⟨q, 0, none⟩) N N) N (cellsB (markB (List.replicate N false) (ws.take (j + 1))))
        rw [List.take_add_one, hx]
        show (wr.setCell ⟨q, X, none⟩ (.bool true)).ownsRow wa.heap.size 4 1 (.slice (some ⟨q, 0, none⟩) N N) N (cellsB (markB (List.replicate N false) (ws.take j ++ [(X : Int)])))
        rw [markB_snoc, Int.toNat_natCast]
        exact h1
      have HBN : Hid (Below wa.heap.size wa (wr.setCell ⟨q, X, none⟩ (.bool true))) := HB.out.setCell (by show wa.heap.size ≤ q; omega) _
      clear hx HO HB o0 HG HW HGB HWS HO1 HB3 hx1 HNI HF HX HB0
      go_wp2_with fail
      go_roundw
      case rel => exact ⟨j + 1, by omega, by go_num, HN, HBN⟩
      case measure => simp [intOf]; omega
    · obtain rfl : j = ws.length := by omega
      have HO2 : Hid (wr.ownsRow wa.heap.size 4 1 (.slice (some ⟨q, 0, none⟩) N N) N (cellsB (markB (List.replicate N false) ws))) := by
        have h1 := HO.out
        rw [List.take_length] at h1
        exact h1
      have HB2 : Hid (Below wa.heap.size wa wr) := HB.out
      have y1 := HX.out.below HB.out (by omega)
      obtain ⟨c0, c1, c2⟩ := y1.cells
      have hh := y1.heap
      have hlt1 := y1.lt
      have HS : Hid (wa.heap.size ≤ wr.heap.size) := HB.out.size
      clear HO HB HO1 HB3 HW HWS hlt
      go_wp2_with fail
      clear c0 c1 c2 hh hlt1 y1
      go_loopw [8] (fun i wr => ∃ (j : Nat) (m : List Bool), j ≤ gs.length ∧ i = .int .i64 ((j : Int) - 1) ∧ Hid (wr.ownsRow wa.heap.size 4 1 (.slice (some ⟨q, 0, none⟩) N N) N (cellsB m)) ∧ Hid (Below wa.heap.size wa wr) ∧ Hid (coneD (I : Int) gs j m = F)) (fun i _ => (intOf i + 1).toNat)
      case atStart => exact ⟨gs.length, _, by omega, rfl, HO2, HB2, HF⟩
      case round =>
        clear HO2 HB2 HF HS
        obtain ⟨j, m, hj, rfl, HO, HB, HC⟩ := hrel
        have y2 := HX.out.below HB.out (by omega)
        obtain ⟨c0, c1, c2⟩ := y2.cells
        have hh := y2.heap
        have hlt2 := y2.lt
        have hszr := HB.out.size
        clear y2
        match j, hj, HC with
        | 0, hj, HC =>
          have HN : Hid (OwnBools wr w.heap.size (.slice (some ⟨q, 0, none⟩) N N) F) := by
            show OwnBools wr w.heap.size (.slice (some ⟨q, 0, none⟩) N N) F
            rw [← HC.out]
            have hl : m.length = N := by
              have := HO.out.1
              unfold cellsB at this
              simpa using this
            show wr.ownsRow w.heap.size 4 1 _ m.length (cellsB m)
            rw [hl]
            exact own_base HO.out HB0.out.size
          have HBN : Hid (Below w.heap.size w wr) := HB0.out.trans (HB.out.mono HB0.out.size)
          clear HO HB HC HG HGB HX HB0
          go_wp2_with fail
          go_ret
          exact ⟨_, rfl, HN.out, HBN.out⟩
        | J + 1, hj, HC =>
          have hJ : (((J + 1 : Nat) : Int) - 1) = (J : Int) := by omega
          rw [hJ]
          have hJl : J < gs.length := by omega
          obtain ⟨x, hx⟩ : ∃ x, gs[J]? = some x := ⟨gs[J], List.getElem?_eq_getElem hJl⟩
          obtain ⟨b, off, rfl, d0, d1, d2⟩ := HG.out wr (HB0.out.trans (HB.out.mono HB0.out.size)) J x hx
          have hgg := HGB.out J x hx
          obtain ⟨K, hK⟩ : ∃ K : Nat, (I : Int) + (J : Int) = (K : Int) := ⟨I + J, by omega⟩
          have hKN : K < N := by have := HNI.out; omega
          have r0 := own_read HO.out K hKN
          have hst : stepB (I : Int) gs m J = if at' m (K : Int) = true then markB m (takenL x) else m := by
            unfold stepB
            rw [hK, List.getD_eq_getElem?_getD, hx]
            rfl
          have HST : Hid _ := hst
          clear hst
          have HC2 : Hid (coneD (I : Int) gs J (stepB (I : Int) gs m J) = F) := HC.out
          cases hb : at' m (K : Int) with
          | false =>
            rw [hb] at r0
            have HC3 : Hid (coneD (I : Int) gs J m = F) := by
              have h1 := HC2.out
              rw [HST.out, if_neg (by rw [hb]; decide)] at h1
              exact h1
            clear HC HC2 HST hb HG HGB hgg hx
            go_wp2_with fail
            go_roundw
            case rel => exact ⟨J, m, by omega, by go_num, HO, HB, HC3⟩
            case measure => simp [intOf]
          | true =>
            rw [hb] at r0
            have HC3 : Hid (coneD (I : Int) gs J (markB m (takenL x)) = F) := by
              have h1 := HC2.out
              rw [HST.out, if_pos hb] at h1
              exact h1
            have HT : Hid (∀ y ∈ takenL x, 0 ≤ y ∧ y < (K : Int)) := by
              have h1 := taken_lt hgg
              rw [hK] at h1
              exact h1
            have htl := takenL_len x
            obtain ⟨kk, xa, xb⟩ := x
            simp only at d0 d1 d2
            have g3 := taken_any (kk, xa, xb) wr
            unfold gv at g3
            simp only at g3
            generalize takenL (kk, xa, xb) = t at *
            clear HC HC2 HST hb HG HGB hgg hx
            go_wp2_with fail
            refine g3.mono ?_
            rintro e w5 ⟨rv, rfl, ho5, hs5⟩
            obtain ⟨ra, rcap, hrv⟩ := own_shape ho5
            subst hrv
            have hqr : q < wr.heap.size := (own_block HO.out rfl).2
            have HO5 : Hid (w5.ownsRow wa.heap.size 4 1 (.slice (some ⟨q, 0, none⟩) N N) N (cellsB m)) := owns_below HO.out hs5
            have HB5 : Hid (Below wa.heap.size wa w5) := HB.out.trans (hs5.mono hszr)
            have hsz5 := hs5.size
            have HR5 : Hid (∀ (i : Nat) (y : Int), t[i]? = some y → ∃ rb : Nat, ra = some ⟨rb, 0, none⟩ ∧ q < rb ∧ w5.cell? ⟨rb, i, none⟩ = some (.int .i64 y)) := by
              intro i y hy
              have hi' : i < t.length := (List.getElem?_eq_some_iff.1 hy).1
              rcases ho5.2 with ⟨_, hz⟩ | ⟨rb, cap', cur, hv', hrb, _⟩
              · omega
              · injection hv' with e1
                subst e1
                refine ⟨rb, rfl, by omega, ?_⟩
                rw [World.ownsRow.cellAt ho5 i (by omega)]
                simp [hy]
            clear g3 ho5 hs5 HO HB c0 c1 c2 hh hlt2 d0 d1 d2 r0
            go_wp2_with fail
            go_loopw [47] (fun i wr => ∃ jj : Nat, jj ≤ t.length ∧ i = .int .i64 jj ∧ Hid (wr.ownsRow wa.heap.size 4 1 (.slice (some ⟨q, 0, none⟩) N N) N (cellsB (markB m (t.take jj)))) ∧ Hid (Below wa.heap.size wa wr) ∧ Hid (∀ (i : Nat) (y : Int), t[i]? = some y → ∃ rb : Nat, ra = some ⟨rb, 0, none⟩ ∧ q < rb ∧ wr.cell? ⟨rb, i, none⟩ = some (.int .i64 y))) (fun i _ => t.length - (intOf i).toNat)
            case atStart => exact ⟨0, by omega, rfl, HO5, HB5, HR5⟩
            case round =>
              clear HO5 HB5 HR5
              obtain ⟨jj, hjj, rfl, HO, HB, HR⟩ := hrel
              by_cases hlt : jj < t.length
              · obtain ⟨y, hy⟩ : ∃ y, t[jj]? = some y := ⟨t[jj], List.getElem?_eq_getElem hlt⟩
                obtain ⟨rb, rfl, hqb, d0⟩ := HR.out jj y hy
                obtain ⟨hy0, hy1⟩ := HT.out y (List.mem_of_getElem? hy)
                obtain ⟨Y, rfl⟩ := Int.eq_ofNat_of_zero_le hy0
                have hYN : Y < N := by omega
                obtain ⟨⟨u0, e0⟩, f0, o0⟩ := mark_at HO.out Y hYN
                have HN : Hid ((wr.setCell ⟨q, Y, none⟩ (.bool true)).ownsRow wa.heap.size 4 1 (.slice (some ⟨q, 0, none⟩) N N) N (cellsB (markB m (t.take (jj + 1))))) := by
                  have h1 := o0
                  show (wr.setCell ⟨q, Y, none⟩ (.bool true)).ownsRow wa.heap.size 4 1 (.slice (some ⟨q, 0, none⟩) N N) N (cellsB (markB m (t.take (jj + 1))))
                  rw [List.take_add_one, hy]
                  show (wr.setCell ⟨q, Y, none⟩ (.bool true)).ownsRow wa.heap.size 4 1 (.slice (some ⟨q, 0, none⟩) N N) N (cellsB (markB m (t.take jj ++ [(Y : Int)])))
                  rw [markB_snoc, Int.toNat_natCast]
                  exact h1
                have HBN : Hid (Below wa.heap.size wa (wr.setCell ⟨q, Y, none⟩ (.bool true))) := HB.out.setCell (by show wa.heap.size ≤ q; omega) _
                have HRN : Hid (∀ (i : Nat) (y : Int), t[i]? = some y → ∃ rb' : Nat, (some ⟨rb, 0, none⟩ : Option Addr) = some ⟨rb', 0, none⟩ ∧ q < rb' ∧ (wr.setCell ⟨q, Y, none⟩ (.bool true)).cell? ⟨rb', i, none⟩ = some (.int .i64 y)) := by
                  intro i y hy'
                  obtain ⟨rb', e1, h1, h2⟩ := HR.out i y hy'
                  exact ⟨rb', e1, h1, by rw [cell_other (by omega)]; exact h2⟩
                clear hy HO HB HR o0 hy1 HT HC3 HB0 HX
                go_wp2_with fail
                go_roundw
                case rel => exact ⟨jj + 1, by omega, by go_num, HN, HBN, HRN⟩
                case measure => simp [intOf]; omega
              · obtain rfl : jj = t.length := by omega
                have HN : Hid (wr.ownsRow wa.heap.size 4 1 (.slice (some ⟨q, 0, none⟩) N N) N (cellsB (markB m t))) := by
                  have h1 := HO.out
                  rw [List.take_length] at h1
                  exact h1
                clear HO HR HT
                go_wp2_with fail
                go_roundw
                case rel => exact ⟨J, markB m t, by omega, by go_num, HN, HB, HC3⟩
                case measure => simp [intOf]
end Go.Proofs.Ytmjeaceabjinfaa
