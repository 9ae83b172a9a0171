/-
  The model's cone: wires that others are made from, put into a list from the last one on.
-/
import Derived.Test.YtnagaanagcmdgaaICone
import Derived.Test.YtnagaanagcmdgaaVars
namespace Go.Proofs.Ytnagaanagcmdgaa
open Go Go.RowKit
open M
set_option linter.unusedVariables false

theorem own_apart_set {w : World} {B B' g cap n n' i : Nat} {e e' : TypeId} {s : Nat} {v u : Value} {xs xs' : List Value} (h : w.ownsRow B e s v n xs) (h' : w.ownsRow B' e' 1 (.slice (some ⟨g, 0, none⟩) n' cap) n' xs') (he : e ≠ e') : (w.setCell ⟨g, i, none⟩ u).ownsRow B e s v n xs :=
  ((rowIn_of h).apart (rowIn_of h') he (h'.stored i u).2).1
theorem VarsOwn.set {w : World} {B B' g cap n' i : Nat} {v u : Value} {l : List Int} {xs' : List Value} (h : VarsOwn w B v l) (h' : w.ownsRow B' 4 1 (.slice (some ⟨g, 0, none⟩) n' cap) n' xs') : VarsOwn (w.setCell ⟨g, i, none⟩ u) B v l := ⟨own_apart_set h.1 h' (by decide), h.2⟩
set_option maxRecDepth 100000 in
set_option maxHeartbeats 4000000 in
theorem l4Cone_any (v wv : Value) (c : Ci) (ws : List Int) (hgd : goodC c = true) (hws : ∀ x ∈ ws, 0 ≤ x ∧ x < c.1 + c.2.1.length) (w : World) (h : AtCirc w v c) (hw : IntsAt w wv ws) :
    Calls Try.prog 82 #[v, wv] w fun e w' => ∃ r, e = .returned r ∧ VarsOwn w' w.heap.size r (upF (coneF c ws) (coneF c ws).length) ∧ Below w.heap.size w w' := by
  obtain ⟨hfit, gw, o, hv, h1, h2⟩ := h
  obtain ⟨ga, gc, hgw, hg⟩ := h1.opened
  obtain ⟨oa, oc, ho⟩ := h2.shape
  subst hgw ho hv
  have hwl := hw.1
  obtain ⟨wa', wcap, hwv, hwc⟩ := hw.opened
  subst hwv
  obtain ⟨hI0, hI1, hG, hO, hgb, _⟩ := goodC_ins hgd
  have hb0 : Below w.heap.size w (w.alloc (.cells #[.int .i64 c.1, .slice ga c.2.1.length gc, .slice oa c.2.2.length oc] 27)) := (Below.refl _ _).alloc (Nat.le_refl _) _
  have x0 := box3_alloc w 27 (.int .i64 c.1) (.slice ga c.2.1.length gc) (.slice oa c.2.2.length oc)
  have hsz : (w.alloc (.cells #[.int .i64 c.1, .slice ga c.2.1.length gc, .slice oa c.2.2.length oc] 27)).heap.size = w.heap.size + 1 := by simp only [World.size_alloc]
  have HG : Hid (∀ (w1 : World), Below w.heap.size w w1 → ∀ (i : Nat) (x : Gt), c.2.1[i]? = some x → ∃ b off : Nat, ga = some ⟨b, off, none⟩ ∧ b < w.heap.size ∧ GateAt w1 b (off + i * 3) x) := fun w1 hb i x hx => by
    obtain ⟨b, off, e, hlt, hat⟩ := hg i x hx
    exact ⟨b, off, e, hlt, hat.below hb hlt⟩
  have HW : Hid (∀ (w1 : World), Below w.heap.size w w1 → ∀ (i : Nat) (x : Int), ws[i]? = some x → ∃ b off : Nat, wa' = some ⟨b, off, none⟩ ∧ w1.cell? ⟨b, off + i, none⟩ = some (.int .i64 x)) := fun w1 hb i x hx => by
    obtain ⟨b, off, e, hlt, hat⟩ := hwc i x hx
    exact ⟨b, off, e, by rw [hb.cell (p := ⟨b, off + i, none⟩) hlt]; exact hat⟩
  have HGB : Hid (∀ (i : Nat) (x : Gt), c.2.1[i]? = some x → gateB (c.1 + i) x = true) := fun i x hx => gatesB_at hgb hx
  have HWS : Hid (∀ x ∈ ws, 0 ≤ x ∧ x < c.1 + c.2.1.length) := hws
  obtain ⟨i0, hi, hz0, hz1, hz2⟩ := info_parts infoBool
  have hFl := coneF_len c ws
  unfold coneF at *
  obtain ⟨ins, gs, os⟩ := c
  simp only at *
  clear hg hwc h1 h2 hgb hfit hgd hws hw
  obtain ⟨I, rfl⟩ := Int.eq_ofNat_of_zero_le hI0
  rw [Int.toNat_natCast]
  obtain ⟨N, hN⟩ : ∃ N : Nat, I + gs.length = N := ⟨_, rfl⟩
  have hNI : (I : Int) + (gs.length : Int) = (N : Int) := by omega
  obtain ⟨F, HF⟩ : ∃ F, Hid (coneD (I : Int) gs gs.length (markB (List.replicate N false) ws) = F) := ⟨_, rfl⟩
  rw [Int.toNat_natCast, hN, HF.out] at hFl
  rw [hN, HF.out, hFl, ← down_all]
  clear hFl
  have g2 := l4Wires_raw (I : Int) ga gs.length gc (.slice oa os.length oc) (by omega) (by omega) (by omega) (w.alloc (.cells #[.int .i64 (I : Int), .slice ga gs.length gc, .slice oa os.length oc] 27))
  rw [hNI] at g2
  have HNI : Hid ((I : Int) + (gs.length : Int) = (N : Int)) := hNI
  have hlt0 := x0.lt
  go_enter Try.func82, Try.ntmps82
  go_wp2_with fail
  refine g2.mono ?_
  clear g2 hNI
  generalize (w.alloc (.cells #[.int .i64 (I : Int), .slice ga gs.length gc, .slice oa os.length oc] 27)) = wa at *
  clear hsz
  rintro e w2 ⟨rfl, hw2⟩
  have hb2 : Below wa.heap.size wa w2 := by
    rw [hw2]
    exact (Below.refl _ _).alloc (Nat.le_refl _) _
  clear hw2
  have hs2 := hb2.size
  go_wp2_with (at_make; refine wpList_make_full _ rfl _ _ 35 rfl wa.heap.size 4 i0 (.bool false) 1 Try.underlying35 hi hz0 hz1 .i64 .i64 _ _ N rfl rfl (by omega) (by omega) (by rw [hz2]; omega) (by unfold maxLen; omega) (by omega) ?_)
  intro w3 hown hgrow
  have hb3 : Below wa.heap.size wa w3 := hb2.grown hgrow hb2.size (fun k hk => by cases hk)
  have HO1 : Hid (w3.ownsRow wa.heap.size 4 1 (.slice (some ⟨w2.heap.size, 0, none⟩) N N) N (cellsB (List.replicate N false))) := by
    have h2 := hown
    rw [toList_madeCells_one] at h2
    show w3.ownsRow wa.heap.size 4 1 (.slice (some ⟨w2.heap.size, 0, none⟩) N N) N (cellsB (List.replicate N false))
    unfold cellsB
    rw [List.map_replicate]
    exact h2
  have HB3 : Hid (Below wa.heap.size wa w3) := hb3
  have HB0 : Hid (Below w.heap.size w wa) := hb0
  have HX : Hid (Box3 wa w.heap.size 27 (.int .i64 (I : Int)) (.slice ga gs.length gc) (.slice oa os.length oc)) := x0
  clear hown hgrow hb3 hb0 hb2 x0
  generalize hQ : w2.heap.size = q at *
  have hq : wa.heap.size ≤ q := by omega
  clear hs2 hQ
  go_wp2_with fail
  go_loopw [15] (fun i wr => ∃ j : Nat, j ≤ ws.length ∧ i = .int .i64 j ∧ Hid (wr.ownsRow wa.heap.size 4 1 (.slice (some ⟨q, 0, none⟩) N N) N (cellsB (markB (List.replicate N false) (ws.take j)))) ∧ Hid (Below wa.heap.size wa wr)) (fun i _ => ws.length - (intOf i).toNat)
  case atStart => exact ⟨0, by omega, rfl, HO1, HB3⟩
  case round =>
    obtain ⟨j, hj, rfl, HO, HB⟩ := hrel
    by_cases hlt : j < ws.length
    · obtain ⟨x, hx⟩ : ∃ x, ws[j]? = some x := ⟨ws[j], List.getElem?_eq_getElem hlt⟩
      obtain ⟨b, off, rfl, d0⟩ := HW.out wr (HB0.out.trans (HB.out.mono HB0.out.size)) j x hx
      obtain ⟨hx0, hx1⟩ := HWS.out x (List.mem_of_getElem? hx)
      obtain ⟨X, rfl⟩ := Int.eq_ofNat_of_zero_le hx0
      have hXN : X < N := by have := HNI.out; omega
      obtain ⟨⟨u0, e0⟩, f0, o0⟩ := mark_at HO.out X hXN
      have HN : Hid ((wr.setCell ⟨q, X, none⟩ (.bool true)).ownsRow wa.heap.size 4 1 (.slice (some ⟨q, 0, none⟩) N N) N (cellsB (markB (List.replicate N false) (ws.take (j + 1))))) := by
        have h1 := o0
        show (wr.setCell ⟨q, X, none⟩ (.bool true)).ownsRow wa.heap.size 4 1 (.slice (some ⟨q, 0, none⟩) N N) N (cellsB (markB (List.replicate N false) (ws.take (j + 1))))
        rw [List.take_add_one, hx]
        show (wr.setCell ⟨q, X, none⟩ (.bool true)).ownsRow wa.heap.size 4 1 (.slice (some ⟨q, 0, none⟩) N N) N (cellsB (markB (List.replicate N false) (ws.take j ++ [(X : Int)])))
        rw [markB_snoc, Int.toNat_natCast]
        exact h1
      have HBN : Hid (Below wa.heap.size wa (wr.setCell ⟨q, X, none⟩ (.bool true))) := HB.out.setCell (by show wa.heap.size ≤ q; omega) _
      clear hx HO HB o0 HG HW HGB HWS HO1 HB3 hx1 HNI HF HX HB0
      go_wp2_with fail
      go_roundw
      case rel => exact ⟨j + 1, by omega, by go_num, HN, HBN⟩
      case measure => simp [intOf]; omega
    · obtain rfl : j = ws.length := by omega
      have HO2 : Hid (wr.ownsRow wa.heap.size 4 1 (.slice (some ⟨q, 0, none⟩) N N) N (cellsB (markB (List.replicate N false) ws))) := by
        have h1 := HO.out
        rw [List.take_length] at h1
        exact h1
      have HB2 : Hid (Below wa.heap.size wa wr) := HB.out
      have y1 := HX.out.below HB.out (by omega)
      obtain ⟨c0, c1, c2⟩ := y1.cells
      have hh := y1.heap
      have hlt1 := y1.lt
      have HS : Hid (wa.heap.size ≤ wr.heap.size) := HB.out.size
      clear HO HB HO1 HB3 HW HWS hlt
      go_wp2_with fail
      clear c0 c1 c2 hh hlt1 y1
      go_loopw [8, 9] (fun vo i wr => ∃ (j : Nat) (m : List Bool), j ≤ N ∧ i = .int .i64 ((j : Int) - 1) ∧ Hid (wr.ownsRow wa.heap.size 4 1 (.slice (some ⟨q, 0, none⟩) N N) N (cellsB m)) ∧ Hid (Below wa.heap.size wa wr) ∧ Hid (coneD (I : Int) gs (j - I) m = F) ∧ Hid (VarsOwn wr wa.heap.size vo (downF F N (N - j)))) (fun _ i _ => (intOf i + 1).toNat)
      case atStart =>
        have e1 : N - I = gs.length := by omega
        refine ⟨N, _, by omega, rfl, HO2, HB2, ?_, ?_⟩
        · show coneD (I : Int) gs (N - I) _ = F
          rw [e1]
          exact HF.out
        · show VarsOwn _ _ _ (downF F N (N - N))
          rw [Nat.sub_self]
          exact ⟨World.ownsRow_nil _ _ _ _, fun _ => rfl⟩
      case round =>
        clear HO2 HB2 HF HS
        obtain ⟨j, m, hj, rfl, HO, HB, HC, HV⟩ := hrel
        have y2 := HX.out.below HB.out (by omega)
        obtain ⟨c0, c1, c2⟩ := y2.cells
        have hh := y2.heap
        have hlt2 := y2.lt
        have hszr := HB.out.size
        clear y2
        match j, hj, HC, HV with
        | 0, hj, HC, HV =>
          have HN : Hid (VarsOwn wr w.heap.size u8 (downF F N N)) := ⟨own_base HV.out.1 HB0.out.size, HV.out.2⟩
          have HBN : Hid (Below w.heap.size w wr) := HB0.out.trans (HB.out.mono HB0.out.size)
          clear HO HB HC HG HGB HX HB0 HV
          go_wp2_with fail
          go_ret
          exact ⟨_, rfl, HN.out, HBN.out⟩
        | J + 1, hj, HC, HV =>
          have hJ : (((J + 1 : Nat) : Int) - 1) = (J : Int) := by omega
          rw [hJ]
          have hJN : J < N := by omega
          have r0 := own_read HO.out J hJN
          have hread := cone_read HGB.out (show J < I + gs.length by omega) HC.out
          obtain ⟨va, vcp, hv8⟩ := own_shape HV.out.1
          have hdl := downF_len F N (N - (J + 1))
          cases hb : at' m (J : Int) with
          | false =>
            rw [hb] at r0
            have HC3 : Hid (coneD (I : Int) gs (J - I) m = F) := cone_skip hb HC.out
            have HV3 : Hid (VarsOwn wr wa.heap.size u8 (downF F N (N - J))) := by
              have h1 := HV.out
              rw [← down_no hJN (hread.trans hb)] at h1
              exact h1
            clear HC hb HG HGB HV hread hv8
            go_wp2_with fail
            go_roundw
            case rel => exact ⟨J, m, by omega, by go_num, HO, HB, HC3, HV3⟩
            case measure => simp [intOf]
          | true =>
            rw [hb] at r0
            have g3 := l1Put_any u8 (downF F N (N - (J + 1))) (J : Int) (by omega) (by omega) (by omega) wr wa.heap.size hszr HV.out
            rw [← down_yes hJN (hread.trans hb)] at g3
            subst hv8
            generalize (downF F N (N - (J + 1))).length = dl at *
            clear hread HV
            go_wp2_with fail
            refine g3.mono ?_
            rintro e w5 ⟨rv, rfl, hv5, hs5⟩
            clear g3
            have HO5 : Hid (w5.ownsRow wa.heap.size 4 1 (.slice (some ⟨q, 0, none⟩) N N) N (cellsB m)) := owns_below HO.out hs5
            have HB5 : Hid (Below wa.heap.size wa w5) := HB.out.trans (hs5.mono hszr)
            have HV5 : Hid (VarsOwn w5 wa.heap.size rv (downF F N (N - J))) := hv5
            have y3 := HX.out.below HB5.out (by omega)
            obtain ⟨c0, c1, c2⟩ := y3.cells
            have hh := y3.heap
            have hlt3 := y3.lt
            clear hv5 hs5 HO HB y3 hszr
            by_cases hIJ : J < I
            · have HC3 : Hid (coneD (I : Int) gs (J - I) m = F) := cone_low hIJ HC.out
              clear HC HG HGB hb
              go_wp2_with fail
              go_roundw
              case rel => exact ⟨J, m, by omega, by go_num, HO5, HB5, HC3, HV5⟩
              case measure => simp [intOf]
            · obtain ⟨G, hG1⟩ : ∃ G : Nat, J - I = G := ⟨_, rfl⟩
              have hGI : (J : Int) - (I : Int) = (G : Int) := by omega
              have hGW : IntKind.i64.wrap ((J : Int) - (I : Int)) = (G : Int) := by rw [hGI]; exact IntWalk.i64_in _ (by omega)
              have hGl : G < gs.length := by omega
              obtain ⟨x, hx⟩ : ∃ x, gs[G]? = some x := ⟨gs[G], List.getElem?_eq_getElem hGl⟩
              obtain ⟨b, off, rfl, hbw, d0, d1, d2⟩ := HG.out w5 (HB0.out.trans (HB5.out.mono HB0.out.size)) G x hx
              have hgk := gateB_kind (HGB.out G x hx)
              have HC3 : Hid (coneD (I : Int) gs (J - I) (markB m (takenL x)) = F) := cone_gate (by omega) (by rw [hG1]; exact hx) hb HC.out
              obtain ⟨kk, xa, xb⟩ := x
              simp only at d0 d1 d2 hgk
              have hIJ' : (I : Int) ≤ (J : Int) := by omega
              clear HC HG HGB hb hx
              rcases hgk with ⟨rfl, ha0, ha1, rfl⟩ | ⟨rfl, ⟨ha0, ha1⟩, rfl⟩ | ⟨hk, ⟨ha0, ha1⟩, ⟨hb0, hb1⟩⟩
              · go_wp2_with fail
                go_roundw
                case rel => exact ⟨J, m, by omega, by go_num, HO5, HB5, HC3, HV5⟩
                case measure => simp [intOf]
              · obtain ⟨A, rfl⟩ := Int.eq_ofNat_of_zero_le ha0
                have hAN : A < N := by omega
                obtain ⟨⟨u0, e0⟩, f0, o0⟩ := mark_at HO5.out A hAN
                have HO6 : Hid ((w5.setCell ⟨q, A, none⟩ (.bool true)).ownsRow wa.heap.size 4 1 (.slice (some ⟨q, 0, none⟩) N N) N (cellsB (m.set A true))) := o0
                have HB6 : Hid (Below wa.heap.size wa (w5.setCell ⟨q, A, none⟩ (.bool true))) := HB5.out.setCell (by show wa.heap.size ≤ q; omega) _
                have HV6 : Hid (VarsOwn (w5.setCell ⟨q, A, none⟩ (.bool true)) wa.heap.size rv (downF F N (N - J))) := HV5.out.set HO5.out
                have HC6 : Hid (coneD (I : Int) gs (J - I) (m.set A true) = F) := HC3.out
                have z1 := (HX.out.below HB6.out (by omega)).cells
                obtain ⟨k0, k1, k2⟩ := z1
                have hqb : b ≠ q := by omega
                have hqb2 : w.heap.size ≠ q := by omega
                clear o0 HO5 HB5 HV5 HC3
                go_wp2_with fail
                go_roundw
                case rel => exact ⟨J, m.set A true, by omega, by go_num, HO6, HB6, HC6, HV6⟩
                case measure => simp [intOf]
              · obtain ⟨A, rfl⟩ := Int.eq_ofNat_of_zero_le ha0
                obtain ⟨Bw, rfl⟩ := Int.eq_ofNat_of_zero_le hb0
                have hAN : A < N := by omega
                have hBN : Bw < N := by omega
                obtain ⟨⟨u0, e0⟩, f0, o0⟩ := mark_at HO5.out A hAN
                obtain ⟨⟨u1, e1⟩, f1, o1⟩ := mark_at o0 Bw hBN
                have HO6 : Hid (((w5.setCell ⟨q, A, none⟩ (.bool true)).setCell ⟨q, Bw, none⟩ (.bool true)).ownsRow wa.heap.size 4 1 (.slice (some ⟨q, 0, none⟩) N N) N (cellsB ((m.set A true).set Bw true))) := o1
                have HB6 : Hid (Below wa.heap.size wa ((w5.setCell ⟨q, A, none⟩ (.bool true)).setCell ⟨q, Bw, none⟩ (.bool true))) := (HB5.out.setCell (by show wa.heap.size ≤ q; omega) _).setCell (by show wa.heap.size ≤ q; omega) _
                have HV6 : Hid (VarsOwn ((w5.setCell ⟨q, A, none⟩ (.bool true)).setCell ⟨q, Bw, none⟩ (.bool true)) wa.heap.size rv (downF F N (N - J))) := (HV5.out.set HO5.out).set o0
                have HC6 : Hid (coneD (I : Int) gs (J - I) ((m.set A true).set Bw true) = F) := by
                  have h1 := HC3.out
                  unfold takenL at h1
                  rw [if_pos hk] at h1
                  show coneD (I : Int) gs (J - I) ((m.set A true).set Bw true) = F
                  rw [set_swap]
                  exact h1
                have hqb : b ≠ q := by omega
                have hqb2 : w.heap.size ≠ q := by omega
                clear o0 o1 HO5 HB5 HV5 HC3
                rcases hk with rfl | rfl | rfl
                all_goals
                  go_wp2_with fail
                  go_roundw
                  case rel => exact ⟨J, (m.set A true).set Bw true, by omega, by go_num, HO6, HB6, HC6, HV6⟩
                  case measure => simp [intOf]
end Go.Proofs.Ytnagaanagcmdgaa
