/-
  When values meet a set of clauses: the model's Meets.
-/
import Derived.Test.YtmjeaceabjinfaaMeets
namespace Go.Proofs.Ytmjeaceabjinfaa
open Go Go.RowKit
open M
set_option linter.unusedVariables false

theorem l6Sign_any (v : Value) (S : List Int) (x : Int) (hS : ∀ s ∈ S, -1 ≤ s ∧ s ≤ 1) (hl : S.length ≤ 1000) (h1 : x.natAbs < S.length) (w : World) (h : IntsAt w v S) :
    Calls Try.prog 110 #[v, .int .i64 x] w fun e w' => e = .returned (.int .i64 (signV S x)) ∧ w' = w := by
  obtain ⟨a, cap, rfl, hc⟩ := h.opened
  obtain ⟨k, hk⟩ : ∃ k : Nat, x.natAbs = k := ⟨_, rfl⟩
  obtain ⟨s, hs⟩ : ∃ s, S[k]? = some s := ⟨S[k]'(by omega), List.getElem?_eq_getElem (by omega)⟩
  obtain ⟨b, off, rfl, hb, c0⟩ := hc k s hs
  obtain ⟨hs0, hs1⟩ := hS s (List.mem_of_getElem? hs)
  have hg : S.getD k 0 = s := by rw [List.getD_eq_getElem?_getD, hs]; rfl
  generalize hsl : S.length = sl at *
  unfold signV
  by_cases hx : x < 0
  · have e1 : (-x).toNat = k := by omega
    rw [if_pos hx, e1, hg]
    obtain rfl : x = -(k : Int) := by omega
    clear hc hS hs hg hsl h e1
    have e2 : (- -(k : Int)) = (k : Int) := by omega
    go_enter Try.func110, Try.ntmps110
    go_wp2_with fail
    go_ret
    exact ⟨rfl, rfl⟩
  · have e1 : x.toNat = k := by omega
    rw [if_neg hx, e1, hg]
    obtain rfl : x = (k : Int) := by omega
    clear hc hS hs hg hsl h e1
    go_enter Try.func110, Try.ntmps110
    go_wp2_with fail
    go_ret
    exact ⟨rfl, rfl⟩
set_option maxRecDepth 100000 in
set_option maxHeartbeats 2000000 in
theorem sMeets_any (v bv : Value) (c : Cn) (vals : List Bool) (w : World) (h : AtCnf w v c) (hb : BoolsAt w bv vals) :
    Calls Try.prog 45 #[v, bv] w fun e w' => e = .returned (.tuple #[.bool (meetsR c vals), .bool (meetsOk c vals)]) ∧ Below w.heap.size w w' := by
  have HG : Hid (∀ w1 : World, Below w.heap.size w w1 → Calls Try.prog 47 #[v] w1 fun e w' => e = .returned (.bool (cnfB c)) ∧ Below w1.heap.size w1 w') := fun w1 hb' => sGoodCnf_any v c w1 (h.below hb')
  have hparts := @cnf_parts c
  obtain ⟨⟨hf0, hf1⟩, s, rfl, h1⟩ := h
  obtain ⟨sa, sc, rfl, hs⟩ := h1.opened
  have hsl := h1.1
  have hbl := hb.1
  obtain ⟨ba, bc, rfl, hbc⟩ := hb.opened
  unfold meetsR meetsOk meetB
  obtain ⟨n, cs⟩ := c
  simp only at *
  have HS : Hid _ := cnf_lists (sc := sc) hs
  have HV : Hid (∀ (w1 : World), Below w.heap.size w w1 → ∀ (i : Nat) (x : Bool), vals[i]? = some x → ∃ b off : Nat, ba = some ⟨b, off, none⟩ ∧ w1.cell? ⟨b, off + i, none⟩ = some (.bool x)) := fun w1 hb1 i x hx => by
    obtain ⟨b, off, e, hlt, hc⟩ := hbc i x hx
    exact ⟨b, off, e, by rw [hb1.cell (p := ⟨b, off + i, none⟩) hlt]; exact hc⟩
  clear hb hbc h1 hs
  have HB0 : Hid (Below w.heap.size w (w.alloc (.cells #[.int .i64 n, .slice sa cs.length sc] 51))) := (Below.refl _ _).alloc (Nat.le_refl _) _
  have x0 := box2_alloc w 51 (.int .i64 n) (.slice sa cs.length sc)
  have HX : Hid _ := x0
  cases hg : cnfB (n, cs) with
  | false =>
    rw [hg] at HG
    rw [Bool.false_and, Bool.false_and]
    clear hparts hg HS HV
    generalize vals.length = vl at *
    go_enter Try.func45, Try.ntmps45
    go_wp2_with fail
    refine (HG.out _ HB0.out).mono ?_
    rintro e w1 ⟨rfl, hs⟩
    have HB1 : Hid (Below w.heap.size w w1) := Below.step HB0.out HB0.out.size hs
    clear hs
    go_wp2_with fail
    go_ret2
    exact ⟨rfl, HB1.out⟩
  | true =>
    rw [hg] at HG
    rw [Bool.true_and]
    obtain ⟨p0, p1, p2, p3⟩ := hparts hg
    have HP : Hid _ := p3
    clear hparts hg p3
    by_cases hl : (vals.length : Int) = n
    · rw [decide_eq_true hl, Bool.true_and]
      generalize hvl : vals.length = vl at *
      have HVL : Hid (vals.length = vl) := hvl
      clear hvl
      subst hl
      generalize hR : (cs.all fun t => t.any (litMet vals)) = R at *
      have HR : Hid _ := hR
      clear hR
      obtain ⟨i0, hi, hz0, hz1, hz2⟩ := info_parts infoInt
      go_enter Try.func45, Try.ntmps45
      go_wp2_with fail
      refine (HG.out _ HB0.out).mono ?_
      generalize w.alloc (.cells #[.int .i64 (vl : Int), .slice sa cs.length sc] 51) = w0 at *
      rintro e w1 ⟨rfl, hs⟩
      have x1 := HX.out.below hs HX.out.lt
      obtain ⟨k0, k1⟩ := x1.cells
      have kh := x1.heap
      have kl := x1.lt
      have hb1 := Below.step HB0.out HB0.out.size hs
      have HX1 : Hid _ := x1
      clear hs x1 x0 HX HG HB0
      go_wp2_with (at_make; refine wpList_make_full _ rfl _ _ 25 rfl w1.heap.size 3 i0 (.int .i64 0) 1 Try.underlying25 hi hz0 hz1 .i64 .i64 _ _ (vl + 1) rfl rfl (by omega) (by omega) (by rw [hz2]; omega) (by unfold maxLen; omega) (Nat.le_refl _) ?_)
      intro w2 hown hgrow
      have hb2 : Below w1.heap.size w1 w2 := (Below.refl _ _).grown hgrow (Nat.le_refl _) (fun k hk => by cases hk)
      have hown1 : w2.ownsRow w1.heap.size 3 1 (.slice (some ⟨w1.heap.size, 0, none⟩) (vl + 1) (vl + 1)) (vl + 1) (cellsI (signsL (vals.take 0) ++ List.replicate (vals.length - 0) 0)) := by
        have h2 := hown
        rw [toList_madeCells_one] at h2
        have e : (cellsI (signsL (vals.take 0) ++ List.replicate (vals.length - 0) 0)) = List.replicate (vl + 1) (.int .i64 0) := by
          rw [HVL.out]
          simp [cellsI, signsL, List.replicate_succ]
        rw [e]
        exact h2
      have HBW : Hid (Below w.heap.size w w1) := hb1
      have HK1 : Hid (∀ w3, Below w1.heap.size w1 w3 → Box2 w3 w.heap.size 51 (.int .i64 (vl : Int)) (.slice sa cs.length sc)) := fun w3 hb3 => HX1.out.below hb3 HX1.out.lt
      clear hown hgrow k0 k1 kh kl HX1 hb1
      go_wp2_with fail
      go_loopw [30] (fun i wr => ∃ j : Nat, j ≤ vl ∧ i = .int .i64 j ∧ Hid (wr.ownsRow w1.heap.size 3 1 (.slice (some ⟨w1.heap.size, 0, none⟩) (vl + 1) (vl + 1)) (vl + 1) (cellsI (signsL (vals.take j) ++ List.replicate (vals.length - j) 0))) ∧ Hid (Below w1.heap.size w1 wr)) (fun i _ => vl - (intOf i).toNat)
      case atStart => exact ⟨0, by omega, rfl, hown1, hb2⟩
      case round =>
        obtain ⟨j, hj, rfl, HO, HB⟩ := hrel
        clear hown1 hb2
        by_cases hlt : j < vl
        · obtain ⟨x, hx⟩ : ∃ x, vals[j]? = some x := ⟨vals[j]'(by have := HVL.out; omega), List.getElem?_eq_getElem (by have := HVL.out; omega)⟩
          obtain ⟨b, off, rfl, c0⟩ := HV.out wr (HBW.out.trans (HB.out.mono HBW.out.size)) j x hx
          have own2 := HO.out
          have hlen := own2.1
          obtain ⟨u0, hu0⟩ : ∃ u0, (cellsI (signsL (vals.take j) ++ List.replicate (vals.length - j) 0))[j + 1]? = some u0 := ⟨_, List.getElem?_eq_getElem (by omega)⟩
          have d0 : wr.cell? ⟨w1.heap.size, j + 1, none⟩ = some u0 := by rw [own2.cellAt (j + 1) (by omega)]; exact hu0
          have f0 := own2.frozenAt (j + 1)
          have st := own2.stored (j + 1) (.int .i64 (if x = true then 1 else -1))
          have HN : Hid ((wr.setCell ⟨w1.heap.size, j + 1, none⟩ (.int .i64 (if x = true then 1 else -1))).ownsRow w1.heap.size 3 1 (.slice (some ⟨w1.heap.size, 0, none⟩) (vl + 1) (vl + 1)) (vl + 1) (cellsI (signsL (vals.take (j + 1)) ++ List.replicate (vals.length - (j + 1)) 0))) := by
            have h1 := st.1
            rw [signs_set vals j x hx] at h1
            exact h1
          have HB3 : Hid (Below w1.heap.size w1 (wr.setCell ⟨w1.heap.size, j + 1, none⟩ (.int .i64 (if x = true then 1 else -1)))) := HB.out.setCell (Nat.le_refl _) _
          have g := l2Bool_any x wr
          clear own2 st hlen hu0 HO HB hx HV HS HP
          cases x with
          | true =>
            simp only [if_true] at HN HB3 g
            go_wp2_with fail
            refine g.mono ?_
            rintro e w3 ⟨rfl, rfl⟩
            clear g
            go_wp2_with fail
            go_roundw
            case rel => exact ⟨j + 1, by omega, by go_num, HN, HB3⟩
            case measure => simp [intOf]; omega
          | false =>
            simp only [Bool.false_eq_true, if_false] at HN HB3 g
            go_wp2_with fail
            refine g.mono ?_
            rintro e w3 ⟨rfl, rfl⟩
            clear g
            go_wp2_with fail
            go_roundw
            case rel => exact ⟨j + 1, by omega, by go_num, HN, HB3⟩
            case measure => simp [intOf]; omega
        · obtain rfl : j = vl := by omega
          generalize wr = w3 at *
          have hat : IntsAt w3 (.slice (some ⟨w1.heap.size, 0, none⟩) (j + 1) (j + 1)) (signsL vals) := by
            have h2 := HO.out
            rw [HVL.out, Nat.sub_self, List.replicate_zero, List.append_nil] at h2
            have e : vals.take j = vals := List.take_of_length_le (by rw [HVL.out]; exact Nat.le_refl _)
            rw [e] at h2
            have h3 : w3.ownsRow w1.heap.size 3 1 (.slice (some ⟨w1.heap.size, 0, none⟩) (j + 1) (j + 1)) (signsL vals).length (cellsI (signsL vals)) := by
              rw [signs_len, HVL.out]
              exact h2
            exact ints_of_own (by rw [signs_len, HVL.out]; omega) h3
          have HSG : Hid (∀ x : Int, x ≠ 0 → -(j : Int) ≤ x → x ≤ (j : Int) → Calls Try.prog 110 #[.slice (some ⟨w1.heap.size, 0, none⟩) (j + 1) (j + 1), .int .i64 x] w3 fun e w' => ∃ s : Int, (s == 1) = litMet vals x ∧ e = .returned (.int .i64 s) ∧ w' = w3) := fun x q0 q1 q2 => by
            refine (l6Sign_any _ (signsL vals) x (signs_in vals) (by rw [signs_len, HVL.out]; omega) (by rw [signs_len, HVL.out]; omega) w3 hat).mono ?_
            rintro e w' ⟨rfl, rfl⟩
            exact ⟨_, sign_met vals x q0 (by rw [HVL.out]; omega), rfl, rfl⟩
          have HBall : Hid (Below w.heap.size w w3) := HBW.out.trans (HB.out.mono HBW.out.size)
          obtain ⟨k0, k1⟩ := (HK1.out w3 HB.out).cells
          have kh := (HK1.out w3 HB.out).heap
          have kl := (HK1.out w3 HB.out).lt
          have HLS : Hid (∀ (i : Nat) (t : List Int), cs[i]? = some t → ∃ b off : Nat, sa = some ⟨b, off, none⟩ ∧ ∃ u : Value, w3.cell? ⟨b, off + i, none⟩ = some u ∧ IntsAt w3 u t) := HS.out w3 HBall.out
          clear HS HV HO HB hat HK1 HBW
          go_wp2_with fail
          go_loop [48] (fun i => ∃ q : Nat, q ≤ cs.length ∧ i = .int .i64 q ∧ Hid ((cs.take q).all (fun t => t.any (litMet vals)) = true)) (fun i => cs.length - (intOf i).toNat)
          case atStart => exact ⟨0, by omega, rfl, rfl⟩
          case round =>
            obtain ⟨q, hq, rfl, HA⟩ := hrel
            by_cases hlt2 : q < cs.length
            · obtain ⟨t, ht⟩ : ∃ t, cs[q]? = some t := ⟨cs[q], List.getElem?_eq_getElem hlt2⟩
              obtain ⟨b, off, rfl, u, hu, hat⟩ := HLS.out q t ht
              have HE : Hid (cs[q]? = some t) := ht
              have HX : Hid _ := (HP.out t (List.mem_of_getElem? ht)).2
              have htl := hat.1
              obtain ⟨ua, uc, rfl, htc⟩ := hat.opened
              clear ht HLS hat HP
              go_wp2_with fail
              go_loop [11, 54] (fun m i => ∃ z : Nat, z ≤ t.length ∧ i = .int .i64 z ∧ m = .bool ((t.take z).any (litMet vals))) (fun _ i => t.length - (intOf i).toNat)
              case atStart => exact ⟨0, by omega, rfl, rfl⟩
              case round =>
                obtain ⟨z, hz, rfl, rfl⟩ := hrel
                by_cases hlt3 : z < t.length
                · obtain ⟨x, hx⟩ : ∃ x, t[z]? = some x := ⟨t[z], List.getElem?_eq_getElem hlt3⟩
                  obtain ⟨b2, off2, rfl, hb2, c2⟩ := htc z x hx
                  obtain ⟨hx0, hx1, hx2⟩ := HX.out x (List.mem_of_getElem? hx)
                  have g := HSG.out x hx0 hx1 hx2
                  have hT := anyTake (p := litMet vals) hx
                  have HT : Hid _ := hT
                  clear htc hx HX hT HSG
                  cases hm : (t.take z).any (litMet vals) with
                  | true =>
                    rw [hm, Bool.true_or] at HT
                    clear g
                    go_wp2_with fail
                    go_round
                    case rel => exact ⟨z + 1, by omega, by go_num, by rw [HT.out]⟩
                    case measure => simp [intOf]; omega
                  | false =>
                    rw [hm, Bool.false_or] at HT
                    go_wp2_with fail
                    refine g.mono ?_
                    rintro e w4 ⟨s, hs1, rfl, rfl⟩
                    have HS1 : Hid _ := hs1
                    clear g hs1
                    go_wp2_with fail
                    go_round
                    case rel => exact ⟨z + 1, by omega, by go_num, by rw [HT.out, ← HS1.out]⟩
                    case measure => simp [intOf]; omega
                · obtain rfl : z = t.length := by omega
                  rw [List.take_length] at *
                  clear htc HSG HX
                  cases hp : t.any (litMet vals) with
                  | true =>
                    have HN : Hid ((cs.take (q + 1)).all (fun t => t.any (litMet vals)) = true) := allTake HE.out HA.out hp
                    clear hp HE HA
                    go_wp2_with fail
                    go_round
                    case rel => exact ⟨q + 1, by omega, by go_num, HN⟩
                    case measure => simp [intOf]; omega
                  | false =>
                    have HN : Hid (R = false) := HR.out.symm.trans (allNot HE.out hp)
                    clear hp HE HA
                    go_wp2_with fail
                    go_ret2
                    exact ⟨by rw [HN.out]; rfl, HBall.out⟩
            · obtain rfl : q = cs.length := by omega
              have HN : Hid (R = true) := by
                have h1 := HA.out
                rw [List.take_length] at h1
                exact HR.out.symm.trans h1
              clear HA HLS HSG HP
              go_wp2_with fail
              go_ret2
              exact ⟨by rw [HN.out]; rfl, HBall.out⟩
    · rw [decide_eq_false hl, Bool.false_and]
      clear HS HV HP
      have hln : ((vals.length : Int) != n) = true := by simp [hl]
      generalize vals.length = vl at *
      go_enter Try.func45, Try.ntmps45
      go_wp2_with fail
      refine (HG.out _ HB0.out).mono ?_
      generalize w.alloc (.cells #[.int .i64 n, .slice sa cs.length sc] 51) = w0 at *
      rintro e w1 ⟨rfl, hs⟩
      have x1 := HX.out.below hs HX.out.lt
      obtain ⟨k0, k1⟩ := x1.cells
      have kh := x1.heap
      have kl := x1.lt
      have HB1 : Hid (Below w.heap.size w w1) := Below.step HB0.out HB0.out.size hs
      clear hs x1 x0
      go_wp2_with fail
      go_ret2
      exact ⟨rfl, HB1.out⟩
end Go.Proofs.Ytmjeaceabjinfaa
