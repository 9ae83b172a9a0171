/-
  When a circuit is good: the model's GoodCircuit.
-/
import Derived.Test.YtmjeaceabjinfaaGood
import Derived.Lib.QuietBelow
namespace Go.Proofs.Ytmjeaceabjinfaa
open Go Go.RowKit
open M
set_option linter.unusedVariables false

theorem l4Wires_raw (ins : Int) (a : Option Addr) (n cap : Nat) (o : Value) (h0 : -1000 ≤ ins) (h1 : ins ≤ 1000) (hn : n ≤ 1000000000) (w : World) :
    Calls Try.prog 91 #[.agg #[.int .i64 ins, .slice a n cap, o]] w fun e w' => e = .returned (.int .i64 (ins + n)) ∧ w' = w.alloc (.cells #[.int .i64 ins, .slice a n cap, o] 27) := by
  go_enter Try.func91, Try.ntmps91
  go_wp2_with fail
  go_ret
  exact ⟨rfl, rfl⟩
theorem all_btw (own : Int) (t : List Int) : t.all (btw 0 (own - 1)) = t.all (inB own) := by
  congr 1
  funext x
  exact in_le own x
set_option maxRecDepth 100000 in
set_option maxHeartbeats 1000000 in
theorem sGood_any (v : Value) (c : Ci) (w : World) (h : AtCirc w v c) :
    Calls Try.prog 81 #[v] w fun e w' => e = .returned (.bool (goodC c)) ∧ Below w.heap.size w w' := by
  obtain ⟨⟨hf0, hf1⟩, gw, o, rfl, h1, h2⟩ := h
  have hlg := h1.2.1
  have hlo := h2.1
  obtain ⟨ga, gc, rfl, hg⟩ := h1.opened
  obtain ⟨oa, oc, rfl⟩ := h2.shape
  obtain ⟨ins, gs, os⟩ := c
  unfold goodC
  simp only at *
  have HB0 : Hid (Below w.heap.size w (w.alloc (.cells #[.int .i64 ins, .slice ga gs.length gc, .slice oa os.length oc] 27))) := (Below.refl _ _).alloc (Nat.le_refl _) _
  have g0 := l1In_any ins 0 16 (w.alloc (.cells #[.int .i64 ins, .slice ga gs.length gc, .slice oa os.length oc] 27))
  by_cases hI : 0 ≤ ins ∧ ins ≤ 16
  · rw [decide_eq_true hI] at g0
    by_cases hG : gs.length ≤ 300
    · by_cases hO : os.length ≤ 16
      · rw [decide_eq_true ⟨hI.1, hI.2, hG, hO⟩, Bool.true_and]
        have x0 := box3_alloc w 27 (.int .i64 ins) (.slice ga gs.length gc) (.slice oa os.length oc)
        have HG : Hid (∀ (w1 : World), Below w.heap.size w w1 → ∀ (i : Nat) (x : Gt), gs[i]? = some x → ∃ b off : Nat, ga = some ⟨b, off, none⟩ ∧ GateAt w1 b (off + i * 3) x) := fun w1 hb i x hx => by
          obtain ⟨b, off, e, hlt, hat⟩ := hg i x hx
          exact ⟨b, off, e, hat.below hb hlt⟩
        have GA : Hid (∀ (w1 : World), Below w.heap.size w w1 → Calls Try.prog 140 #[.slice oa os.length oc, .int .i64 0, .int .i64 (ins + gs.length - 1)] w1 fun e w' => e = .returned (.bool (os.all (inB (ins + gs.length)))) ∧ w' = w1) := fun w1 hb => by
          have g := l1All_any _ os 0 (ins + gs.length - 1) w1 (h2.below hb)
          rw [all_btw] at g
          exact g
        have HX : Hid (Box3 (w.alloc (.cells #[.int .i64 ins, .slice ga gs.length gc, .slice oa os.length oc] 27)) w.heap.size 27 (.int .i64 ins) (.slice ga gs.length gc) (.slice oa os.length oc)) := x0
        have hsz : (w.alloc (.cells #[.int .i64 ins, .slice ga gs.length gc, .slice oa os.length oc] 27)).heap.size = w.heap.size + 1 := by simp only [World.size_alloc]
        obtain ⟨hI0, hI1⟩ := hI
        clear h1 h2 hg x0
        generalize os.all (inB (ins + gs.length)) = zo at *
        have hOc : ((os.length : Int) > 16) = False := by simp; omega
        have hGc : ((gs.length : Int) > 300) = False := by simp; omega
        go_enter Try.func81, Try.ntmps81
        go_wp2_with fail
        refine g0.mono ?_
        rintro e w1 ⟨rfl, hw1⟩
        clear g0
        subst hw1
        go_wp2_with fail
        go_loopw [24] (fun i wr => ∃ j : Nat, j ≤ gs.length ∧ i = .int .i64 j ∧ Hid (gatesB ins (gs.take j) = true) ∧ Hid (Below (w.heap.size + 1) (w.alloc (.cells #[.int .i64 ins, .slice ga gs.length gc, .slice oa os.length oc] 27)) wr)) (fun i _ => gs.length - (intOf i).toNat)
        case atStart => exact ⟨0, by omega, rfl, rfl, Below.refl _ _⟩
        case round =>
          obtain ⟨j, hj, rfl, HA, HB⟩ := hrel
          have hbw : Below w.heap.size w wr := HB0.out.trans (HB.out.mono (by omega))
          obtain ⟨c0, c1, c2⟩ := (HX.out.below HB.out (by omega)).cells
          have hszr := HB.out.size
          have hlt0 : w.heap.size < wr.heap.size := by omega
          by_cases hlt : j < gs.length
          · obtain ⟨x, hx⟩ : ∃ x, gs[j]? = some x := ⟨gs[j], List.getElem?_eq_getElem hlt⟩
            obtain ⟨b, off, rfl, d0, d1, d2⟩ := HG.out wr hbw j x hx
            have HE : Hid (gs[j]? = some x) := hx
            obtain ⟨k, xa, xb⟩ := x
            simp only at d0 d1 d2
            have g1 := l4Gate_any (k, xa, xb) (ins + j) (by omega) (by omega) (wr.alloc (.cells #[.int .i64 k, .int .i64 xa, .int .i64 xb] 108))
            unfold gv at g1
            simp only at g1
            have hbs : (wr.alloc (.cells #[.int .i64 k, .int .i64 xa, .int .i64 xb] 108)).heap.size = wr.heap.size + 1 := by simp only [World.size_alloc]
            have HB2 : Hid (Below (w.heap.size + 1) (w.alloc (.cells #[.int .i64 ins, .slice (some ⟨b, off, none⟩) gs.length gc, .slice oa os.length oc] 27)) (wr.alloc (.cells #[.int .i64 k, .int .i64 xa, .int .i64 xb] 108))) := HB.out.alloc (by omega) _
            clear hx HG GA HX HB hbw
            cases hgb : gateB (ins + j) (k, xa, xb) with
            | true =>
              rw [hgb] at g1
              have HN : Hid (gatesB ins (gs.take (j + 1)) = true) := by
                have h1 := HA.out
                show gatesB ins (gs.take (j + 1)) = true
                rw [List.take_add_one, HE.out, gatesB_append, h1, List.length_take_of_le (by omega)]
                simp [gatesB, hgb]
              clear hgb HE
              go_wp2_with fail
              refine g1.mono ?_
              rintro e w2 ⟨rfl, hb2⟩
              have HB3 : Hid (Below (w.heap.size + 1) (w.alloc (.cells #[.int .i64 ins, .slice (some ⟨b, off, none⟩) gs.length gc, .slice oa os.length oc] 27)) w2) := HB2.out.trans (hb2.mono (by omega))
              clear g1 HB2 hb2
              go_wp2_with fail
              go_roundw
              case rel => exact ⟨j + 1, by omega, by go_num, HN, HB3⟩
              case measure => simp [intOf]; omega
            | false =>
              rw [hgb] at g1
              have HN : Hid (gatesB ins gs = false) := gatesB_false HE.out hgb
              clear hgb HE
              go_wp2_with fail
              refine g1.mono ?_
              rintro e w2 ⟨rfl, hb2⟩
              have HB3 : Hid (Below w.heap.size w w2) := HB0.out.trans ((HB2.out.trans (hb2.mono (by omega))).mono (by omega))
              clear g1 HB2 hb2
              go_wp2_with fail
              go_ret
              exact ⟨ret_bool (by rw [HN.out]; rfl), HB3.out⟩
          · obtain rfl : j = gs.length := by omega
            have HN : Hid (gatesB ins gs = true) := by
              have h1 := HA.out
              rw [List.take_length] at h1
              exact h1
            have g2 := l4Wires_raw ins ga gs.length gc (.slice oa os.length oc) (by omega) (by omega) (by omega) wr
            have cA : ∀ d os', Calls Try.prog 91 #[.agg #[.int .i64 ins, .slice ga gs.length gc, .slice oa os.length oc]] (Sort.grow (redrawn wr d) os') fun e w'' => e = .returned (.int .i64 (ins + gs.length)) ∧ ∃ p : Regrown, w'' = Sort.grow (redrawn wr p.d) p.os := fun d os' => Calls.regrown_of ((l4Wires_raw ins ga gs.length gc (.slice oa os.length oc) (by omega) (by omega) (by omega) _).mono fun e w' ⟨he, hw⟩ => ⟨he, by rw [hw]; exact (Below.refl _ _).alloc (Nat.le_refl _) _⟩)
            have cC : ∀ d os', Calls Try.prog 140 #[.slice oa os.length oc, .int .i64 0, .int .i64 (ins + gs.length - 1)] (Sort.grow (redrawn wr d) os') fun e w'' => e = .returned (.bool zo) ∧ ∃ p : Regrown, w'' = Sort.grow (redrawn wr p.d) p.os := fun d os' => Calls.regrown_of ((GA.out _ (hbw.trans ((below_regrown wr d os').mono hbw.size))).mono fun e w' ⟨he, hw⟩ => ⟨he, by rw [hw]; exact Below.refl _ _⟩)
            have k0 := cell_regrown c0
            have k1 := cell_regrown c1
            have k2 := cell_regrown c2
            have hh : ∀ d os', (Sort.grow (redrawn wr d) os').heap[w.heap.size]? = some (.cells #[.int .i64 ins, .slice ga gs.length gc, .slice oa os.length oc] 27 (0, 0)) := fun d os' => ((HX.out.below HB.out (by omega)).below (below_regrown wr d os') (by omega)).heap
            have HB2 : Hid (Below w.heap.size w wr) := hbw
            have hq1 : IntKind.i64.wrap (ins + (gs.length : Int) - 1) = ins + (gs.length : Int) - 1 := IntWalk.i64_in _ (by omega)
            have hq0 : ∃ q, ins + (gs.length : Int) - 1 = q := ⟨_, rfl⟩
            obtain ⟨q, hq⟩ := hq0
            rw [hq] at cC
            rw [hq] at hq1
            clear HA HG GA HX HB hbw g2
            go_wp2_with fail
            refine wp_region_quiet_below (by kernel_rfl) (by kernel_rfl) ?_
            iterate 4 (quiet_step (exact cA _ _))
            repeat (quiet_step (exact cC _ _))
            refine wpQuiet_nil ?_
            intro _ hw'
            obtain ⟨⟨dq, osq⟩, hw''⟩ := hw'
            subst hw''
            go_wp2_with fail
            go_ret
            exact ⟨ret_bool (by rw [HN.out]; rfl), HB2.out.trans ((below_regrown wr dq osq).mono HB2.out.size)⟩
      · rw [decide_eq_false (by omega), Bool.false_and]
        clear h1 h2 hg
        obtain ⟨hI0, hI1⟩ := hI
        go_enter Try.func81, Try.ntmps81
        go_wp2_with fail
        refine g0.mono ?_
        rintro e w1 ⟨rfl, hw1⟩
        clear g0
        subst hw1
        go_wp2_with fail
        go_ret
        exact ⟨rfl, HB0.out⟩
    · rw [decide_eq_false (by omega), Bool.false_and]
      clear h1 h2 hg
      obtain ⟨hI0, hI1⟩ := hI
      go_enter Try.func81, Try.ntmps81
      go_wp2_with fail
      refine g0.mono ?_
      rintro e w1 ⟨rfl, hw1⟩
      clear g0
      subst hw1
      go_wp2_with fail
      go_ret
      exact ⟨rfl, HB0.out⟩
  · rw [decide_eq_false hI] at g0
    rw [decide_eq_false (fun h => hI ⟨h.1, h.2.1⟩), Bool.false_and]
    clear h1 h2 hg hI
    go_enter Try.func81, Try.ntmps81
    go_wp2_with fail
    refine g0.mono ?_
    rintro e w1 ⟨rfl, hw1⟩
    clear g0
    subst hw1
    go_wp2_with fail
    go_ret
    exact ⟨rfl, HB0.out⟩
end Go.Proofs.Ytmjeaceabjinfaa
