/-
  The program's leastTurn.
-/
import Derived.Test.YthamdefkcjfjpaaILeast
namespace Go.Proofs.Ythamdefkcjfjpaa
open Go Go.RowKit
open Go.Sort
open M
set_option linter.unusedVariables false
set_option linter.unusedSimpArgs false

set_option maxRecDepth 100000 in
set_option maxHeartbeats 1600000 in
theorem leastTurn_any (v : Value) (l : La) (hg : goodLa l = true) (r : Nat) (hr : r ≤ 24) (w : World) (h : AtLa w v l) :
    Calls Try.prog 51 #[v, .int .i64 r] w fun e w' => e = .returned (.int .i64 (turnPt l r)) ∧ Below w.heap.size w w' := by
  obtain ⟨q1, q2, q3⟩ := good_lens hg
  have GL : Hid (∀ (k : Nat), k ≤ 2000 → ∀ w1 : World, Below w.heap.size w w1 → Calls Try.prog 63 #[v, .int .i64 k] w1 fun e w' => e = .returned (.int .i64 (letL l k)) ∧ Below w1.heap.size w1 w') := fun k hk w1 hb => letter_any v l hg k hk w1 (h.below hb)
  have HT0 : Hid (turnPt l r = downN (backB l r) l.1.length) := rfl
  have HST : Hid (∀ t : Nat, letL l t = letL l (t + r) → downN (backB l r) (t + 1) = downN (backB l r) t) := fun t e => downN_step (by unfold backB; rw [e]; simp)
  have HSP : Hid (∀ t : Nat, ¬ letL l t = letL l (t + r) → downN (backB l r) (t + 1) = t + 1) := fun t e => downN_stop (by unfold backB; simpa using e)
  have HZ : Hid (downN (backB l r) 0 = 0) := rfl
  obtain ⟨g_, o_, hv, h1, h2⟩ := h
  obtain ⟨ga, gc, e1⟩ := h1.shape
  obtain ⟨oa, oc, e2⟩ := h2.shape
  subst e1 e2 hv
  have HB0 : Hid (Below w.heap.size w (w.alloc (.cells #[.slice ga l.1.length gc, .slice oa l.2.length oc] 26))) := (Below.refl _ _).alloc (Nat.le_refl _) _
  have x0 := box2_alloc w 26 (.slice ga l.1.length gc) (.slice oa l.2.length oc)
  have hw0z : (w.alloc (.cells #[.slice ga l.1.length gc, .slice oa l.2.length oc] 26)).heap.size = w.heap.size + 1 := World.size_alloc _ _
  have HXP : Hid (∀ w3, Below (w.heap.size + 1) (w.alloc (.cells #[.slice ga l.1.length gc, .slice oa l.2.length oc] 26)) w3 → Box2 w3 w.heap.size 26 (.slice ga l.1.length gc) (.slice oa l.2.length oc)) := fun w3 hb3 => x0.below hb3 (by omega)
  have HBX0 : Hid (Below (w.heap.size + 1) (w.alloc (.cells #[.slice ga l.1.length gc, .slice oa l.2.length oc] 26)) (w.alloc (.cells #[.slice ga l.1.length gc, .slice oa l.2.length oc] 26))) := Below.refl _ _
  obtain ⟨a0, a1⟩ := x0.cells
  have ah := x0.heap
  have al := x0.lt
  generalize turnPt l r = TP at *
  generalize backB l r = BK at *
  generalize letL l = LT at *
  generalize l.1.length = gn at *
  generalize l.2.length = on at *
  clear h1 h2 hg x0
  go_enter Try.func51, Try.ntmps51
  go_wp2_with fail
  clear a0 a1 ah al
  generalize w.alloc (.cells #[.slice ga gn gc, .slice oa on oc] 26) = w0 at *
  go_loopw [5] (fun i wr => ∃ t : Nat, t ≤ gn ∧ i = .int .i64 t ∧ Hid (TP = downN BK t) ∧ Hid (Below w.heap.size w wr) ∧ Hid (Below (w.heap.size + 1) w0 wr)) (fun i _ => (intOf i).toNat)
  case atStart => exact ⟨gn, Nat.le_refl _, rfl, HT0, HB0, HBX0⟩
  case round =>
    obtain ⟨t, ht, rfl, HT, HB, HBX⟩ := hrel
    clear HB0 HBX0 HT0
    have x1 := HXP.out _ HBX.out
    obtain ⟨c0, c1⟩ := x1.cells
    have k0 := cell_regrown c0
    have k1 := cell_regrown c1
    have hh : ∀ d os', (Sort.grow (redrawn wr d) os').heap[w.heap.size]? = some (.cells #[.slice ga gn gc, .slice oa on oc] 26 (0, 0)) := fun d os' => (x1.below (below_regrown wr d os') x1.lt).heap
    have HSZ : Hid (w.heap.size + 1 ≤ wr.heap.size) := by
      show _ ≤ _
      have := HBX.out.size
      omega
    clear x1
    cases t with
    | zero =>
      have HE : Hid (TP = 0) := HT.out.trans HZ.out
      clear HT HZ HST HSP GL
      go_wp2_with fail
      refine wp_region_quiet_below (by kernel_rfl) (by kernel_rfl) ?_
      repeat (go_big_quiet_step (fail))
      refine wpQuiet_nil ?_
      intro _ hw'
      obtain ⟨⟨dq, osq⟩, hw''⟩ := hw'
      subst hw''
      have HBQ : Hid (Below w.heap.size w (Sort.grow (redrawn wr dq) osq)) := HB.out.trans ((below_regrown wr dq osq).mono HB.out.size)
      clear HB
      go_wp2_with fail
      go_ret
      exact ⟨ret_int (by rw [HE.out]), HBQ.out⟩
    | succ s =>
      obtain ⟨T, hT⟩ : ∃ T : Nat, s + 1 = T := ⟨_, rfl⟩
      obtain ⟨Z, hZ⟩ : ∃ Z : Nat, s + r = Z := ⟨_, rfl⟩
      have hTs : (T : Int) - 1 = (s : Int) := by omega
      have hTw : IntKind.i64.wrap ((T : Int) - 1) = (s : Int) := by rw [hTs]; exact IntWalk.i64_in _ ⟨by omega, by omega⟩
      have hsw : IntKind.i64.wrap (s : Int) = (s : Int) := IntWalk.i64_in _ ⟨by omega, by omega⟩
      have hZi : (s : Int) + (r : Int) = (Z : Int) := by omega
      have hZw : IntKind.i64.wrap ((s : Int) + (r : Int)) = (Z : Int) := by rw [hZi]; exact IntWalk.i64_in _ ⟨by omega, by omega⟩
      have hZw2 : IntKind.i64.wrap (Z : Int) = (Z : Int) := IntWalk.i64_in _ ⟨by omega, by omega⟩
      have hT0 : (0 : Int) < (T : Int) := by omega
      have hT0n : 0 < T := by omega
      have HTS : Hid (T = s + 1) := hT.symm
      have HST2 := HST.out s
      have HSP2 := HSP.out s
      rw [hZ] at HST2 HSP2
      rw [hT] at HT HST2 HSP2 ht ⊢
      have hs9 : s < gn := by omega
      have cA : ∀ d os', Calls Try.prog 63 #[.agg #[.slice ga gn gc, .slice oa on oc], .int .i64 s] (Sort.grow (redrawn wr d) os') fun e w'' => e = .returned (.int .i64 (LT s)) ∧ ∃ p : Regrown, w'' = Sort.grow (redrawn wr p.d) p.os := fun d os' => Calls.regrown_of (GL.out s (by omega) _ (HB.out.trans ((below_regrown wr d os').mono HB.out.size)))
      have cC : ∀ d os', Calls Try.prog 63 #[.agg #[.slice ga gn gc, .slice oa on oc], .int .i64 Z] (Sort.grow (redrawn wr d) os') fun e w'' => e = .returned (.int .i64 (LT Z)) ∧ ∃ p : Regrown, w'' = Sort.grow (redrawn wr p.d) p.os := fun d os' => Calls.regrown_of (GL.out Z (by omega) _ (HB.out.trans ((below_regrown wr d os').mono HB.out.size)))
      clear hT hZ GL HZ HST HSP
      generalize LT s = X at *
      generalize LT Z = Y at *
      by_cases hxy : X = Y
      · subst hxy
        have HT2 : Hid (TP = downN BK s) := HT.out.trans (HST2 rfl)
        clear HST2 HSP2 HT
        go_wp2_with fail
        refine wp_region_quiet_below (by kernel_rfl) (by kernel_rfl) ?_
        iterate 7 (go_big_quiet_step (exact cA _ _))
        repeat (go_big_quiet_step (exact cC _ _))
        refine wpQuiet_nil ?_
        intro _ hw'
        obtain ⟨⟨dq, osq⟩, hw''⟩ := hw'
        subst hw''
        have HBQ : Hid (Below w.heap.size w (Sort.grow (redrawn wr dq) osq)) := HB.out.trans ((below_regrown wr dq osq).mono HB.out.size)
        have HBXQ : Hid (Below (w.heap.size + 1) w0 (Sort.grow (redrawn wr dq) osq)) := HBX.out.trans ((below_regrown wr dq osq).mono HSZ.out)
        clear HB HBX k0 k1 hh c0 c1 cA cC
        go_wp2_with fail
        go_roundw
        case rel => exact ⟨s, by omega, by first | rfl | go_num, HT2, HBQ, HBXQ⟩
        case measure => simp [intOf]; omega
      · have HE : Hid (TP = T) := HT.out.trans (HSP2 hxy)
        have hxd : decide (X = Y) = false := decide_eq_false hxy
        have hxb : (X == Y) = false := beq_eq_false_iff_ne.2 hxy
        clear HST2 HSP2 HT
        go_wp2_with fail
        refine wp_region_quiet_below (by kernel_rfl) (by kernel_rfl) ?_
        iterate 7 (go_big_quiet_step (exact cA _ _))
        repeat (go_big_quiet_step (exact cC _ _))
        refine wpQuiet_nil ?_
        intro _ hw'
        obtain ⟨⟨dq, osq⟩, hw''⟩ := hw'
        subst hw''
        have HBQ : Hid (Below w.heap.size w (Sort.grow (redrawn wr dq) osq)) := HB.out.trans ((below_regrown wr dq osq).mono HB.out.size)
        clear HB k0 k1 hh c0 c1 cA cC
        go_wp2_with fail
        go_ret
        exact ⟨ret_int (by rw [HE.out]), HBQ.out⟩
end Go.Proofs.Ythamdefkcjfjpaa
