/-
  The program's leastTurn.
  A lasso that a call within a region has answered.
  The program's LeastLasso.
  The model's l9Same and SameWord.
  The model's LeastLasso.
-/
import Derived.Test.YthamdefkcjfjpaaKL71
import Derived.Test.YthamdefkcjfjpaaRw9
import Derived.Test.YthamdefkcjfjpaaIGoodL
namespace Go.Proofs.Ythamdefkcjfjpaa
open Go Go.RowKit
open Go.Sort
open M
set_option linter.unusedVariables false
set_option linter.unusedSimpArgs false

set_option maxRecDepth 100000 in
set_option maxHeartbeats 1600000 in
theorem leastTurn_any (v : Value) (l : La) (hg : goodLa l = true) (r : Nat) (hr : r ≤ 24) (w : World) (h : AtLa w v l) :
    Calls Try.prog 51 #[v, .int .i64 r] w fun e w' => e = .returned (.int .i64 (turnPt l r)) ∧ Below w.heap.size w w' := by
  obtain ⟨q1, q2, q3⟩ := good_lens hg
  have GL : Hid (∀ (k : Nat), k ≤ 2000 → ∀ w1 : World, Below w.heap.size w w1 → Calls Try.prog 63 #[v, .int .i64 k] w1 fun e w' => e = .returned (.int .i64 (letL l k)) ∧ Below w1.heap.size w1 w') := fun k hk w1 hb => letter_any v l hg k hk w1 (h.below hb)
  have HT0 : Hid (turnPt l r = downN (backB l r) l.1.length) := rfl
  have HST : Hid (∀ t : Nat, letL l t = letL l (t + r) → downN (backB l r) (t + 1) = downN (backB l r) t) := fun t e => downN_step (by unfold backB; rw [e]; simp)
  have HSP : Hid (∀ t : Nat, ¬ letL l t = letL l (t + r) → downN (backB l r) (t + 1) = t + 1) := fun t e => downN_stop (by unfold backB; simpa using e)
  have HZ : Hid (downN (backB l r) 0 = 0) := rfl
  obtain ⟨g_, o_, hv, h1, h2⟩ := h
  obtain ⟨ga, gc, e1⟩ := h1.shape
  obtain ⟨oa, oc, e2⟩ := h2.shape
  subst e1 e2 hv
  have HB0 : Hid (Below w.heap.size w (w.alloc (.cells #[.slice ga l.1.length gc, .slice oa l.2.length oc] 26))) := (Below.refl _ _).alloc (Nat.le_refl _) _
  have x0 := box2_alloc w 26 (.slice ga l.1.length gc) (.slice oa l.2.length oc)
  have hw0z : (w.alloc (.cells #[.slice ga l.1.length gc, .slice oa l.2.length oc] 26)).heap.size = w.heap.size + 1 := World.size_alloc _ _
  have HXP : Hid (∀ w3, Below (w.heap.size + 1) (w.alloc (.cells #[.slice ga l.1.length gc, .slice oa l.2.length oc] 26)) w3 → Box2 w3 w.heap.size 26 (.slice ga l.1.length gc) (.slice oa l.2.length oc)) := fun w3 hb3 => x0.below hb3 (by omega)
  have HBX0 : Hid (Below (w.heap.size + 1) (w.alloc (.cells #[.slice ga l.1.length gc, .slice oa l.2.length oc] 26)) (w.alloc (.cells #[.slice ga l.1.length gc, .slice oa l.2.length oc] 26))) := Below.refl _ _
  obtain ⟨a0, a1⟩ := x0.cells
  have ah := x0.heap
  have al := x0.lt
  generalize turnPt l r = TP at *
  generalize backB l r = BK at *
  generalize letL l = LT at *
  generalize l.1.length = gn at *
  generalize l.2.length = on at *
  clear h1 h2 hg x0
  go_enter Try.func51, Try.ntmps51
  go_wp2_with fail
  clear a0 a1 ah al
  generalize w.alloc (.cells #[.slice ga gn gc, .slice oa on oc] 26) = w0 at *
  go_loopw [5] (fun i wr => ∃ t : Nat, t ≤ gn ∧ i = .int .i64 t ∧ Hid (TP = downN BK t) ∧ Hid (Below w.heap.size w wr) ∧ Hid (Below (w.heap.size + 1) w0 wr)) (fun i _ => (intOf i).toNat)
  case atStart => exact ⟨gn, Nat.le_refl _, rfl, HT0, HB0, HBX0⟩
  case round =>
    obtain ⟨t, ht, rfl, HT, HB, HBX⟩ := hrel
    clear HB0 HBX0 HT0
    have x1 := HXP.out _ HBX.out
    obtain ⟨c0, c1⟩ := x1.cells
    have k0 := cell_regrown c0
    have k1 := cell_regrown c1
    have hh : ∀ d os', (Sort.grow (redrawn wr d) os').heap[w.heap.size]? = some (.cells #[.slice ga gn gc, .slice oa on oc] 26 (0, 0)) := fun d os' => (x1.below (below_regrown wr d os') x1.lt).heap
    have HSZ : Hid (w.heap.size + 1 ≤ wr.heap.size) := by
      show _ ≤ _
      have := HBX.out.size
      omega
    clear x1
    cases t with
    | zero =>
      have HE : Hid (TP = 0) := HT.out.trans HZ.out
      clear HT HZ HST HSP GL
      go_wp2_with fail
      refine wp_region_quiet_below (by kernel_rfl) (by kernel_rfl) ?_
      repeat (go_big_quiet_step (fail))
      refine wpQuiet_nil ?_
      intro _ hw'
      obtain ⟨⟨dq, osq⟩, hw''⟩ := hw'
      subst hw''
      have HBQ : Hid (Below w.heap.size w (Sort.grow (redrawn wr dq) osq)) := HB.out.trans ((below_regrown wr dq osq).mono HB.out.size)
      clear HB
      go_wp2_with fail
      go_ret
      exact ⟨ret_int (by rw [HE.out]), HBQ.out⟩
    | succ s =>
      obtain ⟨T, hT⟩ : ∃ T : Nat, s + 1 = T := ⟨_, rfl⟩
      obtain ⟨Z, hZ⟩ : ∃ Z : Nat, s + r = Z := ⟨_, rfl⟩
      have hTs : (T : Int) - 1 = (s : Int) := by omega
      have hTw : IntKind.i64.wrap ((T : Int) - 1) = (s : Int) := by rw [hTs]; exact IntWalk.i64_in _ ⟨by omega, by omega⟩
      have hsw : IntKind.i64.wrap (s : Int) = (s : Int) := IntWalk.i64_in _ ⟨by omega, by omega⟩
      have hZi : (s : Int) + (r : Int) = (Z : Int) := by omega
      have hZw : IntKind.i64.wrap ((s : Int) + (r : Int)) = (Z : Int) := by rw [hZi]; exact IntWalk.i64_in _ ⟨by omega, by omega⟩
      have hZw2 : IntKind.i64.wrap (Z : Int) = (Z : Int) := IntWalk.i64_in _ ⟨by omega, by omega⟩
      have hT0 : (0 : Int) < (T : Int) := by omega
      have hT0n : 0 < T := by omega
      have HTS : Hid (T = s + 1) := hT.symm
      have HST2 := HST.out s
      have HSP2 := HSP.out s
      rw [hZ] at HST2 HSP2
      rw [hT] at HT HST2 HSP2 ht ⊢
      have hs9 : s < gn := by omega
      have cA : ∀ d os', Calls Try.prog 63 #[.agg #[.slice ga gn gc, .slice oa on oc], .int .i64 s] (Sort.grow (redrawn wr d) os') fun e w'' => e = .returned (.int .i64 (LT s)) ∧ ∃ p : Regrown, w'' = Sort.grow (redrawn wr p.d) p.os := fun d os' => Calls.regrown_of (GL.out s (by omega) _ (HB.out.trans ((below_regrown wr d os').mono HB.out.size)))
      have cC : ∀ d os', Calls Try.prog 63 #[.agg #[.slice ga gn gc, .slice oa on oc], .int .i64 Z] (Sort.grow (redrawn wr d) os') fun e w'' => e = .returned (.int .i64 (LT Z)) ∧ ∃ p : Regrown, w'' = Sort.grow (redrawn wr p.d) p.os := fun d os' => Calls.regrown_of (GL.out Z (by omega) _ (HB.out.trans ((below_regrown wr d os').mono HB.out.size)))
      clear hT hZ GL HZ HST HSP
      generalize LT s = X at *
      generalize LT Z = Y at *
      by_cases hxy : X = Y
      · subst hxy
        have HT2 : Hid (TP = downN BK s) := HT.out.trans (HST2 rfl)
        clear HST2 HSP2 HT
        go_wp2_with fail
        refine wp_region_quiet_below (by kernel_rfl) (by kernel_rfl) ?_
        iterate 7 (go_big_quiet_step (exact cA _ _))
        repeat (go_big_quiet_step (exact cC _ _))
        refine wpQuiet_nil ?_
        intro _ hw'
        obtain ⟨⟨dq, osq⟩, hw''⟩ := hw'
        subst hw''
        have HBQ : Hid (Below w.heap.size w (Sort.grow (redrawn wr dq) osq)) := HB.out.trans ((below_regrown wr dq osq).mono HB.out.size)
        have HBXQ : Hid (Below (w.heap.size + 1) w0 (Sort.grow (redrawn wr dq) osq)) := HBX.out.trans ((below_regrown wr dq osq).mono HSZ.out)
        clear HB HBX k0 k1 hh c0 c1 cA cC
        go_wp2_with fail
        go_roundw
        case rel => exact ⟨s, by omega, by first | rfl | go_num, HT2, HBQ, HBXQ⟩
        case measure => simp [intOf]; omega
      · have HE : Hid (TP = T) := HT.out.trans (HSP2 hxy)
        have hxd : decide (X = Y) = false := decide_eq_false hxy
        have hxb : (X == Y) = false := beq_eq_false_iff_ne.2 hxy
        clear HST2 HSP2 HT
        go_wp2_with fail
        refine wp_region_quiet_below (by kernel_rfl) (by kernel_rfl) ?_
        iterate 7 (go_big_quiet_step (exact cA _ _))
        repeat (go_big_quiet_step (exact cC _ _))
        refine wpQuiet_nil ?_
        intro _ hw'
        obtain ⟨⟨dq, osq⟩, hw''⟩ := hw'
        subst hw''
        have HBQ : Hid (Below w.heap.size w (Sort.grow (redrawn wr dq) osq)) := HB.out.trans ((below_regrown wr dq osq).mono HB.out.size)
        clear HB k0 k1 hh c0 c1 cA cC
        go_wp2_with fail
        go_ret
        exact ⟨ret_int (by rw [HE.out]), HBQ.out⟩
end Go.Proofs.Ythamdefkcjfjpaa

namespace Go.Proofs.Ythamdefkcjfjpaa
open Go Go.RowKit
open M
set_option linter.unusedVariables false
set_option linter.unusedSimpArgs false

/-- a lasso that a call has answered, laid from B on -/
def RwL (B : Nat) (w : World) (s : Value) (l : La) : Prop := ∃ lo hi, B ≤ lo ∧ OwnLa w lo hi s l
theorem RwL.below {B : Nat} {w w' : World} {s : Value} {l : La} (h : RwL B w s l) (hb : Below w.heap.size w w') : RwL B w' s l := by
  obtain ⟨lo, hi, h0, h1⟩ := h
  exact ⟨lo, hi, h0, h1.same hb.size (fun i _ h9 => hb.block i (Nat.lt_of_lt_of_le h9 h1.hi))⟩
theorem RwL.shape {B : Nat} {w : World} {s : Value} {l : La} (h : RwL B w s l) : ∃ sa sn sc oa on oc, s = .agg #[.slice sa sn sc, .slice oa on oc] := by
  obtain ⟨lo, hi, h0, h1⟩ := h
  exact h1.shape
theorem rwL_of {B : Nat} {w w' : World} {s : Value} {l : La} (hB : B ≤ w.heap.size) (h : OwnLa w' w.heap.size w'.heap.size s l) : RwL B w' s l := ⟨_, _, hB, h⟩
def fstV : Value → Value
  | .agg cs => cs.getD 0 undef
  | _ => undef
def sndV : Value → Value
  | .agg cs => cs.getD 1 undef
  | _ => undef
end Go.Proofs.Ythamdefkcjfjpaa

namespace Go.Proofs.Ythamdefkcjfjpaa
open Go Go.RowKit
open M
set_option linter.unusedVariables false
set_option linter.unusedSimpArgs false

def leastR (l : La) : La := if goodLa l = true then leastL l else ([], [])
theorem leastR_ok (l : La) : LaOk (leastR l) := by
  unfold leastR
  by_cases h : goodLa l = true
  · rw [if_pos h]
    obtain ⟨q1, q2, q3⟩ := good_lens h
    obtain ⟨r1, r2, _, _⟩ := roundL_has q2
    have := turnPt_le l (roundL l)
    unfold leastL
    exact ⟨by rw [unrL_len]; omega, by rw [unrL_len]; omega⟩
  · rw [if_neg h]
    exact laOk_nil
theorem leastL_cut (l : La) : cutL l 0 (turnPt l (roundL l)) (roundL l) = leastL l := rfl
structure RegLeast (W w' : World) (B Y : Nat) (ga : Option Addr) (gn gc : Nat) (oa : Option Addr) (on oc r t : Nat) (LR : La) (l0 l1 l2 l3 l4 l5 l6 l7 : Bool) (s0 s1 s2 s3 s4 s5 s7 : Value) : Prop where
  (bel : l6 = false → Below W.heap.size W w')
  (all : l6 = true → l0 = true ∧ l1 = true ∧ l2 = true ∧ l3 = true ∧ l4 = true ∧ l5 = true)
  (fin : l6 = true → ∃ w4 : World, Below W.heap.size W w4 ∧ w' = ((w4.setCell ⟨Y, 0, none⟩ (fstV s5)).setCell ⟨Y, 1, none⟩ (sndV s5)) ∧ RwL B w4 s5 LR)
  (d0 : l0 = true → s0 = .agg #[.slice ga gn gc, .slice oa on oc] ∧ True)
  (d1 : l1 = true → s1 = .agg #[.slice ga gn gc, .slice oa on oc] ∧ True)
  (d2 : l2 = true → s2 = .int .i64 r ∧ True)
  (d3 : l3 = true → s3 = .int .i64 t ∧ l1 = true ∧ l2 = true)
  (d4 : l4 = true → s4 = .int .i64 r ∧ True)
  (d5 : l5 = true → (l6 = false → RwL B w' s5 LR) ∧ l0 = true ∧ l3 = true ∧ l4 = true)
  (d7 : l7 = true → s7 = .bool true ∧ l0 = true ∧ l1 = true ∧ l2 = true ∧ l3 = true ∧ l4 = true ∧ l5 = true ∧ l6 = true)
set_option maxRecDepth 100000 in
set_option maxHeartbeats 4000000 in
theorem iLeastLasso_any (v : Value) (l : La) (w : World) (h : AtLS w v l) :
    Calls Try.prog 17 #[v] w fun e w' => ∃ r, e = .returned (.tuple #[r, .bool (goodLa l)]) ∧ OwnLa w' w.heap.size w'.heap.size r (leastR l) ∧ Below w.heap.size w w' := by
  have HG : Hid (∀ w1 : World, Below w.heap.size w w1 → Calls Try.prog 20 #[v] w1 fun e w' => e = .returned (.bool (goodLa l)) ∧ Below w1.heap.size w1 w') := fun w1 hb => iGoodLasso_any v l w1 (h.at.below hb)
  have hR : leastR l = bif goodLa l then leastL l else ([], []) := by
    show (if goodLa l = true then _ else _) = _
    cases goodLa l <;> rfl
  have HLT : Hid (goodLa l = true → ∃ r t : Nat, roundL l = r ∧ r ≤ 24 ∧ t ≤ 24 ∧
      (∀ w1 : World, Below w.heap.size w w1 → Calls Try.prog 49 #[v] w1 fun e w' => e = .returned (.int .i64 r) ∧ Below w1.heap.size w1 w') ∧
      (∀ w1 : World, Below w.heap.size w w1 → Calls Try.prog 51 #[v, .int .i64 r] w1 fun e w' => e = .returned (.int .i64 t) ∧ Below w1.heap.size w1 w') ∧
      (∀ w1 : World, Below w.heap.size w w1 → Calls Try.prog 50 #[v, .int .i64 0, .int .i64 t, .int .i64 r] w1 fun e w' => ∃ u, e = .returned u ∧ OwnLa w' w1.heap.size w'.heap.size u (leastL l) ∧ Below w1.heap.size w1 w')) := fun hg => by
    obtain ⟨q1, q2, q3⟩ := good_lens hg
    obtain ⟨r1, r2, _, _⟩ := roundL_has q2
    have ht := turnPt_le l (roundL l)
    exact ⟨_, turnPt l (roundL l), rfl, by omega, by omega, fun w1 hb => leastRound_any v l hg w1 (h.below hb), fun w1 hb => leastTurn_any v l hg _ (by omega) w1 (h.at.below hb), fun w1 hb => cutAt_any v l hg 0 _ _ (Nat.zero_le _) (by omega) w1 (h.at.below hb)⟩
  obtain ⟨ga, gn, gc, oa, on, oc, rfl⟩ := h.shape
  have hb2 : Below w.heap.size w ((w.alloc (.cells #[.slice ga gn gc, .slice oa on oc] 26)).alloc (.cells #[.slice none 0 0, .slice none 0 0] 26)) := ((Below.refl _ _).alloc (Nat.le_refl _) _).alloc (by rw [World.size_alloc]; omega) _
  have HB0 : Hid _ := hb2
  have x0 := (box2_alloc w 26 (.slice ga gn gc) (.slice oa on oc)).alloc (.cells #[.slice none 0 0, .slice none 0 0] 26)
  have y0 := box2_alloc (w.alloc (.cells #[.slice ga gn gc, .slice oa on oc] 26)) 26 (.slice none 0 0) (.slice none 0 0)
  simp only [World.size_alloc] at y0
  have HX0 : Hid _ := x0
  have HY0 : Hid _ := y0
  have hz0 : ((w.alloc (.cells #[.slice ga gn gc, .slice oa on oc] 26)).alloc (.cells #[.slice none 0 0, .slice none 0 0] 26)).heap.size = w.heap.size + 2 := by rw [World.size_alloc, World.size_alloc]
  obtain ⟨a0, a1⟩ := x0.cells
  have ah := x0.heap
  have al := x0.lt
  have g := HG.out _ HB0.out
  rw [hR]
  clear h HG hb2 x0 y0 hR
  generalize leastL l = LR at *
  generalize goodLa l = AB at *
  cases AB with
  | false =>
    show Calls _ _ _ _ (fun e w' => ∃ r, e = .returned (.tuple #[r, .bool false]) ∧ OwnLa w' w.heap.size w'.heap.size r ([], []) ∧ Below w.heap.size w w')
    clear HLT
    go_enter Try.func17, Try.ntmps17
    go_wp2_with fail
    refine g.mono ?_
    clear a0 a1 ah al
    generalize (w.alloc (.cells #[.slice ga gn gc, .slice oa on oc] 26)).alloc (.cells #[.slice none 0 0, .slice none 0 0] 26) = w0 at *
    rintro e w1 ⟨rfl, hs⟩
    have HB1 : Hid (Below w.heap.size w w1) := HB0.out.trans (hs.mono (by omega))
    have y1 := HY0.out.below hs (by omega)
    have x1 := HX0.out.below hs (by omega)
    have hs1 := hs.size
    clear g hs
    clear x1
    have HZO : Hid (OwnLa ((w1.setCell ⟨w.heap.size + 1, 0, none⟩ (.slice none 0 0)).setCell ⟨w.heap.size + 1, 1, none⟩ (.slice none 0 0)) w.heap.size ((w1.setCell ⟨w.heap.size + 1, 0, none⟩ (.slice none 0 0)).setCell ⟨w.heap.size + 1, 1, none⟩ (.slice none 0 0)).heap.size (.agg #[.slice none 0 0, .slice none 0 0]) ([], [])) := ownLa_nil _ _
    obtain ⟨k0, k1⟩ := y1.cells
    have kh := y1.heap
    have kl := y1.lt
    have kf0 := y1.frozen 0
    have kf1 := y1.frozen 1
    have y9 := (y1.set0 (.slice none 0 0)).set1 (.slice none 0 0)
    have hyh := y9.heap
    have HBE : Hid (Below w.heap.size w ((w1.setCell ⟨w.heap.size + 1, 0, none⟩ (.slice none 0 0)).setCell ⟨w.heap.size + 1, 1, none⟩ (.slice none 0 0))) := (HB1.out.setCell (by show w.heap.size ≤ w.heap.size + 1; omega) _).setCell (by show w.heap.size ≤ w.heap.size + 1; omega) _
    clear HX0 HY0 y9 y1
    go_wp2_with fail
    refine bodyPost_ret (results_la rfl _ _ (w.heap.size + 1) 26 _ (0, 0) _ rfl hyh Try.underlying26 rfl (by kernel_rfl)) rfl ?_
    exact ⟨_, rfl, HZO.out, HBE.out⟩
  | true =>
    show Calls _ _ _ _ (fun e w' => ∃ r, e = .returned (.tuple #[r, .bool true]) ∧ OwnLa w' w.heap.size w'.heap.size r LR ∧ Below w.heap.size w w')
    obtain ⟨r, t, _, hr24, ht24, gr0, gt0, gc0⟩ := HLT.out rfl
    have GR : Hid _ := gr0
    have GT : Hid _ := gt0
    have GC : Hid _ := gc0
    clear HLT gr0 gt0 gc0
    go_enter Try.func17, Try.ntmps17
    go_wp2_with fail
    refine g.mono ?_
    clear a0 a1 ah al
    generalize (w.alloc (.cells #[.slice ga gn gc, .slice oa on oc] 26)).alloc (.cells #[.slice none 0 0, .slice none 0 0] 26) = w0 at *
    rintro e w1 ⟨rfl, hs⟩
    have HB1 : Hid (Below w.heap.size w w1) := HB0.out.trans (hs.mono (by omega))
    have y1 := HY0.out.below hs (by omega)
    have x1 := HX0.out.below hs (by omega)
    have hs1 := hs.size
    clear g hs
    obtain ⟨a0, a1⟩ := x1.cells
    have ah := x1.heap
    have al := x1.lt
    clear HX0
    have g2 := GR.out _ HB1.out
    go_wp2_with fail
    refine g2.mono ?_
    rintro e w2 ⟨rfl, hs⟩
    have HB2 : Hid (Below w.heap.size w w2) := HB1.out.trans (hs.mono (by omega))
    have x2 := x1.below hs (by omega)
    have y2 := y1.below hs (by omega)
    have hs2 := hs.size
    clear g2 hs a0 a1 ah al x1 y1
    have HXP : Hid (∀ w3, Below w2.drew.heap.size w2.drew w3 → Box2 w3 w.heap.size 26 (.slice ga gn gc) (.slice oa on oc)) := fun w3 hb3 => Box2.below (w := w2.drew) ⟨x2.heap⟩ hb3 (by show _ < w2.heap.size; omega)
    have HYP : Hid (∀ w3, Below w2.drew.heap.size w2.drew w3 → Box2 w3 (w.heap.size + 1) 26 (.slice none 0 0) (.slice none 0 0)) := fun w3 hb3 => Box2.below (w := w2.drew) ⟨y2.heap⟩ hb3 (by show _ < w2.heap.size; omega)
    have HBW : Hid (∀ w3, Below w2.drew.heap.size w2.drew w3 → Below w.heap.size w w3) := fun w3 hb3 => HB2.out.drew.trans (hb3.mono (by show w.heap.size ≤ w2.heap.size; omega))
    obtain ⟨a0, a1⟩ := x2.cells
    have ah := x2.heap
    have al := x2.lt
    clear x2 y2 HY0
    go_wp2_with fail
    refine wp_region_any (by kernel_rfl) ?_
    change wpAny _ _ _ _ _ _ _ (World.drew _)
    refine wpAny_invN (fun lb9 ac9 w' => ∃ (l0 l1 l2 l3 l4 l5 l6 l7 : Bool) (s0 s1 s2 s3 s4 s5 s7 : Value), lb9 = #[l0, l1, l2, l3, l4, l5, l6, l7] ∧ ac9 = { tmps := #[.agg #[.slice ga gn gc, .slice oa on oc], .pointer (some ⟨w.heap.size, 0, none⟩), .pointer (some ⟨w.heap.size + 1, 0, none⟩), s7, .int .i64 r, .agg #[.slice ga gn gc, .slice oa on oc], .bool true, .bool false, undef, .agg #[.slice ga gn gc, .slice oa on oc], .int .i64 r, s0, s1, s2, s3, s4, s5], defers := [] } ∧ RegLeast w2.drew w' w2.drew.heap.size (w.heap.size + 1) ga gn gc oa on oc r t LR l0 l1 l2 l3 l4 l5 l6 l7 s0 s1 s2 s3 s4 s5 s7) ?done ?step 8 _ _ _ ⟨false, false, false, false, false, false, false, false, _, _, _, _, _, _, _, rfl, rfl, ?init⟩ (by decide)
    case init => exact { bel := fun _ => Below.refl _ _, all := fun e => (by cases e), fin := fun e => (by cases e), d0 := fun e => (by cases e), d1 := fun e => (by cases e), d2 := fun e => (by cases e), d3 := fun e => (by cases e), d4 := fun e => (by cases e), d5 := fun e => (by cases e), d7 := fun e => (by cases e) }
    case step =>
      rintro lb9 ac9 w3 ⟨l0, l1, l2, l3, l4, l5, l6, l7, s0, s1, s2, s3, s4, s5, s7, rfl, rfl, h⟩
      intro q9 hq
      have hlt9 := ready_ltN hq
      match q9, hq, hlt9 with
      | 0, hq, _ =>
        have hr := ready_depN hq rfl
        have hme : l0 = false := hr.1
        have hT : l6 = false := by
          cases hc9 : l6 with
          | false => rfl
          | true => exact absurd (h.all hc9).1 (by rw [hme]; decide)
        have hbel := h.bel hT
        have x3 := HXP.out w3 hbel
        obtain ⟨c0, c1⟩ := x3.cells
        have ch := x3.heap
        have cl := x3.lt
        clear hr hq
        refine wpOp_runN rfl rfl (fun K hK => ?_)
        go_simp
        refine hK _ _ ⟨true, l1, l2, l3, l4, l5, l6, l7, _, _, _, _, _, _, _, rfl, rfl, ?_⟩
        exact { bel := h.bel, all := fun e => (by rw [hT] at e; cases e), fin := fun e => (by rw [hT] at e; cases e), d0 := fun _ => ⟨rfl, trivial⟩, d1 := h.d1, d2 := h.d2, d3 := h.d3, d4 := h.d4, d5 := fun e => absurd (h.d5 e).2.1 (by rw [hme]; decide), d7 := fun e => absurd (h.d7 e).2.1 (by rw [hme]; decide) }
      | 1, hq, _ =>
        have hr := ready_depN hq rfl
        have hme : l1 = false := hr.1
        have hT : l6 = false := by
          cases hc9 : l6 with
          | false => rfl
          | true => exact absurd (h.all hc9).2.1 (by rw [hme]; decide)
        have hbel := h.bel hT
        have x3 := HXP.out w3 hbel
        obtain ⟨c0, c1⟩ := x3.cells
        have ch := x3.heap
        have cl := x3.lt
        clear hr hq
        refine wpOp_runN rfl rfl (fun K hK => ?_)
        go_simp
        refine hK _ _ ⟨l0, true, l2, l3, l4, l5, l6, l7, _, _, _, _, _, _, _, rfl, rfl, ?_⟩
        exact { bel := h.bel, all := fun e => (by rw [hT] at e; cases e), fin := fun e => (by rw [hT] at e; cases e), d0 := h.d0, d1 := fun _ => ⟨rfl, trivial⟩, d2 := h.d2, d3 := fun e => absurd (h.d3 e).2.1 (by rw [hme]; decide), d4 := h.d4, d5 := h.d5, d7 := fun e => absurd (h.d7 e).2.2.1 (by rw [hme]; decide) }
      | 2, hq, _ =>
        have hr := ready_depN hq rfl
        have hme : l2 = false := hr.1
        have hT : l6 = false := by
          cases hc9 : l6 with
          | false => rfl
          | true => exact absurd (h.all hc9).2.2.1 (by rw [hme]; decide)
        have hbel := h.bel hT
        clear hr hq
        refine wpOp_runN rfl rfl (fun K hK => ?_)
        go_simp
        refine hK _ _ ⟨l0, l1, true, l3, l4, l5, l6, l7, _, _, _, _, _, _, _, rfl, rfl, ?_⟩
        exact { bel := h.bel, all := fun e => (by rw [hT] at e; cases e), fin := fun e => (by rw [hT] at e; cases e), d0 := h.d0, d1 := h.d1, d2 := fun _ => ⟨rfl, trivial⟩, d3 := fun e => absurd (h.d3 e).2.2 (by rw [hme]; decide), d4 := h.d4, d5 := h.d5, d7 := fun e => absurd (h.d7 e).2.2.2.1 (by rw [hme]; decide) }
      | 3, hq, _ =>
        have hr := ready_depN hq rfl
        have hme : l3 = false := hr.1
        have e1 : l1 = true := hr.2 ⟨1, .data⟩ (by simp) (by kernel_rfl)
        have e2 : l2 = true := hr.2 ⟨2, .data⟩ (by simp) (by kernel_rfl)
        have hT : l6 = false := by
          cases hc9 : l6 with
          | false => rfl
          | true => exact absurd (h.all hc9).2.2.2.1 (by rw [hme]; decide)
        have hbel := h.bel hT
        obtain rfl := (h.d1 e1).1
        obtain rfl := (h.d2 e2).1
        clear hr hq
        refine wpOp_runN rfl rfl (fun K hK => ?_)
        go_simp
        go_at_call 51
        refine Calls.mono (GT.out w3 (HBW.out w3 hbel)) ?_
        rintro e w4 ⟨rfl, hs4⟩
        have hbel4 := hbel.trans (hs4.mono hbel.size)
        refine hK _ _ ⟨l0, l1, l2, true, l4, l5, l6, l7, _, _, _, _, _, _, _, rfl, rfl, ?_⟩
        exact { bel := fun _ => hbel4, all := fun e => (by rw [hT] at e; cases e), fin := fun e => (by rw [hT] at e; cases e), d0 := h.d0, d1 := h.d1, d2 := h.d2, d3 := fun _ => ⟨rfl, e1, e2⟩, d4 := h.d4, d5 := fun e => absurd (h.d5 e).2.2.1 (by rw [hme]; decide), d7 := fun e => absurd (h.d7 e).2.2.2.2.1 (by rw [hme]; decide) }
      | 4, hq, _ =>
        have hr := ready_depN hq rfl
        have hme : l4 = false := hr.1
        have hT : l6 = false := by
          cases hc9 : l6 with
          | false => rfl
          | true => exact absurd (h.all hc9).2.2.2.2.1 (by rw [hme]; decide)
        have hbel := h.bel hT
        clear hr hq
        refine wpOp_runN rfl rfl (fun K hK => ?_)
        go_simp
        refine hK _ _ ⟨l0, l1, l2, l3, true, l5, l6, l7, _, _, _, _, _, _, _, rfl, rfl, ?_⟩
        exact { bel := h.bel, all := fun e => (by rw [hT] at e; cases e), fin := fun e => (by rw [hT] at e; cases e), d0 := h.d0, d1 := h.d1, d2 := h.d2, d3 := h.d3, d4 := fun _ => ⟨rfl, trivial⟩, d5 := fun e => absurd (h.d5 e).2.2.2 (by rw [hme]; decide), d7 := fun e => absurd (h.d7 e).2.2.2.2.2.1 (by rw [hme]; decide) }
      | 5, hq, _ =>
        have hr := ready_depN hq rfl
        have hme : l5 = false := hr.1
        have e0 : l0 = true := hr.2 ⟨0, .data⟩ (by simp) (by kernel_rfl)
        have e3 : l3 = true := hr.2 ⟨3, .data⟩ (by simp) (by kernel_rfl)
        have e4 : l4 = true := hr.2 ⟨4, .data⟩ (by simp) (by kernel_rfl)
        have hT : l6 = false := by
          cases hc9 : l6 with
          | false => rfl
          | true => exact absurd (h.all hc9).2.2.2.2.2 (by rw [hme]; decide)
        have hbel := h.bel hT
        obtain rfl := (h.d0 e0).1
        obtain rfl := (h.d3 e3).1
        obtain rfl := (h.d4 e4).1
        clear hr hq
        refine wpOp_runN rfl rfl (fun K hK => ?_)
        go_simp
        go_at_call 50
        refine Calls.mono (GC.out w3 (HBW.out w3 hbel)) ?_
        rintro e w4 ⟨r, rfl, ho, hs4⟩
        have hbel4 := hbel.trans (hs4.mono hbel.size)
        have hnew := rwL_of hbel.size ho
        refine hK _ _ ⟨l0, l1, l2, l3, l4, true, l6, l7, _, _, _, _, _, _, _, rfl, rfl, ?_⟩
        exact { bel := fun _ => hbel4, all := fun e => (by rw [hT] at e; cases e), fin := fun e => (by rw [hT] at e; cases e), d0 := h.d0, d1 := h.d1, d2 := h.d2, d3 := h.d3, d4 := h.d4, d5 := fun _ => ⟨fun _ => hnew, e0, e3, e4⟩, d7 := fun e => absurd (h.d7 e).2.2.2.2.2.2.1 (by rw [hme]; decide) }
      | 6, hq, _ =>
        have hr := ready_depN hq rfl
        have hme : l6 = false := hr.1
        have e0 : l0 = true := hr.2 ⟨0, .phase⟩ (by simp) (by kernel_rfl)
        have e1 : l1 = true := hr.2 ⟨1, .phase⟩ (by simp) (by kernel_rfl)
        have e2 : l2 = true := hr.2 ⟨2, .phase⟩ (by simp) (by kernel_rfl)
        have e3 : l3 = true := hr.2 ⟨3, .phase⟩ (by simp) (by kernel_rfl)
        have e4 : l4 = true := hr.2 ⟨4, .phase⟩ (by simp) (by kernel_rfl)
        have e5 : l5 = true := hr.2 ⟨5, .data⟩ (by simp) (by kernel_rfl)
        have hbel := h.bel hme
        obtain rfl := (h.d0 e0).1
        obtain rfl := (h.d1 e1).1
        obtain rfl := (h.d2 e2).1
        obtain rfl := (h.d3 e3).1
        obtain rfl := (h.d4 e4).1
        have y3 := HYP.out w3 hbel
        obtain ⟨k0, k1⟩ := y3.cells
        have kh := y3.heap
        have kl := y3.lt
        have kf0 := y3.frozen 0
        have kf1 := y3.frozen 1
        clear hr hq
        have hF5 := (h.d5 e5).1 hme
        refine wpOp_runN rfl rfl (fun K hK => ?_)
        obtain ⟨ua, un, uc, va, vn, vc, rfl⟩ := hF5.shape
        go_simp
        refine hK _ _ ⟨l0, l1, l2, l3, l4, l5, true, l7, _, _, _, _, _, _, _, rfl, rfl, ?_⟩
        exact { bel := fun e => (by cases e), all := fun _ => ⟨e0, e1, e2, e3, e4, e5⟩, fin := fun _ => ⟨w3, hbel, rfl, hF5⟩, d0 := h.d0, d1 := h.d1, d2 := h.d2, d3 := h.d3, d4 := h.d4, d5 := fun e => ⟨fun e9 => (by cases e9), (h.d5 e).2⟩, d7 := fun e => absurd (h.d7 e).2.2.2.2.2.2.2 (by rw [hme]; decide) }
      | 7, hq, _ =>
        have hr := ready_depN hq rfl
        have hme : l7 = false := hr.1
        have e0 : l0 = true := hr.2 ⟨0, .phase⟩ (by simp) (by kernel_rfl)
        have e1 : l1 = true := hr.2 ⟨1, .phase⟩ (by simp) (by kernel_rfl)
        have e2 : l2 = true := hr.2 ⟨2, .phase⟩ (by simp) (by kernel_rfl)
        have e3 : l3 = true := hr.2 ⟨3, .phase⟩ (by simp) (by kernel_rfl)
        have e4 : l4 = true := hr.2 ⟨4, .phase⟩ (by simp) (by kernel_rfl)
        have e5 : l5 = true := hr.2 ⟨5, .phase⟩ (by simp) (by kernel_rfl)
        have e6 : l6 = true := hr.2 ⟨6, .chain⟩ (by simp) (by kernel_rfl)
        obtain rfl := (h.d0 e0).1
        obtain rfl := (h.d1 e1).1
        obtain rfl := (h.d2 e2).1
        obtain rfl := (h.d3 e3).1
        obtain rfl := (h.d4 e4).1
        clear hr hq
        refine wpOp_runN rfl rfl (fun K hK => ?_)
        go_simp
        refine hK _ _ ⟨l0, l1, l2, l3, l4, l5, l6, true, _, _, _, _, _, _, _, rfl, rfl, ?_⟩
        exact { bel := h.bel, all := h.all, fin := h.fin, d0 := h.d0, d1 := h.d1, d2 := h.d2, d3 := h.d3, d4 := h.d4, d5 := h.d5, d7 := fun _ => ⟨rfl, e0, e1, e2, e3, e4, e5, e6⟩ }
      | k + 8, hq, h18 => exact (Nat.not_lt_of_le (Nat.le_add_left 8 k) h18).elim
    case done =>
      rintro lb9 ac9 w3 ⟨l0, l1, l2, l3, l4, l5, l6, l7, s0, s1, s2, s3, s4, s5, s7, rfl, rfl, h⟩ hr
      cases l0
      · exact (ready_none2N hr 0 rfl rfl rfl).elim
      cases l1
      · exact (ready_none2N hr 1 rfl rfl rfl).elim
      cases l2
      · exact (ready_none2N hr 2 rfl rfl rfl).elim
      cases l3
      · exact (ready_none2N hr 3 rfl rfl rfl).elim
      cases l4
      · exact (ready_none2N hr 4 rfl rfl rfl).elim
      cases l5
      · exact (ready_none2N hr 5 rfl rfl rfl).elim
      cases l6
      · exact (ready_none2N hr 6 rfl rfl rfl).elim
      cases l7
      · exact (ready_none2N hr 7 rfl rfl rfl).elim
      obtain rfl := (h.d0 rfl).1
      obtain rfl := (h.d1 rfl).1
      obtain rfl := (h.d2 rfl).1
      obtain rfl := (h.d3 rfl).1
      obtain rfl := (h.d4 rfl).1
      obtain rfl := (h.d7 rfl).1
      obtain ⟨w4, hbel, rfl, hF5⟩ := h.fin rfl
      clear h hr
      obtain ⟨ua, un, uc, va, vn, vc, rfl⟩ := hF5.shape
      have hF9 := hF5
      obtain ⟨lo, hi, hlo, hO⟩ := hF9
      have y4 := ((HYP.out w4 hbel).set0 (.slice ua un uc)).set1 (.slice va vn vc)
      change w2.heap.size ≤ lo at hlo
      have HOL : Hid (OwnLa ((w4.setCell ⟨w.heap.size + 1, 0, none⟩ (.slice ua un uc)).setCell ⟨w.heap.size + 1, 1, none⟩ (.slice va vn vc)) w.heap.size ((w4.setCell ⟨w.heap.size + 1, 0, none⟩ (.slice ua un uc)).setCell ⟨w.heap.size + 1, 1, none⟩ (.slice va vn vc)).heap.size (.agg #[.slice ua un uc, .slice va vn vc]) LR) := ((hO.setO (b := w.heap.size + 1) (o := 0) (x := .slice ua un uc) (Or.inl (by omega))).setO (b := w.heap.size + 1) (o := 1) (x := .slice va vn vc) (Or.inl (by omega))).weak (by omega) (by rw [size_set, size_set]; exact hO.hi) (Nat.le_refl _)
      have HBE : Hid (Below w.heap.size w ((w4.setCell ⟨w.heap.size + 1, 0, none⟩ (.slice ua un uc)).setCell ⟨w.heap.size + 1, 1, none⟩ (.slice va vn vc))) := ((HBW.out w4 hbel).setCell (by show w.heap.size ≤ w.heap.size + 1; omega) _).setCell (by show w.heap.size ≤ w.heap.size + 1; omega) _
      have hyh := y4.heap
      clear hO hF5
      go_wp2_with fail
      refine bodyPost_ret (results_la rfl _ _ (w.heap.size + 1) 26 _ (0, 0) _ rfl hyh Try.underlying26 rfl (by kernel_rfl)) rfl ?_
      exact ⟨_, rfl, HOL.out, HBE.out⟩
end Go.Proofs.Ythamdefkcjfjpaa

namespace Go.Proofs.Ythamdefkcjfjpaa
open Go Go.RowKit
open M
set_option linter.unusedVariables false
set_option linter.unusedSimpArgs false

def sameB (a b : La) : Bool := goodLa a && goodLa b
def sameR (a b : La) : Bool := goodLa a && goodLa b && sameN 600 a b
structure RegSame (W w' : World) (B : Nat) (ga : Option Addr) (gn gc : Nat) (oa : Option Addr) (on oc : Nat) (ha : Option Addr) (hn hc : Nat) (pa : Option Addr) (pn pc : Nat) (E : Nat) (SB : Bool) (xs ys : List Int) (l0 l1 l2 l3 l4 l5 l6 l7 : Bool) (s0 s1 s2 s3 s4 s5 s6 s7 : Value) : Prop where
  (bel : Below W.heap.size W w')
  (d0 : l0 = true → s0 = .agg #[.slice ga gn gc, .slice oa on oc] ∧ True)
  (d1 : l1 = true → s1 = .int .i64 600 ∧ True)
  (d2 : l2 = true → (Rw B w' s2 xs) ∧ l0 = true ∧ l1 = true)
  (d3 : l3 = true → s3 = .agg #[.slice ha hn hc, .slice pa pn pc] ∧ True)
  (d4 : l4 = true → s4 = .int .i64 600 ∧ True)
  (d5 : l5 = true → (Rw B w' s5 ys) ∧ l2 = true ∧ l3 = true ∧ l4 = true)
  (d6 : l6 = true → s6 = .bool SB ∧ l2 = true ∧ l5 = true)
  (d7 : l7 = true → s7 = .bool SB ∧ l0 = true ∧ l1 = true ∧ l2 = true ∧ l3 = true ∧ l4 = true ∧ l5 = true ∧ l6 = true)
set_option maxRecDepth 100000 in
set_option maxHeartbeats 8000000 in
theorem l9Same_any (u v : Value) (a b : La) (ha0 : goodLa a = true) (hb0 : goodLa b = true) (w : World) (h : AtLa w u a) (h' : AtLa w v b) :
    Calls Try.prog 48 #[u, v] w fun e w' => e = .returned (.bool (sameN 600 a b)) ∧ Below w.heap.size w w' := by
  have GA : Hid (∀ w1 : World, Below w.heap.size w w1 → Calls Try.prog 52 #[u, .int .i64 0, .int .i64 600] w1 fun e w' => ∃ r, e = .returned r ∧ OwnInts2 w' w1.heap.size r (unrL a 0 600) ∧ Below w1.heap.size w1 w') := fun w1 hb => l9First_any u a ha0 0 600 (by omega) w1 (h.below hb)
  have GB : Hid (∀ w1 : World, Below w.heap.size w w1 → Calls Try.prog 52 #[v, .int .i64 0, .int .i64 600] w1 fun e w' => ∃ r, e = .returned r ∧ OwnInts2 w' w1.heap.size r (unrL b 0 600) ∧ Below w1.heap.size w1 w') := fun w1 hb => l9First_any v b hb0 0 600 (by omega) w1 (h'.below hb)
  have GE : Hid (∀ (w1 : World) (x y : Value), Below w.heap.size w w1 → IntsAt w1 x (unrL a 0 600) → IntsAt w1 y (unrL b 0 600) → Calls Try.prog 70 #[x, y] w1 fun e w' => e = .returned (.bool (sameN 600 a b)) ∧ Below w1.heap.size w1 w') := fun w1 x y _ hx hy => l1SameI_any x y _ _ w1 hx hy
  have HXL : Hid ((unrL a 0 600).length ≤ 1048576) := by show _ ≤ _; rw [unrL_len]; omega
  have HYL : Hid ((unrL b 0 600).length ≤ 1048576) := by show _ ≤ _; rw [unrL_len]; omega
  obtain ⟨ga, gn, gc, oa, on, oc, rfl⟩ := h.shape
  obtain ⟨ha, hn, hc, pa, pn, pc, rfl⟩ := h'.shape
  obtain ⟨w0, hw0⟩ : ∃ w0, (w.alloc (.cells #[.slice ga gn gc, .slice oa on oc] 26)).alloc (.cells #[.slice ha hn hc, .slice pa pn pc] 26) = w0 := ⟨_, rfl⟩
  have HB0 : Hid (Below w.heap.size w w0) := by
    show Below _ _ _
    rw [← hw0]
    exact ((Below.refl _ _).alloc (Nat.le_refl _) _).alloc (by rw [World.size_alloc]; omega) _
  have x0 := (box2_alloc w 26 (.slice ga gn gc) (.slice oa on oc)).alloc (.cells #[.slice ha hn hc, .slice pa pn pc] 26)
  have y0 := box2_alloc (w.alloc (.cells #[.slice ga gn gc, .slice oa on oc] 26)) 26 (.slice ha hn hc) (.slice pa pn pc)
  simp only [World.size_alloc] at y0
  have hz0 : w0.heap.size = w.heap.size + 2 := by rw [← hw0, World.size_alloc, World.size_alloc]
  rw [hw0] at x0 y0
  have HXP : Hid (∀ w3, Below w0.drew.heap.size w0.drew w3 → Box2 w3 w.heap.size 26 (.slice ga gn gc) (.slice oa on oc)) := fun w3 hb3 => Box2.below (w := w0.drew) ⟨x0.heap⟩ hb3 (by show _ < w0.heap.size; omega)
  have HYP : Hid (∀ w3, Below w0.drew.heap.size w0.drew w3 → Box2 w3 (w.heap.size + 1) 26 (.slice ha hn hc) (.slice pa pn pc)) := fun w3 hb3 => Box2.below (w := w0.drew) ⟨y0.heap⟩ hb3 (by show _ < w0.heap.size; omega)
  have HBW : Hid (∀ w3, Below w0.drew.heap.size w0.drew w3 → Below w.heap.size w w3) := fun w3 hb3 => HB0.out.drew.trans (hb3.mono (by show w.heap.size ≤ w0.heap.size; omega))
  have HW0 : Hid _ := hw0
  clear h h' ha0 hb0 x0 y0 hw0
  generalize unrL a 0 600 = xs at *
  generalize unrL b 0 600 = ys at *
  generalize sameN 600 a b = SB at *
  go_enter Try.func48, Try.ntmps48
  go_wp2_with fail
  rw [HW0.out]
  refine wp_region_any (by kernel_rfl) ?_
  change wpAny _ _ _ _ _ _ _ (World.drew _)
  refine wpAny_invN (fun lb9 ac9 w' => ∃ (l0 l1 l2 l3 l4 l5 l6 l7 : Bool) (s0 s1 s2 s3 s4 s5 s6 s7 : Value), lb9 = #[l0, l1, l2, l3, l4, l5, l6, l7] ∧ ac9 = { tmps := #[.agg #[.slice ga gn gc, .slice oa on oc], .agg #[.slice ha hn hc, .slice pa pn pc], .pointer (some ⟨w.heap.size, 0, none⟩), .pointer (some ⟨w.heap.size + 1, 0, none⟩), s7, .int .i64 600, s0, s1, s2, s3, s4, s5, s6], defers := [] } ∧ RegSame w0.drew w' w0.drew.heap.size ga gn gc oa on oc ha hn hc pa pn pc 600 SB xs ys l0 l1 l2 l3 l4 l5 l6 l7 s0 s1 s2 s3 s4 s5 s6 s7) ?done ?step 8 _ _ _ ⟨false, false, false, false, false, false, false, false, _, _, _, _, _, _, _, _, rfl, rfl, ?init⟩ (by decide)
  case init => exact { bel := Below.refl _ _, d0 := fun e => (by cases e), d1 := fun e => (by cases e), d2 := fun e => (by cases e), d3 := fun e => (by cases e), d4 := fun e => (by cases e), d5 := fun e => (by cases e), d6 := fun e => (by cases e), d7 := fun e => (by cases e) }
  case step =>
    rintro lb9 ac9 w3 ⟨l0, l1, l2, l3, l4, l5, l6, l7, s0, s1, s2, s3, s4, s5, s6, s7, rfl, rfl, h⟩
    intro q hq
    have hlt9 := ready_ltN hq
    match q, hq, hlt9 with
    | 0, hq, _ =>
      have hr := ready_depN hq rfl
      have hme : l0 = false := hr.1
      have hbel := h.bel
      have x3 := HXP.out w3 hbel
      obtain ⟨c0, c1⟩ := x3.cells
      have ch := x3.heap
      have cl := x3.lt
      clear hr hq
      refine wpOp_runN rfl rfl (fun K hK => ?_)
      go_simp
      refine hK _ _ ⟨true, l1, l2, l3, l4, l5, l6, l7, _, _, _, _, _, _, _, _, rfl, rfl, ?_⟩
      exact { bel := h.bel, d0 := fun _ => ⟨rfl, trivial⟩, d1 := h.d1, d2 := fun e => absurd (h.d2 e).2.1 (by rw [hme]; decide), d3 := h.d3, d4 := h.d4, d5 := h.d5, d6 := h.d6, d7 := fun e => absurd (h.d7 e).2.1 (by rw [hme]; decide) }
    | 1, hq, _ =>
      have hr := ready_depN hq rfl
      have hme : l1 = false := hr.1
      have hbel := h.bel
      clear hr hq
      refine wpOp_runN rfl rfl (fun K hK => ?_)
      go_simp
      refine hK _ _ ⟨l0, true, l2, l3, l4, l5, l6, l7, _, _, _, _, _, _, _, _, rfl, rfl, ?_⟩
      exact { bel := h.bel, d0 := h.d0, d1 := fun _ => ⟨rfl, trivial⟩, d2 := fun e => absurd (h.d2 e).2.2 (by rw [hme]; decide), d3 := h.d3, d4 := h.d4, d5 := h.d5, d6 := h.d6, d7 := fun e => absurd (h.d7 e).2.2.1 (by rw [hme]; decide) }
    | 2, hq, _ =>
      have hr := ready_depN hq rfl
      have hme : l2 = false := hr.1
      have e0 : l0 = true := hr.2 ⟨0, .data⟩ (by simp) (by kernel_rfl)
      have e1 : l1 = true := hr.2 ⟨1, .data⟩ (by simp) (by kernel_rfl)
      have hbel := h.bel
      obtain rfl := (h.d0 e0).1
      obtain rfl := (h.d1 e1).1
      clear hr hq
      refine wpOp_runN rfl rfl (fun K hK => ?_)
      go_simp
      go_at_call 52
      refine Calls.mono (GA.out w3 (HBW.out w3 hbel)) ?_
      rintro e w4 ⟨r, rfl, ho, hs4⟩
      have hbel4 := hbel.trans (hs4.mono hbel.size)
      have hnew := rw_of hbel.size (own_of2 ho)
      refine hK _ _ ⟨l0, l1, true, l3, l4, l5, l6, l7, _, _, _, _, _, _, _, _, rfl, rfl, ?_⟩
      exact { bel := hbel4, d0 := h.d0, d1 := h.d1, d2 := fun _ => ⟨hnew, e0, e1⟩, d3 := h.d3, d4 := h.d4, d5 := fun e => absurd (h.d5 e).2.1 (by rw [hme]; decide), d6 := fun e => absurd (h.d6 e).2.1 (by rw [hme]; decide), d7 := fun e => absurd (h.d7 e).2.2.2.1 (by rw [hme]; decide) }
    | 3, hq, _ =>
      have hr := ready_depN hq rfl
      have hme : l3 = false := hr.1
      have hbel := h.bel
      have x3 := HYP.out w3 hbel
      obtain ⟨c0, c1⟩ := x3.cells
      have ch := x3.heap
      have cl := x3.lt
      clear hr hq
      refine wpOp_runN rfl rfl (fun K hK => ?_)
      go_simp
      refine hK _ _ ⟨l0, l1, l2, true, l4, l5, l6, l7, _, _, _, _, _, _, _, _, rfl, rfl, ?_⟩
      exact { bel := h.bel, d0 := h.d0, d1 := h.d1, d2 := h.d2, d3 := fun _ => ⟨rfl, trivial⟩, d4 := h.d4, d5 := fun e => absurd (h.d5 e).2.2.1 (by rw [hme]; decide), d6 := h.d6, d7 := fun e => absurd (h.d7 e).2.2.2.2.1 (by rw [hme]; decide) }
    | 4, hq, _ =>
      have hr := ready_depN hq rfl
      have hme : l4 = false := hr.1
      have hbel := h.bel
      clear hr hq
      refine wpOp_runN rfl rfl (fun K hK => ?_)
      go_simp
      refine hK _ _ ⟨l0, l1, l2, l3, true, l5, l6, l7, _, _, _, _, _, _, _, _, rfl, rfl, ?_⟩
      exact { bel := h.bel, d0 := h.d0, d1 := h.d1, d2 := h.d2, d3 := h.d3, d4 := fun _ => ⟨rfl, trivial⟩, d5 := fun e => absurd (h.d5 e).2.2.2 (by rw [hme]; decide), d6 := h.d6, d7 := fun e => absurd (h.d7 e).2.2.2.2.2.1 (by rw [hme]; decide) }
    | 5, hq, _ =>
      have hr := ready_depN hq rfl
      have hme : l5 = false := hr.1
      have e2 : l2 = true := hr.2 ⟨2, .chain⟩ (by simp) (by kernel_rfl)
      have e3 : l3 = true := hr.2 ⟨3, .data⟩ (by simp) (by kernel_rfl)
      have e4 : l4 = true := hr.2 ⟨4, .data⟩ (by simp) (by kernel_rfl)
      have hbel := h.bel
      obtain rfl := (h.d3 e3).1
      obtain rfl := (h.d4 e4).1
      clear hr hq
      refine wpOp_runN rfl rfl (fun K hK => ?_)
      go_simp
      go_at_call 52
      refine Calls.mono (GB.out w3 (HBW.out w3 hbel)) ?_
      rintro e w4 ⟨r, rfl, ho, hs4⟩
      have hbel4 := hbel.trans (hs4.mono hbel.size)
      have hnew := rw_of hbel.size (own_of2 ho)
      refine hK _ _ ⟨l0, l1, l2, l3, l4, true, l6, l7, _, _, _, _, _, _, _, _, rfl, rfl, ?_⟩
      exact { bel := hbel4, d0 := h.d0, d1 := h.d1, d2 := fun e => ⟨(h.d2 e).1.below hs4, (h.d2 e).2⟩, d3 := h.d3, d4 := h.d4, d5 := fun _ => ⟨hnew, e2, e3, e4⟩, d6 := fun e => absurd (h.d6 e).2.2 (by rw [hme]; decide), d7 := fun e => absurd (h.d7 e).2.2.2.2.2.2.1 (by rw [hme]; decide) }
    | 6, hq, _ =>
      have hr := ready_depN hq rfl
      have hme : l6 = false := hr.1
      have e2 : l2 = true := hr.2 ⟨2, .data⟩ (by simp) (by kernel_rfl)
      have e5 : l5 = true := hr.2 ⟨5, .data⟩ (by simp) (by kernel_rfl)
      have hbel := h.bel
      clear hr hq
      refine wpOp_runN rfl rfl (fun K hK => ?_)
      go_simp
      go_at_call 70
      refine Calls.mono (GE.out w3 s2 s5 (HBW.out w3 hbel) ((h.d2 e2).1.reads HXL.out) ((h.d5 e5).1.reads HYL.out)) ?_
      rintro e w4 ⟨rfl, hs4⟩
      have hbel4 := hbel.trans (hs4.mono hbel.size)
      refine hK _ _ ⟨l0, l1, l2, l3, l4, l5, true, l7, _, _, _, _, _, _, _, _, rfl, rfl, ?_⟩
      exact { bel := hbel4, d0 := h.d0, d1 := h.d1, d2 := fun e => ⟨(h.d2 e).1.below hs4, (h.d2 e).2⟩, d3 := h.d3, d4 := h.d4, d5 := fun e => ⟨(h.d5 e).1.below hs4, (h.d5 e).2⟩, d6 := fun _ => ⟨rfl, e2, e5⟩, d7 := fun e => absurd (h.d7 e).2.2.2.2.2.2.2 (by rw [hme]; decide) }
    | 7, hq, _ =>
      have hr := ready_depN hq rfl
      have hme : l7 = false := hr.1
      have e0 : l0 = true := hr.2 ⟨0, .phase⟩ (by simp) (by kernel_rfl)
      have e1 : l1 = true := hr.2 ⟨1, .phase⟩ (by simp) (by kernel_rfl)
      have e2 : l2 = true := hr.2 ⟨2, .phase⟩ (by simp) (by kernel_rfl)
      have e3 : l3 = true := hr.2 ⟨3, .phase⟩ (by simp) (by kernel_rfl)
      have e4 : l4 = true := hr.2 ⟨4, .phase⟩ (by simp) (by kernel_rfl)
      have e5 : l5 = true := hr.2 ⟨5, .phase⟩ (by simp) (by kernel_rfl)
      have e6 : l6 = true := hr.2 ⟨6, .data⟩ (by simp) (by kernel_rfl)
      have hbel := h.bel
      obtain rfl := (h.d0 e0).1
      obtain rfl := (h.d1 e1).1
      obtain rfl := (h.d3 e3).1
      obtain rfl := (h.d4 e4).1
      obtain rfl := (h.d6 e6).1
      clear hr hq
      refine wpOp_runN rfl rfl (fun K hK => ?_)
      go_simp
      refine hK _ _ ⟨l0, l1, l2, l3, l4, l5, l6, true, _, _, _, _, _, _, _, _, rfl, rfl, ?_⟩
      exact { bel := h.bel, d0 := h.d0, d1 := h.d1, d2 := h.d2, d3 := h.d3, d4 := h.d4, d5 := h.d5, d6 := h.d6, d7 := fun _ => ⟨rfl, e0, e1, e2, e3, e4, e5, e6⟩ }
    | k + 8, hq, h18 => exact (Nat.not_lt_of_le (Nat.le_add_left 8 k) h18).elim
  case done =>
    rintro lb9 ac9 w3 ⟨l0, l1, l2, l3, l4, l5, l6, l7, s0, s1, s2, s3, s4, s5, s6, s7, rfl, rfl, h⟩ hr
    cases l0
    · exact (ready_none2N hr 0 rfl rfl rfl).elim
    cases l1
    · exact (ready_none2N hr 1 rfl rfl rfl).elim
    cases l2
    · exact (ready_none2N hr 2 rfl rfl rfl).elim
    cases l3
    · exact (ready_none2N hr 3 rfl rfl rfl).elim
    cases l4
    · exact (ready_none2N hr 4 rfl rfl rfl).elim
    cases l5
    · exact (ready_none2N hr 5 rfl rfl rfl).elim
    cases l6
    · exact (ready_none2N hr 6 rfl rfl rfl).elim
    cases l7
    · exact (ready_none2N hr 7 rfl rfl rfl).elim
    obtain rfl := (h.d0 rfl).1
    obtain rfl := (h.d1 rfl).1
    obtain rfl := (h.d3 rfl).1
    obtain rfl := (h.d4 rfl).1
    obtain rfl := (h.d6 rfl).1
    obtain rfl := (h.d7 rfl).1
    have hbel := h.bel
    have hF2 := (h.d2 rfl).1
    have hF5 := (h.d5 rfl).1
    clear h hr
    have HBE : Hid (Below w.heap.size w w3) := HBW.out w3 hbel
    clear hF2 hF5 hbel
    go_wp2_with fail
    go_ret
    exact ⟨rfl, HBE.out⟩
set_option maxRecDepth 100000 in
set_option maxHeartbeats 8000000 in
theorem sSameWord_any (u v : Value) (a b : La) (w : World) (h : AtLa w u a) (h' : AtLa w v b) :
    Calls Try.prog 16 #[u, v] w fun e w' => e = .returned (.tuple #[.bool (sameR a b), .bool (sameB a b)]) ∧ Below w.heap.size w w' := by
  have G1 : Hid (∀ w1 : World, Below w.heap.size w w1 → Calls Try.prog 21 #[u] w1 fun e w' => e = .returned (.bool (goodLa a)) ∧ Below w1.heap.size w1 w') := fun w1 hb => sGoodLasso_any u a w1 (h.below hb)
  have G2 : Hid (∀ w1 : World, Below w.heap.size w w1 → Calls Try.prog 21 #[v] w1 fun e w' => e = .returned (.bool (goodLa b)) ∧ Below w1.heap.size w1 w') := fun w1 hb => sGoodLasso_any v b w1 (h'.below hb)
  have hR : sameR a b = (goodLa a && goodLa b && sameN 600 a b) := rfl
  have hB : sameB a b = (goodLa a && goodLa b) := rfl
  have HS : Hid (goodLa a = true → goodLa b = true → ∀ w1 : World, Below w.heap.size w w1 → Calls Try.prog 48 #[u, v] w1 fun e w' => e = .returned (.bool (sameN 600 a b)) ∧ Below w1.heap.size w1 w') := fun q1 q2 w1 hb => l9Same_any u v a b q1 q2 w1 (h.below hb) (h'.below hb)
  obtain ⟨ga, gn, gc, oa, on, oc, rfl⟩ := h.shape
  obtain ⟨ha, hn, hc, pa, pn, pc, rfl⟩ := h'.shape
  obtain ⟨w0, hw0⟩ : ∃ w0, (w.alloc (.cells #[.slice ga gn gc, .slice oa on oc] 26)).alloc (.cells #[.slice ha hn hc, .slice pa pn pc] 26) = w0 := ⟨_, rfl⟩
  have HB0 : Hid (Below w.heap.size w w0) := by
    show Below _ _ _
    rw [← hw0]
    exact ((Below.refl _ _).alloc (Nat.le_refl _) _).alloc (by rw [World.size_alloc]; omega) _
  have x0 := (box2_alloc w 26 (.slice ga gn gc) (.slice oa on oc)).alloc (.cells #[.slice ha hn hc, .slice pa pn pc] 26)
  have y0 := box2_alloc (w.alloc (.cells #[.slice ga gn gc, .slice oa on oc] 26)) 26 (.slice ha hn hc) (.slice pa pn pc)
  simp only [World.size_alloc] at y0
  have hz0 : w0.heap.size = w.heap.size + 2 := by rw [← hw0, World.size_alloc, World.size_alloc]
  rw [hw0] at x0 y0
  have HX0 : Hid _ := x0
  have HY0 : Hid _ := y0
  obtain ⟨a0, a1⟩ := x0.cells
  have ah := x0.heap
  have al := x0.lt
  obtain ⟨b0, b1⟩ := y0.cells
  have bh := y0.heap
  have bl := y0.lt
  rw [← hw0] at a0 a1 ah al b0 b1 bh bl
  have g := G1.out _ HB0.out
  rw [← hw0] at g
  have HW0 : Hid _ := hw0
  rw [hR, hB]
  clear h h' G1 x0 y0 hw0 hR hB
  generalize sameN 600 a b = SB at *
  generalize goodLa a = AB at *
  generalize goodLa b = BB at *
  cases AB with
  | false =>
    rw [Bool.false_and, Bool.false_and]
    clear HS G2
    go_enter Try.func16, Try.ntmps16
    go_wp2_with fail
    refine g.mono ?_
    rw [HW0.out]
    clear a0 a1 ah al b0 b1 bh bl
    rintro e w1 ⟨rfl, hs⟩
    have HB1 : Hid (Below w.heap.size w w1) := HB0.out.trans (hs.mono (by omega))
    have x1 := HX0.out.below hs (by omega)
    have y1 := HY0.out.below hs (by omega)
    have hs1 := hs.size
    clear g hs HX0 HY0
    clear x1 y1
    go_wp2_with fail
    go_ret2
    exact ⟨rfl, HB1.out⟩
  | true =>
    rw [Bool.true_and]
    cases BB with
    | false =>
      rw [Bool.false_and]
      clear HS
      go_enter Try.func16, Try.ntmps16
      go_wp2_with fail
      refine g.mono ?_
      rw [HW0.out]
      clear a0 a1 ah al b0 b1 bh bl
      rintro e w1 ⟨rfl, hs⟩
      have HB1 : Hid (Below w.heap.size w w1) := HB0.out.trans (hs.mono (by omega))
      have x1 := HX0.out.below hs (by omega)
      have y1 := HY0.out.below hs (by omega)
      have hs1 := hs.size
      clear g hs HX0 HY0
      obtain ⟨a0, a1⟩ := x1.cells
      have ah := x1.heap
      have al := x1.lt
      obtain ⟨b0, b1⟩ := y1.cells
      have bh := y1.heap
      have bl := y1.lt
      clear x1 y1
      have g2 := G2.out _ HB1.out
      go_wp2_with fail
      refine g2.mono ?_
      rintro e w2 ⟨rfl, hs⟩
      have HB2 : Hid (Below w.heap.size w w2) := HB1.out.trans (hs.mono (by omega))
      clear g2 hs a0 a1 ah al b0 b1 bh bl
      go_wp2_with fail
      go_ret2
      exact ⟨rfl, HB2.out⟩
    | true =>
      rw [Bool.true_and]
      have HS2 : Hid _ := HS.out rfl rfl
      clear HS
      go_enter Try.func16, Try.ntmps16
      go_wp2_with fail
      refine g.mono ?_
      rw [HW0.out]
      clear a0 a1 ah al b0 b1 bh bl
      rintro e w1 ⟨rfl, hs⟩
      have HB1 : Hid (Below w.heap.size w w1) := HB0.out.trans (hs.mono (by omega))
      have x1 := HX0.out.below hs (by omega)
      have y1 := HY0.out.below hs (by omega)
      have hs1 := hs.size
      clear g hs HX0 HY0
      obtain ⟨a0, a1⟩ := x1.cells
      have ah := x1.heap
      have al := x1.lt
      obtain ⟨b0, b1⟩ := y1.cells
      have bh := y1.heap
      have bl := y1.lt
      have g2 := G2.out _ HB1.out
      go_wp2_with fail
      refine g2.mono ?_
      rintro e w2 ⟨rfl, hs⟩
      have HB2 : Hid (Below w.heap.size w w2) := HB1.out.trans (hs.mono (by omega))
      have x2 := x1.below hs (by omega)
      have y2 := y1.below hs (by omega)
      clear g2 hs a0 a1 ah al b0 b1 bh bl x1 y1
      obtain ⟨a0, a1⟩ := x2.cells
      have ah := x2.heap
      have al := x2.lt
      obtain ⟨b0, b1⟩ := y2.cells
      have bh := y2.heap
      have bl := y2.lt
      clear x2 y2
      have g3 := HS2.out _ HB2.out
      go_wp2_with fail
      refine g3.mono ?_
      rintro e w3 ⟨rfl, hs⟩
      have HB3 : Hid (Below w.heap.size w w3) := HB2.out.trans (hs.mono HB2.out.size)
      clear g3 hs a0 a1 ah al b0 b1 bh bl
      go_wp2_with fail
      go_ret2
      exact ⟨rfl, HB3.out⟩
end Go.Proofs.Ythamdefkcjfjpaa

namespace Go.Proofs.Ythamdefkcjfjpaa
open Go Go.RowKit
open M
set_option linter.unusedVariables false
set_option linter.unusedSimpArgs false

theorem letL_in {l : La} (hg : goodLa l = true) (k : Nat) : 0 ≤ letL l k ∧ letL l k ≤ 7 := by
  have hlen := good_lens hg
  unfold goodLa at hg
  simp only [Bool.and_eq_true, List.all_eq_true, decide_eq_true_eq] at hg
  obtain ⟨⟨⟨_, _⟩, h1⟩, h2⟩ := hg
  by_cases hk : k < l.1.length
  · exact h1 _ (List.mem_of_getElem? (let_stem_at hk))
  · exact h2 _ (List.mem_of_getElem? (let_loop_at hlen.2.1 (by omega)))
theorem good_cut {l : La} (hg : goodLa l = true) {t q : Nat} (ht : t ≤ 24) (h1 : 1 ≤ q) (hq : q ≤ 24) : goodLa (unrL l 0 t, unrL l t q) = true := by
  have hall : ∀ a n : Nat, (unrL l a n).all (fun x => decide (0 ≤ x ∧ x ≤ 7)) = true := fun a n => by
    rw [List.all_eq_true]
    intro x hx
    unfold unrL at hx
    obtain ⟨i, _, rfl⟩ := List.mem_map.1 hx
    exact decide_eq_true (letL_in hg _)
  unfold goodLa
  simp only [hall, unrL_len, Bool.and_true]
  rw [decide_eq_true ht, decide_eq_true ⟨h1, hq⟩]
  rfl
/-- a box that a region has laid -/
def Bx (B : Nat) (w : World) (s x y : Value) : Prop := ∃ g : Nat, s = .pointer (some ⟨g, 0, none⟩) ∧ B ≤ g ∧ Box2 w g 26 x y
theorem Bx.below {B : Nat} {w w' : World} {s x y : Value} (h : Bx B w s x y) (hb : Below w.heap.size w w') : Bx B w' s x y := by
  obtain ⟨g, h1, h2, h3⟩ := h
  exact ⟨g, h1, h2, h3.below hb h3.lt⟩
def blkP : Value → Nat
  | .pointer (some a) => a.block
  | _ => 0
theorem own_not_box {w : World} {B g n : Nat} {v x y : Value} {xs : List Value} (h : w.ownsRow B 3 1 v n xs) (hb : Box2 w g 26 x y) : v.ownBlock = none ∨ v.ownBlock ≠ some g := by
  rcases h.2 with ⟨hv, _⟩ | ⟨g', cap, cur, hv, _, hh, _⟩
  · exact Or.inl (by rw [hv]; rfl)
  · refine Or.inr (fun e => ?_)
    rw [hv] at e
    have e1 : g' = g := Option.some.inj e
    subst e1
    rw [hb.heap] at hh
    injection hh with hh
    injection hh with _ h9 _
    exact absurd h9 (by decide)
theorem own_box_set {w : World} {B g n o : Nat} {v x y z : Value} {xs : List Value} (h : w.ownsRow B 3 1 v n xs) (hb : Box2 w g 26 x y) : (w.setCell ⟨g, o, none⟩ z).ownsRow B 3 1 v n xs :=
  World.ownsRow.kept h (grownSet w g o z) (own_not_box h hb)
/-- a row of one's own, and a second one apart from it -/
def Ow2 (B : Nat) (w : World) (s1 s : Value) (xs : List Int) : Prop := OwnInts2 w B s xs ∧ Ap3 s1 s
theorem Ow2.below {B : Nat} {w w' : World} {s1 s : Value} {xs : List Int} (h : Ow2 B w s1 s xs) (hb : Below w.heap.size w w') : Ow2 B w' s1 s xs := ⟨owns_below h.1 hb, h.2⟩
theorem ow2_of {B : Nat} {w w' : World} {s1 s : Value} {xs ys : List Int} (hB : B ≤ w.heap.size) (h1 : OwnInts2 w B s1 ys) (h : OwnInts2 w' w.heap.size s xs) : Ow2 B w' s1 s xs :=
  ⟨OwnInts2.low h hB, ap3_of (own_of2 h1) (own_of2 h) (Or.inl (Nat.le_refl _))⟩
theorem own2_below {B : Nat} {w w' : World} {s : Value} {xs : List Int} (h : OwnInts2 w B s xs) (hb : Below w.heap.size w w') : OwnInts2 w' B s xs := owns_below h hb
/-- the two rows, once they stand in the box of a lasso -/
theorem ownLa_box {B g : Nat} {w : World} {s1 s2 x y : Value} {xs ys : List Int} (h1 : OwnInts2 w B s1 xs) (h2 : Ow2 B w s1 s2 ys) (hb : Box2 w g 26 x y) :
    OwnLa ((w.setCell ⟨g, 0, none⟩ s1).setCell ⟨g, 1, none⟩ s2) B ((w.setCell ⟨g, 0, none⟩ s1).setCell ⟨g, 1, none⟩ s2).heap.size (.agg #[s1, s2]) (xs, ys) := by
  have a1 := own_box_set (o := 1) (z := s2) (own_box_set (o := 0) (z := s1) h1 hb) (hb.set0 s1)
  have a2 := own_box_set (o := 1) (z := s2) (own_box_set (o := 0) (z := s1) h2.1 hb) (hb.set0 s1)
  exact ⟨s1, s2, rfl, offIn_of a1, offIn_of a2, h2.2⟩
structure RegLs9 (W w' : World) (B X : Nat) (ga : Option Addr) (gn gc : Nat) (oa : Option Addr) (on oc q t : Nat) (xs ys : List Int) (l0 l1 l2 l3 l4 l5 l6 l7 l8 l9 : Bool) (s0 s1 s2 s3 s4 s5 s6 s7 s8 : Value) : Prop where
  (bel : l9 = false → Below W.heap.size W w')
  (all : l9 = true → l0 = true ∧ l1 = true ∧ l2 = true ∧ l3 = true ∧ l4 = true ∧ l5 = true ∧ l6 = true ∧ l7 = true ∧ l8 = true)
  (fin : l9 = true → ∃ w4 : World, Below W.heap.size W w4 ∧ w' = ((w4.setCell ⟨blkP s8, 0, none⟩ s2).setCell ⟨blkP s8, 1, none⟩ s6) ∧ OwnInts2 w4 B s2 xs ∧ Ow2 B w4 s2 s6 ys ∧ Bx B w4 s8 (.slice none 0 0) (.slice none 0 0))
  (d0 : l0 = true → s0 = .agg #[.slice ga gn gc, .slice oa on oc] ∧ True)
  (d1 : l1 = true → s1 = .int .i64 t ∧ True)
  (d2 : l2 = true → (l9 = false → OwnInts2 w' B s2 xs) ∧ l0 = true ∧ l1 = true)
  (d3 : l3 = true → s3 = .agg #[.slice ga gn gc, .slice oa on oc] ∧ True)
  (d4 : l4 = true → s4 = .int .i64 t ∧ True)
  (d5 : l5 = true → s5 = .int .i64 q ∧ True)
  (d6 : l6 = true → (l9 = false → Ow2 B w' s2 s6 ys) ∧ l2 = true ∧ l3 = true ∧ l4 = true ∧ l5 = true)
  (d7 : l7 = true → s7 = .agg #[s2, s6] ∧ l2 = true ∧ l6 = true)
  (d8 : l8 = true → (l9 = false → Bx B w' s8 (.slice none 0 0) (.slice none 0 0)) ∧ True)
structure RegLs15 (W w' : World) (B X : Nat) (ga : Option Addr) (gn gc : Nat) (oa : Option Addr) (on oc q t : Nat) (xs ys : List Int) (l0 l1 l2 l3 l4 l5 l6 l7 l8 l9 l10 l11 : Bool) (s0 s1 s2 s3 s4 s5 s6 s7 s8 s9 s10 : Value) : Prop where
  (bel : l11 = false → Below W.heap.size W w')
  (all : l11 = true → l0 = true ∧ l1 = true ∧ l2 = true ∧ l3 = true ∧ l4 = true ∧ l5 = true ∧ l6 = true ∧ l7 = true ∧ l8 = true ∧ l9 = true ∧ l10 = true)
  (fin : l11 = true → ∃ w4 : World, Below W.heap.size W w4 ∧ w' = ((w4.setCell ⟨blkP s10, 0, none⟩ s2).setCell ⟨blkP s10, 1, none⟩ s8) ∧ OwnInts2 w4 B s2 xs ∧ Ow2 B w4 s2 s8 ys ∧ Bx B w4 s10 (.slice none 0 0) (.slice none 0 0))
  (d0 : l0 = true → s0 = .agg #[.slice ga gn gc, .slice oa on oc] ∧ True)
  (d1 : l1 = true → s1 = .int .i64 t ∧ True)
  (d2 : l2 = true → (l11 = false → OwnInts2 w' B s2 xs) ∧ l0 = true ∧ l1 = true)
  (d3 : l3 = true → s3 = .agg #[.slice ga gn gc, .slice oa on oc] ∧ True)
  (d4 : l4 = true → s4 = .int .i64 t ∧ True)
  (d5 : l5 = true → s5 = .pointer (some ⟨X, 1, none⟩) ∧ True)
  (d6 : l6 = true → s6 = .slice oa on oc ∧ l5 = true)
  (d7 : l7 = true → s7 = .int .i64 on ∧ l6 = true)
  (d8 : l8 = true → (l11 = false → Ow2 B w' s2 s8 ys) ∧ l2 = true ∧ l3 = true ∧ l4 = true ∧ l7 = true)
  (d9 : l9 = true → s9 = .agg #[s2, s8] ∧ l2 = true ∧ l8 = true)
  (d10 : l10 = true → (l11 = false → Bx B w' s10 (.slice none 0 0) (.slice none 0 0)) ∧ True)
structure RegLs18 (W w' : World) (B X Y : Nat) (ga : Option Addr) (gn gc : Nat) (oa : Option Addr) (on oc : Nat) (xs ys : List Int) (l0 l1 l2 l3 l4 l5 l6 l7 l8 : Bool) (s0 s1 s2 s3 s4 s5 s6 s8 : Value) : Prop where
  (bel : l7 = false → Below W.heap.size W w')
  (all : l7 = true → l0 = true ∧ l1 = true ∧ l2 = true ∧ l3 = true ∧ l4 = true ∧ l5 = true ∧ l6 = true)
  (fin : l7 = true → ∃ w4 : World, Below W.heap.size W w4 ∧ w' = ((w4.setCell ⟨Y, 0, none⟩ s2).setCell ⟨Y, 1, none⟩ s5) ∧ Rw B w4 s2 xs ∧ Rw2 B w4 s2 s5 ys)
  (d0 : l0 = true → s0 = .pointer (some ⟨X, 0, none⟩) ∧ True)
  (d1 : l1 = true → s1 = .slice ga gn gc ∧ l0 = true)
  (d2 : l2 = true → (l7 = false → Rw B w' s2 xs) ∧ l1 = true)
  (d3 : l3 = true → s3 = .pointer (some ⟨X, 1, none⟩) ∧ True)
  (d4 : l4 = true → s4 = .slice oa on oc ∧ l3 = true)
  (d5 : l5 = true → (l7 = false → Rw2 B w' s2 s5 ys) ∧ l2 = true ∧ l4 = true)
  (d6 : l6 = true → s6 = .agg #[s2, s5] ∧ l2 = true ∧ l5 = true)
  (d8 : l8 = true → s8 = .bool true ∧ l0 = true ∧ l1 = true ∧ l2 = true ∧ l3 = true ∧ l4 = true ∧ l5 = true ∧ l6 = true ∧ l7 = true)
set_option maxRecDepth 100000 in
set_option maxHeartbeats 4000000 in
theorem sLeastLasso_any (v : Value) (l : La) (w : World) (h : AtLS w v l) :
    Calls Try.prog 18 #[v] w fun e w' => ∃ r, e = .returned (.tuple #[r, .bool (goodLa l)]) ∧ OwnLa w' w.heap.size w'.heap.size r (leastR l) ∧ Below w.heap.size w w' := by
  have HG : Hid (∀ w1 : World, Below w.heap.size w w1 → Calls Try.prog 21 #[v] w1 fun e w' => e = .returned (.bool (goodLa l)) ∧ Below w1.heap.size w1 w') := fun w1 hb => sGoodLasso_any v l w1 (h.at.below hb)
  have hR : leastR l = bif goodLa l then leastL l else ([], []) := by
    show (if goodLa l = true then _ else _) = _
    cases goodLa l <;> rfl
  have HLT : Hid (goodLa l = true → ∃ RL TP : Nat, l.1.length ≤ 24 ∧ l.2.length ≤ 24 ∧ 1 ≤ RL ∧ RL ≤ l.2.length ∧ TP ≤ l.1.length ∧ leastL l = (unrL l 0 TP, unrL l TP RL) ∧ (RL = l.2.length → l.1.length ≤ TP → leastL l = l) ∧
      (∀ q t : Nat, 1 ≤ q → q < RL → t ≤ l.1.length → cutB l q t = false) ∧ (∀ t : Nat, t ≤ l.1.length → cutB l RL t = decide (TP ≤ t)) ∧
      (∀ t q : Nat, t ≤ 24 → q ≤ 24 → (unrL l 0 t).length ≤ 1048576 ∧ (unrL l t q).length ≤ 1048576) ∧
      (∀ (n : Nat), n ≤ 24 → ∀ w1 : World, Below w.heap.size w w1 → Calls Try.prog 52 #[v, .int .i64 0, .int .i64 n] w1 fun e w' => ∃ r, e = .returned r ∧ OwnInts2 w' w1.heap.size r (unrL l 0 n) ∧ Below w1.heap.size w1 w') ∧
      (∀ (a n : Nat), a ≤ 24 → n ≤ 24 → ∀ w1 : World, Below w.heap.size w w1 → Calls Try.prog 52 #[v, .int .i64 a, .int .i64 n] w1 fun e w' => ∃ r, e = .returned r ∧ OwnInts2 w' w1.heap.size r (unrL l a n) ∧ Below w1.heap.size w1 w') ∧
      (∀ (t q : Nat), t ≤ 24 → 1 ≤ q → q ≤ 24 → ∀ (w1 : World) (x : Value), Below w.heap.size w w1 → AtLa w1 x (unrL l 0 t, unrL l t q) → Calls Try.prog 48 #[x, v] w1 fun e w' => e = .returned (.bool (cutB l q t)) ∧ Below w1.heap.size w1 w')) := fun hg => by
    obtain ⟨q1, q2, q3⟩ := good_lens hg
    obtain ⟨r1, r2, _, _⟩ := roundL_has q2
    have ht := turnPt_le l (roundL l)
    refine ⟨roundL l, turnPt l (roundL l), q1, q3, r1, r2, ht, rfl, fun e1 e2 => turn_last l (by rw [← e1]; exact e2) e1, fun q t h1 h2 h3 => cutB_short hg h1 h2 h3, fun t h1 => cutB_round hg h1, fun t q h1 h2 => ⟨by rw [unrL_len]; omega, by rw [unrL_len]; omega⟩, fun n hn w1 hb => l9First_any v l hg 0 n (by omega) w1 (h.at.below hb), fun a n ha hn w1 hb => l9First_any v l hg a n (by omega) w1 (h.at.below hb), fun t q h1 h2 h3 w1 x hb hx => ?_⟩
    unfold cutB
    exact l9Same_any x v _ l (good_cut hg h1 h2 h3) hg w1 hx (h.at.below hb)
  have HOW : Hid (∀ (ga : Option Addr) (gn gc : Nat) (oa : Option Addr) (on oc : Nat), goodLa l = true → v = .agg #[.slice ga gn gc, .slice oa on oc] →
      (∀ w1 : World, Below w.heap.size w w1 → Calls Try.prog 53 #[.slice ga gn gc] w1 fun e w' => ∃ r, e = .returned r ∧ OwnInts2 w' w1.heap.size r l.1 ∧ Below w1.heap.size w1 w') ∧
      (∀ w1 : World, Below w.heap.size w w1 → Calls Try.prog 53 #[.slice oa on oc] w1 fun e w' => ∃ r, e = .returned r ∧ OwnInts2 w' w1.heap.size r l.2 ∧ Below w1.heap.size w1 w')) := fun ga gn gc oa on oc hg hv => by
    obtain ⟨q1, q2, q3⟩ := good_lens hg
    obtain ⟨g, o, hv2, h1, h2, h3, h4⟩ := h
    rw [hv] at hv2
    injection hv2 with hv2
    injection hv2 with hv2
    injection hv2 with e1 hv2
    injection hv2 with e2 _
    have sg := srcO_ints h1 h3
    have so := srcO_ints h2 h4
    obtain ⟨a1, c1, z1⟩ := h1.shape
    obtain ⟨a2, c2, z2⟩ := h2.shape
    rw [z1] at e1
    rw [z2] at e2
    injection e1 with y1 y2 y3
    injection e2 with y4 y5 y6
    subst y1 y2 y3 y4 y5 y6
    rw [z1] at sg
    rw [z2] at so
    exact ⟨fun w1 hb => l1OwnO_any _ _ _ l.1 rfl (by omega) w1 (sg.below (cellsI_len _) hb), fun w1 hb => l1OwnO_any _ _ _ l.2 rfl (by omega) w1 (so.below (cellsI_len _) hb)⟩
  obtain ⟨g_, o_, hv, h1, h2, _, _⟩ := h
  obtain ⟨ga, gc, e1⟩ := h1.shape
  obtain ⟨oa, oc, e2⟩ := h2.shape
  subst e1 e2 hv
  generalize hgn9 : l.1.length = gn at *
  generalize hon9 : l.2.length = on at *
  have hb2 : Below w.heap.size w ((w.alloc (.cells #[.slice ga gn gc, .slice oa on oc] 26)).alloc (.cells #[.slice none 0 0, .slice none 0 0] 26)) := ((Below.refl _ _).alloc (Nat.le_refl _) _).alloc (by rw [World.size_alloc]; omega) _
  have HB0 : Hid _ := hb2
  have x0 := (box2_alloc w 26 (.slice ga gn gc) (.slice oa on oc)).alloc (.cells #[.slice none 0 0, .slice none 0 0] 26)
  have y0 := box2_alloc (w.alloc (.cells #[.slice ga gn gc, .slice oa on oc] 26)) 26 (.slice none 0 0) (.slice none 0 0)
  simp only [World.size_alloc] at y0
  have HX0 : Hid _ := x0
  have HY0 : Hid _ := y0
  have hz0 : ((w.alloc (.cells #[.slice ga gn gc, .slice oa on oc] 26)).alloc (.cells #[.slice none 0 0, .slice none 0 0] 26)).heap.size = w.heap.size + 2 := by rw [World.size_alloc, World.size_alloc]
  obtain ⟨a0, a1⟩ := x0.cells
  have ah := x0.heap
  have al := x0.lt
  have g := HG.out _ HB0.out
  rw [hR]
  clear h1 h2 HG hb2 x0 y0 hR hgn9 hon9
  cases hAB : goodLa l with
  | false =>
    rw [hAB] at g
    show Calls _ _ _ _ (fun e w' => ∃ r, e = .returned (.tuple #[r, .bool false]) ∧ OwnLa w' w.heap.size w'.heap.size r ([], []) ∧ Below w.heap.size w w')
    clear HLT HOW hAB
    go_enter Try.func18, Try.ntmps18
    go_wp2_with fail
    refine g.mono ?_
    clear a0 a1 ah al
    generalize (w.alloc (.cells #[.slice ga gn gc, .slice oa on oc] 26)).alloc (.cells #[.slice none 0 0, .slice none 0 0] 26) = w0 at *
    rintro e w1 ⟨rfl, hs⟩
    have HB1 : Hid (Below w.heap.size w w1) := HB0.out.trans (hs.mono (by omega))
    have y1 := HY0.out.below hs (by omega)
    have x1 := HX0.out.below hs (by omega)
    have hs1 := hs.size
    clear g hs
    clear x1
    have HZO : Hid (OwnLa ((w1.setCell ⟨w.heap.size + 1, 0, none⟩ (.slice none 0 0)).setCell ⟨w.heap.size + 1, 1, none⟩ (.slice none 0 0)) w.heap.size ((w1.setCell ⟨w.heap.size + 1, 0, none⟩ (.slice none 0 0)).setCell ⟨w.heap.size + 1, 1, none⟩ (.slice none 0 0)).heap.size (.agg #[.slice none 0 0, .slice none 0 0]) ([], [])) := ownLa_nil _ _
    obtain ⟨k0, k1⟩ := y1.cells
    have kh := y1.heap
    have kl := y1.lt
    have kf0 := y1.frozen 0
    have kf1 := y1.frozen 1
    have y9 := (y1.set0 (.slice none 0 0)).set1 (.slice none 0 0)
    have hyh := y9.heap
    have HBE : Hid (Below w.heap.size w ((w1.setCell ⟨w.heap.size + 1, 0, none⟩ (.slice none 0 0)).setCell ⟨w.heap.size + 1, 1, none⟩ (.slice none 0 0))) := (HB1.out.setCell (by show w.heap.size ≤ w.heap.size + 1; omega) _).setCell (by show w.heap.size ≤ w.heap.size + 1; omega) _
    clear HX0 HY0 y9 y1
    go_wp2_with fail
    refine bodyPost_ret (results_la rfl _ _ (w.heap.size + 1) 26 _ (0, 0) _ rfl hyh Try.underlying26 rfl (by kernel_rfl)) rfl ?_
    exact ⟨_, rfl, HZO.out, HBE.out⟩
  | true =>
    rw [hAB] at g
    show Calls _ _ _ _ (fun e w' => ∃ r, e = .returned (.tuple #[r, .bool true]) ∧ OwnLa w' w.heap.size w'.heap.size r (leastL l) ∧ Below w.heap.size w w')
    obtain ⟨RL, TP, hgn, hon, hr1, hr2, htp, hLE, hLL, hcS, hcR, hLN, gf0, gf, gs⟩ := HLT.out hAB
    obtain ⟨go1, go2⟩ := HOW.out _ _ _ _ _ _ hAB rfl
    have HLE : Hid _ := hLE
    have HLL : Hid _ := hLL
    have HCS : Hid _ := hcS
    have HCR : Hid _ := hcR
    have HLN : Hid _ := hLN
    have GF0 : Hid _ := gf0
    have GF : Hid _ := gf
    have GS : Hid _ := gs
    have GO1 : Hid _ := go1
    have GO2 : Hid _ := go2
    clear HLT HOW hAB hLE hLL hcS hcR hLN gf0 gf gs go1 go2
    have HPAIR : Hid (l = (l.1, l.2)) := rfl
    generalize leastL l = LR at *
    generalize cutB l = CB at *
    go_enter Try.func18, Try.ntmps18
    go_wp2_with fail
    refine g.mono ?_
    clear a0 a1 ah al
    generalize (w.alloc (.cells #[.slice ga gn gc, .slice oa on oc] 26)).alloc (.cells #[.slice none 0 0, .slice none 0 0] 26) = w0 at *
    rintro e w1 ⟨rfl, hs⟩
    have HB1 : Hid (Below w.heap.size w w1) := HB0.out.trans (hs.mono (by omega))
    have y1 := HY0.out.below hs (by omega)
    have x1 := HX0.out.below hs (by omega)
    have hs1 := hs.size
    clear g hs
    obtain ⟨a0, a1⟩ := x1.cells
    have ah := x1.heap
    have al := x1.lt
    have hw1 : w.heap.size + 2 ≤ w1.heap.size := by omega
    have HXP : Hid (∀ w3, Below (w.heap.size + 2) w1 w3 → Box2 w3 w.heap.size 26 (.slice ga gn gc) (.slice oa on oc)) := fun w3 hb3 => x1.below hb3 (by omega)
    have HYP : Hid (∀ w3, Below (w.heap.size + 2) w1 w3 → Box2 w3 (w.heap.size + 1) 26 (.slice none 0 0) (.slice none 0 0)) := fun w3 hb3 => y1.below hb3 (by omega)
    have HBW : Hid (∀ w3, Below (w.heap.size + 2) w1 w3 → Below w.heap.size w w3) := fun w3 hb3 => HB1.out.trans (hb3.mono (by omega))
    have HBX1 : Hid (Below (w.heap.size + 2) w1 w1) := Below.refl _ _
    clear HX0 HY0 x1 y1
    go_wp2_with fail
    clear a0 a1 ah al
    go_loopw [4] (fun i wr => ∃ q : Nat, 1 ≤ q ∧ q ≤ RL ∧ i = .int .i64 q ∧ Hid (Below (w.heap.size + 2) w1 wr)) (fun i _ => on - (intOf i).toNat)
    case atStart => exact ⟨1, Nat.le_refl _, hr1, rfl, HBX1⟩
    case round =>
      obtain ⟨q, hq1, hq2, rfl, HBX⟩ := hrel
      clear HBX1
      obtain ⟨a0, a1⟩ := (HXP.out _ HBX.out).cells
      have ah := (HXP.out _ HBX.out).heap
      have al := (HXP.out _ HBX.out).lt
      by_cases hlt : q < on
      · go_wp2_with fail
        clear a0 a1 ah al
        generalize wr = wq at *
        go_loopw [5] (fun i wr => ∃ t : Nat, t ≤ gn + 1 ∧ (q = RL → t ≤ TP) ∧ i = .int .i64 t ∧ Hid (Below (w.heap.size + 2) w1 wr)) (fun i _ => gn + 1 - (intOf i).toNat)
        case atStart => exact ⟨0, by omega, fun _ => Nat.zero_le _, rfl, HBX⟩
        case round =>
          obtain ⟨t, ht, htq, rfl, HBX2⟩ := hrel
          clear HBX
          obtain ⟨a0, a1⟩ := (HXP.out _ HBX2.out).cells
          have ah := (HXP.out _ HBX2.out).heap
          have al := (HXP.out _ HBX2.out).lt
          by_cases hlt2 : t ≤ gn
          · have T24 : Hid (t ≤ 24) := by show t ≤ 24; omega
            have Q24 : Hid (q ≤ 24) := by show q ≤ 24; omega
            have QQ1 : Hid (1 ≤ q) := hq1
            go_wp2_with fail
            have HXP9 : Hid (∀ w3, Below wr.drew.heap.size wr.drew w3 → Box2 w3 w.heap.size 26 (.slice ga gn gc) (.slice oa on oc)) := fun w3 hb3 => HXP.out w3 (HBX2.out.drew.trans (hb3.mono (by show w.heap.size + 2 ≤ wr.heap.size; have := HBX2.out.size; omega)))
            have HQW : Hid (∀ w3, Below wr.drew.heap.size wr.drew w3 → Below (w.heap.size + 2) w1 w3) := fun w3 hb3 => HBX2.out.drew.trans (hb3.mono (by show w.heap.size + 2 ≤ wr.heap.size; have := HBX2.out.size; omega))
            have HZW : Hid (w.heap.size + 2 ≤ wr.drew.heap.size) := by show w.heap.size + 2 ≤ wr.heap.size; have := HBX2.out.size; omega
            clear a0 a1 ah al
            refine wp_region_any (by kernel_rfl) ?_
            change wpAny _ _ _ _ _ _ _ (World.drew _)
            refine wpAny_invN (fun lb9 ac9 w' => ∃ (l0 l1 l2 l3 l4 l5 l6 l7 l8 l9 : Bool) (s0 s1 s2 s3 s4 s5 s6 s7 s8 : Value), lb9 = #[l0, l1, l2, l3, l4, l5, l6, l7, l8, l9] ∧ ac9 = { tmps := ((.agg #[.slice ga gn gc, .slice oa on oc]) :: (.pointer (some ⟨w.heap.size, 0, none⟩)) :: (.pointer (some ⟨w.heap.size + 1, 0, none⟩)) :: (u3) :: (.int .i64 q) :: (.int .i64 t) :: (s8) :: (undef) :: (undef) :: (.agg #[.slice ga gn gc, .slice oa on oc]) :: (.bool true) :: (.bool false) :: (undef) :: (.int .i64 q) :: (.pointer (some ⟨w.heap.size, 1, none⟩)) :: (.slice oa on oc) :: (.int .i64 on) :: (.bool true) :: (u18) :: (u19) :: (.int .i64 t) :: (.pointer (some ⟨w.heap.size, 0, none⟩)) :: (.slice ga gn gc) :: (.int .i64 gn) :: (.bool true) :: (u25) :: (u26) :: (s0) :: (s1) :: (s2) :: (s3) :: (s4) :: (s5) :: (s6) :: (s7) :: (u35) :: (u36) :: (u37) :: (u38) :: (undef) :: (undef) :: (undef) :: (undef) :: (undef) :: (undef) :: (undef) :: (undef) :: (undef) :: (undef) :: (undef) :: (undef) :: (undef) :: (undef) :: (undef) :: (undef) :: (undef) :: (undef) :: (undef) :: (undef) :: (undef) :: (undef) :: (undef) :: (undef) :: (undef) :: (undef) :: (undef) :: (undef) :: []).toArray, defers := [] } ∧ RegLs9 wr.drew w' wr.drew.heap.size w.heap.size ga gn gc oa on oc q t (unrL l 0 t) (unrL l t q) l0 l1 l2 l3 l4 l5 l6 l7 l8 l9 s0 s1 s2 s3 s4 s5 s6 s7 s8) ?done ?step 10 _ _ _ ⟨false, false, false, false, false, false, false, false, false, false, _, _, _, _, _, _, _, _, _, rfl, rfl, ?init⟩ (by decide)
            case init => exact { bel := fun _ => Below.refl _ _, all := fun e => (by cases e), fin := fun e => (by cases e), d0 := fun e => (by cases e), d1 := fun e => (by cases e), d2 := fun e => (by cases e), d3 := fun e => (by cases e), d4 := fun e => (by cases e), d5 := fun e => (by cases e), d6 := fun e => (by cases e), d7 := fun e => (by cases e), d8 := fun e => (by cases e) }
            case step =>
              rintro lb9 ac9 w3 ⟨l0, l1, l2, l3, l4, l5, l6, l7, l8, l9, s0, s1, s2, s3, s4, s5, s6, s7, s8, rfl, rfl, h⟩
              intro q9 hq
              have hlt9 := ready_ltN hq
              match q9, hq, hlt9 with
              | 0, hq, _ =>
                have hr := ready_depN hq rfl
                have hme : l0 = false := hr.1
                have hT : l9 = false := by
                  cases hc9 : l9 with
                  | false => rfl
                  | true => exact absurd (h.all hc9).1 (by rw [hme]; decide)
                have hbel := h.bel hT
                have x3 := HXP9.out w3 hbel
                obtain ⟨c0, c1⟩ := x3.cells
                have ch := x3.heap
                have cl := x3.lt
                clear hr hq
                refine wpOp_runN rfl rfl (fun K hK => ?_)
                go_simp
                refine hK _ _ ⟨true, l1, l2, l3, l4, l5, l6, l7, l8, l9, _, _, _, _, _, _, _, _, _, rfl, rfl, ?_⟩
                exact { bel := h.bel, all := fun e => (by rw [hT] at e; cases e), fin := fun e => (by rw [hT] at e; cases e), d0 := fun _ => ⟨rfl, trivial⟩, d1 := h.d1, d2 := fun e => absurd (h.d2 e).2.1 (by rw [hme]; decide), d3 := h.d3, d4 := h.d4, d5 := h.d5, d6 := h.d6, d7 := h.d7, d8 := h.d8 }
              | 1, hq, _ =>
                have hr := ready_depN hq rfl
                have hme : l1 = false := hr.1
                have hT : l9 = false := by
                  cases hc9 : l9 with
                  | false => rfl
                  | true => exact absurd (h.all hc9).2.1 (by rw [hme]; decide)
                have hbel := h.bel hT
                clear hr hq
                refine wpOp_runN rfl rfl (fun K hK => ?_)
                go_simp
                refine hK _ _ ⟨l0, true, l2, l3, l4, l5, l6, l7, l8, l9, _, _, _, _, _, _, _, _, _, rfl, rfl, ?_⟩
                exact { bel := h.bel, all := fun e => (by rw [hT] at e; cases e), fin := fun e => (by rw [hT] at e; cases e), d0 := h.d0, d1 := fun _ => ⟨rfl, trivial⟩, d2 := fun e => absurd (h.d2 e).2.2 (by rw [hme]; decide), d3 := h.d3, d4 := h.d4, d5 := h.d5, d6 := h.d6, d7 := h.d7, d8 := h.d8 }
              | 2, hq, _ =>
                have hr := ready_depN hq rfl
                have hme : l2 = false := hr.1
                have e0 : l0 = true := hr.2 ⟨0, .data⟩ (by simp) (by kernel_rfl)
                have e1 : l1 = true := hr.2 ⟨1, .data⟩ (by simp) (by kernel_rfl)
                have hT : l9 = false := by
                  cases hc9 : l9 with
                  | false => rfl
                  | true => exact absurd (h.all hc9).2.2.1 (by rw [hme]; decide)
                have hbel := h.bel hT
                obtain rfl := (h.d0 e0).1
                obtain rfl := (h.d1 e1).1
                clear hr hq
                refine wpOp_runN rfl rfl (fun K hK => ?_)
                go_simp
                go_at_call 52
                refine Calls.mono (GF0.out t T24.out w3 (HBW.out w3 (HQW.out w3 hbel))) ?_
                rintro e w4 ⟨r, rfl, ho, hs4⟩
                have hbel4 := hbel.trans (hs4.mono hbel.size)
                have hnew := OwnInts2.low ho hbel.size
                refine hK _ _ ⟨l0, l1, true, l3, l4, l5, l6, l7, l8, l9, _, _, _, _, _, _, _, _, _, rfl, rfl, ?_⟩
                exact { bel := fun _ => hbel4, all := fun e => (by rw [hT] at e; cases e), fin := fun e => (by rw [hT] at e; cases e), d0 := h.d0, d1 := h.d1, d2 := fun _ => ⟨fun _ => hnew, e0, e1⟩, d3 := h.d3, d4 := h.d4, d5 := h.d5, d6 := fun e => absurd (h.d6 e).2.1 (by rw [hme]; decide), d7 := fun e => absurd (h.d7 e).2.1 (by rw [hme]; decide), d8 := fun e => ⟨fun hx => ((h.d8 e).1 hx).below hs4, (h.d8 e).2⟩ }
              | 3, hq, _ =>
                have hr := ready_depN hq rfl
                have hme : l3 = false := hr.1
                have hT : l9 = false := by
                  cases hc9 : l9 with
                  | false => rfl
                  | true => exact absurd (h.all hc9).2.2.2.1 (by rw [hme]; decide)
                have hbel := h.bel hT
                have x3 := HXP9.out w3 hbel
                obtain ⟨c0, c1⟩ := x3.cells
                have ch := x3.heap
                have cl := x3.lt
                clear hr hq
                refine wpOp_runN rfl rfl (fun K hK => ?_)
                go_simp
                refine hK _ _ ⟨l0, l1, l2, true, l4, l5, l6, l7, l8, l9, _, _, _, _, _, _, _, _, _, rfl, rfl, ?_⟩
                exact { bel := h.bel, all := fun e => (by rw [hT] at e; cases e), fin := fun e => (by rw [hT] at e; cases e), d0 := h.d0, d1 := h.d1, d2 := h.d2, d3 := fun _ => ⟨rfl, trivial⟩, d4 := h.d4, d5 := h.d5, d6 := fun e => absurd (h.d6 e).2.2.1 (by rw [hme]; decide), d7 := h.d7, d8 := h.d8 }
              | 4, hq, _ =>
                have hr := ready_depN hq rfl
                have hme : l4 = false := hr.1
                have hT : l9 = false := by
                  cases hc9 : l9 with
                  | false => rfl
                  | true => exact absurd (h.all hc9).2.2.2.2.1 (by rw [hme]; decide)
                have hbel := h.bel hT
                clear hr hq
                refine wpOp_runN rfl rfl (fun K hK => ?_)
                go_simp
                refine hK _ _ ⟨l0, l1, l2, l3, true, l5, l6, l7, l8, l9, _, _, _, _, _, _, _, _, _, rfl, rfl, ?_⟩
                exact { bel := h.bel, all := fun e => (by rw [hT] at e; cases e), fin := fun e => (by rw [hT] at e; cases e), d0 := h.d0, d1 := h.d1, d2 := h.d2, d3 := h.d3, d4 := fun _ => ⟨rfl, trivial⟩, d5 := h.d5, d6 := fun e => absurd (h.d6 e).2.2.2.1 (by rw [hme]; decide), d7 := h.d7, d8 := h.d8 }
              | 5, hq, _ =>
                have hr := ready_depN hq rfl
                have hme : l5 = false := hr.1
                have hT : l9 = false := by
                  cases hc9 : l9 with
                  | false => rfl
                  | true => exact absurd (h.all hc9).2.2.2.2.2.1 (by rw [hme]; decide)
                have hbel := h.bel hT
                clear hr hq
                refine wpOp_runN rfl rfl (fun K hK => ?_)
                go_simp
                refine hK _ _ ⟨l0, l1, l2, l3, l4, true, l6, l7, l8, l9, _, _, _, _, _, _, _, _, _, rfl, rfl, ?_⟩
                exact { bel := h.bel, all := fun e => (by rw [hT] at e; cases e), fin := fun e => (by rw [hT] at e; cases e), d0 := h.d0, d1 := h.d1, d2 := h.d2, d3 := h.d3, d4 := h.d4, d5 := fun _ => ⟨rfl, trivial⟩, d6 := fun e => absurd (h.d6 e).2.2.2.2 (by rw [hme]; decide), d7 := h.d7, d8 := h.d8 }
              | 6, hq, _ =>
                have hr := ready_depN hq rfl
                have hme : l6 = false := hr.1
                have e2 : l2 = true := hr.2 ⟨2, .chain⟩ (by simp) (by kernel_rfl)
                have e3 : l3 = true := hr.2 ⟨3, .data⟩ (by simp) (by kernel_rfl)
                have e4 : l4 = true := hr.2 ⟨4, .data⟩ (by simp) (by kernel_rfl)
                have e5 : l5 = true := hr.2 ⟨5, .data⟩ (by simp) (by kernel_rfl)
                have hT : l9 = false := by
                  cases hc9 : l9 with
                  | false => rfl
                  | true => exact absurd (h.all hc9).2.2.2.2.2.2.1 (by rw [hme]; decide)
                have hbel := h.bel hT
                obtain rfl := (h.d3 e3).1
                obtain rfl := (h.d4 e4).1
                obtain rfl := (h.d5 e5).1
                clear hr hq
                refine wpOp_runN rfl rfl (fun K hK => ?_)
                go_simp
                go_at_call 52
                refine Calls.mono (GF.out t q T24.out Q24.out w3 (HBW.out w3 (HQW.out w3 hbel))) ?_
                rintro e w4 ⟨r, rfl, ho, hs4⟩
                have hbel4 := hbel.trans (hs4.mono hbel.size)
                have hnew := ow2_of hbel.size ((h.d2 e2).1 hT) ho
                refine hK _ _ ⟨l0, l1, l2, l3, l4, l5, true, l7, l8, l9, _, _, _, _, _, _, _, _, _, rfl, rfl, ?_⟩
                exact { bel := fun _ => hbel4, all := fun e => (by rw [hT] at e; cases e), fin := fun e => (by rw [hT] at e; cases e), d0 := h.d0, d1 := h.d1, d2 := fun e => ⟨fun hx => own2_below ((h.d2 e).1 hx) hs4, (h.d2 e).2⟩, d3 := h.d3, d4 := h.d4, d5 := h.d5, d6 := fun _ => ⟨fun _ => hnew, e2, e3, e4, e5⟩, d7 := fun e => absurd (h.d7 e).2.2 (by rw [hme]; decide), d8 := fun e => ⟨fun hx => ((h.d8 e).1 hx).below hs4, (h.d8 e).2⟩ }
              | 7, hq, _ =>
                have hr := ready_depN hq rfl
                have hme : l7 = false := hr.1
                have e2 : l2 = true := hr.2 ⟨2, .data⟩ (by simp) (by kernel_rfl)
                have e6 : l6 = true := hr.2 ⟨6, .data⟩ (by simp) (by kernel_rfl)
                have hT : l9 = false := by
                  cases hc9 : l9 with
                  | false => rfl
                  | true => exact absurd (h.all hc9).2.2.2.2.2.2.2.1 (by rw [hme]; decide)
                have hbel := h.bel hT
                obtain ⟨u3a, u3c, rfl⟩ := own_shape ((h.d2 e2).1 hT)
                obtain ⟨u9a, u9c, rfl⟩ := own_shape ((h.d6 e6).1 hT).1
                clear hr hq
                refine wpOp_runN rfl rfl (fun K hK => ?_)
                go_simp
                refine hK _ _ ⟨l0, l1, l2, l3, l4, l5, l6, true, l8, l9, _, _, _, _, _, _, _, _, _, rfl, rfl, ?_⟩
                exact { bel := h.bel, all := fun e => (by rw [hT] at e; cases e), fin := fun e => (by rw [hT] at e; cases e), d0 := h.d0, d1 := h.d1, d2 := h.d2, d3 := h.d3, d4 := h.d4, d5 := h.d5, d6 := h.d6, d7 := fun _ => ⟨rfl, e2, e6⟩, d8 := h.d8 }
              | 8, hq, _ =>
                have hr := ready_depN hq rfl
                have hme : l8 = false := hr.1
                have hT : l9 = false := by
                  cases hc9 : l9 with
                  | false => rfl
                  | true => exact absurd (h.all hc9).2.2.2.2.2.2.2.2 (by rw [hme]; decide)
                have hbel := h.bel hT
                clear hr hq
                refine wpOp_runN rfl rfl (fun K hK => ?_)
                go_simp
                have hs4 := (Below.refl w3.heap.size w3).alloc (Nat.le_refl _) (.cells #[.slice none 0 0, .slice none 0 0] 26)
                have hbel4 := hbel.trans (hs4.mono hbel.size)
                have hnew := (show Bx _ (w3.alloc (.cells #[.slice none 0 0, .slice none 0 0] 26)) (.pointer (some ⟨w3.heap.size, 0, none⟩)) _ _ from ⟨w3.heap.size, rfl, hbel.size, box2_alloc w3 _ _ _⟩)
                refine hK _ _ ⟨l0, l1, l2, l3, l4, l5, l6, l7, true, l9, _, _, _, _, _, _, _, _, _, rfl, rfl, ?_⟩
                exact { bel := fun _ => hbel4, all := fun e => (by rw [hT] at e; cases e), fin := fun e => (by rw [hT] at e; cases e), d0 := h.d0, d1 := h.d1, d2 := fun e => ⟨fun hx => own2_below ((h.d2 e).1 hx) hs4, (h.d2 e).2⟩, d3 := h.d3, d4 := h.d4, d5 := h.d5, d6 := fun e => ⟨fun hx => ((h.d6 e).1 hx).below hs4, (h.d6 e).2⟩, d7 := h.d7, d8 := fun _ => ⟨fun _ => hnew, trivial⟩ }
              | 9, hq, _ =>
                have hr := ready_depN hq rfl
                have hme : l9 = false := hr.1
                have e0 : l0 = true := hr.2 ⟨0, .phase⟩ (by simp) (by kernel_rfl)
                have e1 : l1 = true := hr.2 ⟨1, .phase⟩ (by simp) (by kernel_rfl)
                have e2 : l2 = true := hr.2 ⟨2, .phase⟩ (by simp) (by kernel_rfl)
                have e3 : l3 = true := hr.2 ⟨3, .phase⟩ (by simp) (by kernel_rfl)
                have e4 : l4 = true := hr.2 ⟨4, .phase⟩ (by simp) (by kernel_rfl)
                have e5 : l5 = true := hr.2 ⟨5, .phase⟩ (by simp) (by kernel_rfl)
                have e6 : l6 = true := hr.2 ⟨6, .chain⟩ (by simp) (by kernel_rfl)
                have e7 : l7 = true := hr.2 ⟨7, .data⟩ (by simp) (by kernel_rfl)
                have e8 : l8 = true := hr.2 ⟨8, .data⟩ (by simp) (by kernel_rfl)
                have hbel := h.bel hme
                obtain rfl := (h.d0 e0).1
                obtain rfl := (h.d1 e1).1
                obtain rfl := (h.d3 e3).1
                obtain rfl := (h.d4 e4).1
                obtain rfl := (h.d5 e5).1
                obtain rfl := (h.d7 e7).1
                clear hr hq
                have hF2 := (h.d2 e2).1 hme
                have hF6 := (h.d6 e6).1 hme
                have hF8 := (h.d8 e8).1 hme
                refine wpOp_runN rfl rfl (fun K hK => ?_)
                obtain ⟨u3a, u3c, rfl⟩ := own_shape hF2
                obtain ⟨u9a, u9c, rfl⟩ := own_shape hF6.1
                have hF9 := hF8
                obtain ⟨gX, rfl, hgX, hbx⟩ := hF9
                obtain ⟨k0, k1⟩ := hbx.cells
                have kh := hbx.heap
                have kl := hbx.lt
                have kf0 := hbx.frozen 0
                have kf1 := hbx.frozen 1
                go_simp
                refine hK _ _ ⟨l0, l1, l2, l3, l4, l5, l6, l7, l8, true, _, _, _, _, _, _, _, _, _, rfl, rfl, ?_⟩
                exact { bel := fun e => (by cases e), all := fun _ => ⟨e0, e1, e2, e3, e4, e5, e6, e7, e8⟩, fin := fun _ => ⟨w3, hbel, rfl, hF2, hF6, hF8⟩, d0 := h.d0, d1 := h.d1, d2 := fun e => ⟨fun e9 => (by cases e9), (h.d2 e).2⟩, d3 := h.d3, d4 := h.d4, d5 := h.d5, d6 := fun e => ⟨fun e9 => (by cases e9), (h.d6 e).2⟩, d7 := h.d7, d8 := fun e => ⟨fun e9 => (by cases e9), (h.d8 e).2⟩ }
              | k + 10, hq, h18 => exact (Nat.not_lt_of_le (Nat.le_add_left 10 k) h18).elim
            case done =>
              rintro lb9 ac9 w3 ⟨l0, l1, l2, l3, l4, l5, l6, l7, l8, l9, s0, s1, s2, s3, s4, s5, s6, s7, s8, rfl, rfl, h⟩ hr
              cases l0
              · exact (ready_none2N hr 0 rfl rfl rfl).elim
              cases l1
              · exact (ready_none2N hr 1 rfl rfl rfl).elim
              cases l2
              · exact (ready_none2N hr 2 rfl rfl rfl).elim
              cases l3
              · exact (ready_none2N hr 3 rfl rfl rfl).elim
              cases l4
              · exact (ready_none2N hr 4 rfl rfl rfl).elim
              cases l5
              · exact (ready_none2N hr 5 rfl rfl rfl).elim
              cases l6
              · exact (ready_none2N hr 6 rfl rfl rfl).elim
              cases l7
              · exact (ready_none2N hr 7 rfl rfl rfl).elim
              cases l8
              · exact (ready_none2N hr 8 rfl rfl rfl).elim
              cases l9
              · exact (ready_none2N hr 9 rfl rfl rfl).elim
              obtain rfl := (h.d0 rfl).1
              obtain rfl := (h.d1 rfl).1
              obtain rfl := (h.d3 rfl).1
              obtain rfl := (h.d4 rfl).1
              obtain rfl := (h.d5 rfl).1
              obtain rfl := (h.d7 rfl).1
              obtain ⟨w4, hbel, rfl, hF2, hF6, hF8⟩ := h.fin rfl
              clear h hr
              obtain ⟨u3a, u3c, rfl⟩ := own_shape hF2
              obtain ⟨u9a, u9c, rfl⟩ := own_shape hF6.1
              obtain ⟨gX, rfl, hgX, hbx⟩ := hF8
              dsimp only [blkP]
              have hO5 := ownLa_box hF2 hF6 hbx
              have hsz4 := hbel.size
              have hB5 : Below wr.drew.heap.size wr.drew ((w4.setCell ⟨gX, 0, none⟩ (.slice u3a (unrL l 0 t).length u3c)).setCell ⟨gX, 1, none⟩ (.slice u9a (unrL l t q).length u9c)) := (hbel.setCell (by show wr.drew.heap.size ≤ gX; exact hgX) _).setCell (by show wr.drew.heap.size ≤ gX; exact hgX) _
              have HX5 : Hid (Box2 ((w4.setCell ⟨gX, 0, none⟩ (.slice u3a (unrL l 0 t).length u3c)).setCell ⟨gX, 1, none⟩ (.slice u9a (unrL l t q).length u9c)) gX 26 (.slice u3a (unrL l 0 t).length u3c) (.slice u9a (unrL l t q).length u9c)) := (hbx.set0 _).set1 _
              have HB5 : Hid _ := HQW.out _ hB5
              have HO5 : Hid (OwnLa ((w4.setCell ⟨gX, 0, none⟩ (.slice u3a (unrL l 0 t).length u3c)).setCell ⟨gX, 1, none⟩ (.slice u9a (unrL l t q).length u9c)) wr.drew.heap.size ((w4.setCell ⟨gX, 0, none⟩ (.slice u3a (unrL l 0 t).length u3c)).setCell ⟨gX, 1, none⟩ (.slice u9a (unrL l t q).length u9c)).heap.size (.agg #[.slice u3a (unrL l 0 t).length u3c, .slice u9a (unrL l t q).length u9c]) (unrL l 0 t, unrL l t q)) := hO5
              have g5 := GS.out t q T24.out QQ1.out Q24.out _ _ (HBW.out _ HB5.out) (HO5.out.reads ⟨(HLN.out t q T24.out Q24.out).1, (HLN.out t q T24.out Q24.out).2⟩)
              clear hO5 hB5 hF2 hF6 hbx hbel
              generalize (w4.setCell ⟨gX, 0, none⟩ (.slice u3a (unrL l 0 t).length u3c)).setCell ⟨gX, 1, none⟩ (.slice u9a (unrL l t q).length u9c) = w5 at *
              generalize hA9 : (unrL l 0 t).length = A9 at *
              generalize hB9 : (unrL l t q).length = B9 at *
              clear hA9 hB9
              have HCQ : Hid (CB q t = true → q = RL ∧ TP ≤ t) := fun hc => by
                by_cases e : q = RL
                · refine ⟨e, ?_⟩
                  rw [e, HCR.out t hlt2] at hc
                  exact of_decide_eq_true hc
                · rw [HCS.out q t hq1 (by omega) hlt2] at hc
                  cases hc
              have HCN : Hid (CB q t = false → q = RL → t + 1 ≤ TP) := fun hc e => by
                rw [e, HCR.out t hlt2] at hc
                have := of_decide_eq_false hc
                omega
              rcases Bool.eq_false_or_eq_true (CB q t) with hc | hc
              · rw [hc] at g5
                obtain ⟨hqR, hTt⟩ := HCQ.out hc
                have htT := htq hqR
                have HLR : Hid (LR = (unrL l 0 t, unrL l t q)) := by
                  show LR = _
                  rw [HLE.out, hqR, show t = TP from by omega]
                clear HCQ HCN hc htq hqR hTt htT HCS HCR HLL HLN GF GF0 GS GO1 GO2 HXP9 HQW
                have HX5' := HX5.out
                obtain ⟨k0, k1⟩ := HX5'.cells
                have kh := HX5'.heap
                have kl := HX5'.lt
                obtain ⟨a0, a1⟩ := (HXP.out _ HB5.out).cells
                have ah := (HXP.out _ HB5.out).heap
                have al := (HXP.out _ HB5.out).lt
                clear HX5'
                go_wp2_with fail
                refine g5.mono ?_
                rintro e w6 ⟨rfl, hs⟩
                have HB6 : Hid (Below (w.heap.size + 2) w1 w6) := HB5.out.trans (hs.mono (by have := HB5.out.size; omega))
                have x6 := HX5.out.below hs HX5.out.lt
                have HO6 : Hid (OwnLa w6 (w.heap.size + 2) w6.heap.size (.agg #[.slice u3a A9 u3c, .slice u9a B9 u9c]) LR) := (by
                  show OwnLa _ _ _ _ _
                  rw [HLR.out]
                  exact (HO5.out.same hs.size (fun i _ h9 => hs.block i h9)).weak HZW.out hs.size (Nat.le_refl _))
                have y6 := HYP.out _ HB6.out
                have HBW6 : Hid _ := HBW.out _ HB6.out
                clear g5 hs a0 a1 ah al k0 k1 kh kl HX5 HO5 HB5
                obtain ⟨p0, p1⟩ := x6.cells
                have ph := x6.heap
                have pl := x6.lt
                obtain ⟨k0, k1⟩ := y6.cells
                have kh := y6.heap
                have kl := y6.lt
                have kf0 := y6.frozen 0
                have kf1 := y6.frozen 1
                have y9 := (y6.set0 (.slice u3a A9 u3c)).set1 (.slice u9a B9 u9c)
                have hyh := y9.heap
                have HOL : Hid (OwnLa ((w6.setCell ⟨w.heap.size + 1, 0, none⟩ (.slice u3a A9 u3c)).setCell ⟨w.heap.size + 1, 1, none⟩ (.slice u9a B9 u9c)) w.heap.size ((w6.setCell ⟨w.heap.size + 1, 0, none⟩ (.slice u3a A9 u3c)).setCell ⟨w.heap.size + 1, 1, none⟩ (.slice u9a B9 u9c)).heap.size (.agg #[.slice u3a A9 u3c, .slice u9a B9 u9c]) LR) := ((HO6.out.setO (b := w.heap.size + 1) (o := 0) (x := .slice u3a A9 u3c) (Or.inl (by omega))).setO (b := w.heap.size + 1) (o := 1) (x := .slice u9a B9 u9c) (Or.inl (by omega))).weak (by omega) (by rw [size_set, size_set]; exact Nat.le_refl _) (Nat.le_refl _)
                have HBE : Hid (Below w.heap.size w ((w6.setCell ⟨w.heap.size + 1, 0, none⟩ (.slice u3a A9 u3c)).setCell ⟨w.heap.size + 1, 1, none⟩ (.slice u9a B9 u9c))) := (HBW6.out.setCell (by show w.heap.size ≤ w.heap.size + 1; omega) _).setCell (by show w.heap.size ≤ w.heap.size + 1; omega) _
                clear x6 y6 y9
                go_wp2_with fail
                refine bodyPost_ret (results_la rfl _ _ (w.heap.size + 1) 26 _ (0, 0) _ rfl hyh Try.underlying26 rfl (by kernel_rfl)) rfl ?_
                exact ⟨_, rfl, HOL.out, HBE.out⟩
              · rw [hc] at g5
                have htT : q = RL → t + 1 ≤ TP := HCN.out hc
                clear HCQ HCN hc htq HXP9 HQW
                have HX5' := HX5.out
                obtain ⟨k0, k1⟩ := HX5'.cells
                have kh := HX5'.heap
                have kl := HX5'.lt
                obtain ⟨a0, a1⟩ := (HXP.out _ HB5.out).cells
                have ah := (HXP.out _ HB5.out).heap
                have al := (HXP.out _ HB5.out).lt
                clear HX5'
                go_wp2_with fail
                refine g5.mono ?_
                rintro e w6 ⟨rfl, hs⟩
                have HB6 : Hid (Below (w.heap.size + 2) w1 w6) := HB5.out.trans (hs.mono (by have := HB5.out.size; omega))
                clear g5 hs a0 a1 ah al k0 k1 kh kl HX5 HO5 HB5
                go_wp2_with fail
                go_roundw
                case rel => exact ⟨t + 1, by omega, htT, by go_num, HB6⟩
                case measure => simp [intOf]; omega
          · have hqR : q ≠ RL := fun e => by have := htq e; omega
            clear htq
            go_wp2_with fail
            go_roundw
            case rel => exact ⟨q + 1, by omega, by omega, by go_num, HBX2⟩
            case measure => simp [intOf]; omega
      · have hqo : on = q := by omega
        subst hqo
        have hRL : RL = on := by omega
        go_wp2_with fail
        clear a0 a1 ah al
        generalize wr = wq at *
        go_loopw [7] (fun i wr => ∃ t : Nat, t ≤ gn ∧ t ≤ TP ∧ i = .int .i64 t ∧ Hid (Below (w.heap.size + 2) w1 wr)) (fun i _ => gn - (intOf i).toNat)
        case atStart => exact ⟨0, by omega, Nat.zero_le _, rfl, HBX⟩
        case round =>
          obtain ⟨t, ht, htq, rfl, HBX2⟩ := hrel
          clear HBX
          obtain ⟨a0, a1⟩ := (HXP.out _ HBX2.out).cells
          have ah := (HXP.out _ HBX2.out).heap
          have al := (HXP.out _ HBX2.out).lt
          by_cases hlt2 : t < gn
          · have T24 : Hid (t ≤ 24) := by show t ≤ 24; omega
            have Q24 : Hid (on ≤ 24) := by show on ≤ 24; omega
            have QQ1 : Hid (1 ≤ on) := hq1
            go_wp2_with fail
            have HXP9 : Hid (∀ w3, Below wr.drew.heap.size wr.drew w3 → Box2 w3 w.heap.size 26 (.slice ga gn gc) (.slice oa on oc)) := fun w3 hb3 => HXP.out w3 (HBX2.out.drew.trans (hb3.mono (by show w.heap.size + 2 ≤ wr.heap.size; have := HBX2.out.size; omega)))
            have HQW : Hid (∀ w3, Below wr.drew.heap.size wr.drew w3 → Below (w.heap.size + 2) w1 w3) := fun w3 hb3 => HBX2.out.drew.trans (hb3.mono (by show w.heap.size + 2 ≤ wr.heap.size; have := HBX2.out.size; omega))
            have HZW : Hid (w.heap.size + 2 ≤ wr.drew.heap.size) := by show w.heap.size + 2 ≤ wr.heap.size; have := HBX2.out.size; omega
            clear a0 a1 ah al
            refine wp_region_any (by kernel_rfl) ?_
            change wpAny _ _ _ _ _ _ _ (World.drew _)
            refine wpAny_invN (fun lb9 ac9 w' => ∃ (l0 l1 l2 l3 l4 l5 l6 l7 l8 l9 l10 l11 : Bool) (s0 s1 s2 s3 s4 s5 s6 s7 s8 s9 s10 : Value), lb9 = #[l0, l1, l2, l3, l4, l5, l6, l7, l8, l9, l10, l11] ∧ ac9 = { tmps := ((.agg #[.slice ga gn gc, .slice oa on oc]) :: (.pointer (some ⟨w.heap.size, 0, none⟩)) :: (.pointer (some ⟨w.heap.size + 1, 0, none⟩)) :: (u3) :: (.int .i64 on) :: (u5) :: (u6) :: (.int .i64 t) :: (s10) :: (.agg #[.slice ga gn gc, .slice oa on oc]) :: (.bool true) :: (.bool false) :: (undef) :: (.int .i64 on) :: (.pointer (some ⟨w.heap.size, 1, none⟩)) :: (.slice oa on oc) :: (.int .i64 on) :: (.bool false) :: (u18) :: (u19) :: (u20) :: (u21) :: (u22) :: (u23) :: (u24) :: (u25) :: (u26) :: (u27) :: (u28) :: (u29) :: (u30) :: (u31) :: (u32) :: (u33) :: (u34) :: (u35) :: (u36) :: (u37) :: (u38) :: (.int .i64 t) :: (.pointer (some ⟨w.heap.size, 0, none⟩)) :: (.slice ga gn gc) :: (.int .i64 gn) :: (.bool true) :: (u44) :: (u45) :: (s0) :: (s1) :: (s2) :: (s3) :: (s4) :: (s5) :: (s6) :: (s7) :: (s8) :: (s9) :: (u56) :: (u57) :: (u58) :: (u59) :: (undef) :: (undef) :: (undef) :: (undef) :: (undef) :: (undef) :: (undef) :: []).toArray, defers := [] } ∧ RegLs15 wr.drew w' wr.drew.heap.size w.heap.size ga gn gc oa on oc on t (unrL l 0 t) (unrL l t on) l0 l1 l2 l3 l4 l5 l6 l7 l8 l9 l10 l11 s0 s1 s2 s3 s4 s5 s6 s7 s8 s9 s10) ?done ?step 12 _ _ _ ⟨false, false, false, false, false, false, false, false, false, false, false, false, _, _, _, _, _, _, _, _, _, _, _, rfl, rfl, ?init⟩ (by decide)
            case init => exact { bel := fun _ => Below.refl _ _, all := fun e => (by cases e), fin := fun e => (by cases e), d0 := fun e => (by cases e), d1 := fun e => (by cases e), d2 := fun e => (by cases e), d3 := fun e => (by cases e), d4 := fun e => (by cases e), d5 := fun e => (by cases e), d6 := fun e => (by cases e), d7 := fun e => (by cases e), d8 := fun e => (by cases e), d9 := fun e => (by cases e), d10 := fun e => (by cases e) }
            case step =>
              rintro lb9 ac9 w3 ⟨l0, l1, l2, l3, l4, l5, l6, l7, l8, l9, l10, l11, s0, s1, s2, s3, s4, s5, s6, s7, s8, s9, s10, rfl, rfl, h⟩
              intro q9 hq
              have hlt9 := ready_ltN hq
              match q9, hq, hlt9 with
              | 0, hq, _ =>
                have hr := ready_depN hq rfl
                have hme : l0 = false := hr.1
                have hT : l11 = false := by
                  cases hc9 : l11 with
                  | false => rfl
                  | true => exact absurd (h.all hc9).1 (by rw [hme]; decide)
                have hbel := h.bel hT
                have x3 := HXP9.out w3 hbel
                obtain ⟨c0, c1⟩ := x3.cells
                have ch := x3.heap
                have cl := x3.lt
                clear hr hq
                refine wpOp_runN rfl rfl (fun K hK => ?_)
                go_simp
                refine hK _ _ ⟨true, l1, l2, l3, l4, l5, l6, l7, l8, l9, l10, l11, _, _, _, _, _, _, _, _, _, _, _, rfl, rfl, ?_⟩
                exact { bel := h.bel, all := fun e => (by rw [hT] at e; cases e), fin := fun e => (by rw [hT] at e; cases e), d0 := fun _ => ⟨rfl, trivial⟩, d1 := h.d1, d2 := fun e => absurd (h.d2 e).2.1 (by rw [hme]; decide), d3 := h.d3, d4 := h.d4, d5 := h.d5, d6 := h.d6, d7 := h.d7, d8 := h.d8, d9 := h.d9, d10 := h.d10 }
              | 1, hq, _ =>
                have hr := ready_depN hq rfl
                have hme : l1 = false := hr.1
                have hT : l11 = false := by
                  cases hc9 : l11 with
                  | false => rfl
                  | true => exact absurd (h.all hc9).2.1 (by rw [hme]; decide)
                have hbel := h.bel hT
                clear hr hq
                refine wpOp_runN rfl rfl (fun K hK => ?_)
                go_simp
                refine hK _ _ ⟨l0, true, l2, l3, l4, l5, l6, l7, l8, l9, l10, l11, _, _, _, _, _, _, _, _, _, _, _, rfl, rfl, ?_⟩
                exact { bel := h.bel, all := fun e => (by rw [hT] at e; cases e), fin := fun e => (by rw [hT] at e; cases e), d0 := h.d0, d1 := fun _ => ⟨rfl, trivial⟩, d2 := fun e => absurd (h.d2 e).2.2 (by rw [hme]; decide), d3 := h.d3, d4 := h.d4, d5 := h.d5, d6 := h.d6, d7 := h.d7, d8 := h.d8, d9 := h.d9, d10 := h.d10 }
              | 2, hq, _ =>
                have hr := ready_depN hq rfl
                have hme : l2 = false := hr.1
                have e0 : l0 = true := hr.2 ⟨0, .data⟩ (by simp) (by kernel_rfl)
                have e1 : l1 = true := hr.2 ⟨1, .data⟩ (by simp) (by kernel_rfl)
                have hT : l11 = false := by
                  cases hc9 : l11 with
                  | false => rfl
                  | true => exact absurd (h.all hc9).2.2.1 (by rw [hme]; decide)
                have hbel := h.bel hT
                obtain rfl := (h.d0 e0).1
                obtain rfl := (h.d1 e1).1
                clear hr hq
                refine wpOp_runN rfl rfl (fun K hK => ?_)
                go_simp
                go_at_call 52
                refine Calls.mono (GF0.out t T24.out w3 (HBW.out w3 (HQW.out w3 hbel))) ?_
                rintro e w4 ⟨r, rfl, ho, hs4⟩
                have hbel4 := hbel.trans (hs4.mono hbel.size)
                have hnew := OwnInts2.low ho hbel.size
                refine hK _ _ ⟨l0, l1, true, l3, l4, l5, l6, l7, l8, l9, l10, l11, _, _, _, _, _, _, _, _, _, _, _, rfl, rfl, ?_⟩
                exact { bel := fun _ => hbel4, all := fun e => (by rw [hT] at e; cases e), fin := fun e => (by rw [hT] at e; cases e), d0 := h.d0, d1 := h.d1, d2 := fun _ => ⟨fun _ => hnew, e0, e1⟩, d3 := h.d3, d4 := h.d4, d5 := h.d5, d6 := h.d6, d7 := h.d7, d8 := fun e => absurd (h.d8 e).2.1 (by rw [hme]; decide), d9 := fun e => absurd (h.d9 e).2.1 (by rw [hme]; decide), d10 := fun e => ⟨fun hx => ((h.d10 e).1 hx).below hs4, (h.d10 e).2⟩ }
              | 3, hq, _ =>
                have hr := ready_depN hq rfl
                have hme : l3 = false := hr.1
                have hT : l11 = false := by
                  cases hc9 : l11 with
                  | false => rfl
                  | true => exact absurd (h.all hc9).2.2.2.1 (by rw [hme]; decide)
                have hbel := h.bel hT
                have x3 := HXP9.out w3 hbel
                obtain ⟨c0, c1⟩ := x3.cells
                have ch := x3.heap
                have cl := x3.lt
                clear hr hq
                refine wpOp_runN rfl rfl (fun K hK => ?_)
                go_simp
                refine hK _ _ ⟨l0, l1, l2, true, l4, l5, l6, l7, l8, l9, l10, l11, _, _, _, _, _, _, _, _, _, _, _, rfl, rfl, ?_⟩
                exact { bel := h.bel, all := fun e => (by rw [hT] at e; cases e), fin := fun e => (by rw [hT] at e; cases e), d0 := h.d0, d1 := h.d1, d2 := h.d2, d3 := fun _ => ⟨rfl, trivial⟩, d4 := h.d4, d5 := h.d5, d6 := h.d6, d7 := h.d7, d8 := fun e => absurd (h.d8 e).2.2.1 (by rw [hme]; decide), d9 := h.d9, d10 := h.d10 }
              | 4, hq, _ =>
                have hr := ready_depN hq rfl
                have hme : l4 = false := hr.1
                have hT : l11 = false := by
                  cases hc9 : l11 with
                  | false => rfl
                  | true => exact absurd (h.all hc9).2.2.2.2.1 (by rw [hme]; decide)
                have hbel := h.bel hT
                clear hr hq
                refine wpOp_runN rfl rfl (fun K hK => ?_)
                go_simp
                refine hK _ _ ⟨l0, l1, l2, l3, true, l5, l6, l7, l8, l9, l10, l11, _, _, _, _, _, _, _, _, _, _, _, rfl, rfl, ?_⟩
                exact { bel := h.bel, all := fun e => (by rw [hT] at e; cases e), fin := fun e => (by rw [hT] at e; cases e), d0 := h.d0, d1 := h.d1, d2 := h.d2, d3 := h.d3, d4 := fun _ => ⟨rfl, trivial⟩, d5 := h.d5, d6 := h.d6, d7 := h.d7, d8 := fun e => absurd (h.d8 e).2.2.2.1 (by rw [hme]; decide), d9 := h.d9, d10 := h.d10 }
              | 5, hq, _ =>
                have hr := ready_depN hq rfl
                have hme : l5 = false := hr.1
                have hT : l11 = false := by
                  cases hc9 : l11 with
                  | false => rfl
                  | true => exact absurd (h.all hc9).2.2.2.2.2.1 (by rw [hme]; decide)
                have hbel := h.bel hT
                clear hr hq
                refine wpOp_runN rfl rfl (fun K hK => ?_)
                go_simp
                refine hK _ _ ⟨l0, l1, l2, l3, l4, true, l6, l7, l8, l9, l10, l11, _, _, _, _, _, _, _, _, _, _, _, rfl, rfl, ?_⟩
                exact { bel := h.bel, all := fun e => (by rw [hT] at e; cases e), fin := fun e => (by rw [hT] at e; cases e), d0 := h.d0, d1 := h.d1, d2 := h.d2, d3 := h.d3, d4 := h.d4, d5 := fun _ => ⟨rfl, trivial⟩, d6 := fun e => absurd (h.d6 e).2 (by rw [hme]; decide), d7 := h.d7, d8 := h.d8, d9 := h.d9, d10 := h.d10 }
              | 6, hq, _ =>
                have hr := ready_depN hq rfl
                have hme : l6 = false := hr.1
                have e5 : l5 = true := hr.2 ⟨5, .data⟩ (by simp) (by kernel_rfl)
                have hT : l11 = false := by
                  cases hc9 : l11 with
                  | false => rfl
                  | true => exact absurd (h.all hc9).2.2.2.2.2.2.1 (by rw [hme]; decide)
                have hbel := h.bel hT
                obtain rfl := (h.d5 e5).1
                have x3 := HXP9.out w3 hbel
                obtain ⟨c0, c1⟩ := x3.cells
                have ch := x3.heap
                have cl := x3.lt
                clear hr hq
                refine wpOp_runN rfl rfl (fun K hK => ?_)
                go_simp
                refine hK _ _ ⟨l0, l1, l2, l3, l4, l5, true, l7, l8, l9, l10, l11, _, _, _, _, _, _, _, _, _, _, _, rfl, rfl, ?_⟩
                exact { bel := h.bel, all := fun e => (by rw [hT] at e; cases e), fin := fun e => (by rw [hT] at e; cases e), d0 := h.d0, d1 := h.d1, d2 := h.d2, d3 := h.d3, d4 := h.d4, d5 := h.d5, d6 := fun _ => ⟨rfl, e5⟩, d7 := fun e => absurd (h.d7 e).2 (by rw [hme]; decide), d8 := h.d8, d9 := h.d9, d10 := h.d10 }
              | 7, hq, _ =>
                have hr := ready_depN hq rfl
                have hme : l7 = false := hr.1
                have e6 : l6 = true := hr.2 ⟨6, .data⟩ (by simp) (by kernel_rfl)
                have hT : l11 = false := by
                  cases hc9 : l11 with
                  | false => rfl
                  | true => exact absurd (h.all hc9).2.2.2.2.2.2.2.1 (by rw [hme]; decide)
                have hbel := h.bel hT
                obtain rfl := (h.d6 e6).1
                clear hr hq
                refine wpOp_runN rfl rfl (fun K hK => ?_)
                go_simp
                refine hK _ _ ⟨l0, l1, l2, l3, l4, l5, l6, true, l8, l9, l10, l11, _, _, _, _, _, _, _, _, _, _, _, rfl, rfl, ?_⟩
                exact { bel := h.bel, all := fun e => (by rw [hT] at e; cases e), fin := fun e => (by rw [hT] at e; cases e), d0 := h.d0, d1 := h.d1, d2 := h.d2, d3 := h.d3, d4 := h.d4, d5 := h.d5, d6 := h.d6, d7 := fun _ => ⟨rfl, e6⟩, d8 := fun e => absurd (h.d8 e).2.2.2.2 (by rw [hme]; decide), d9 := h.d9, d10 := h.d10 }
              | 8, hq, _ =>
                have hr := ready_depN hq rfl
                have hme : l8 = false := hr.1
                have e2 : l2 = true := hr.2 ⟨2, .chain⟩ (by simp) (by kernel_rfl)
                have e3 : l3 = true := hr.2 ⟨3, .data⟩ (by simp) (by kernel_rfl)
                have e4 : l4 = true := hr.2 ⟨4, .data⟩ (by simp) (by kernel_rfl)
                have e7 : l7 = true := hr.2 ⟨7, .data⟩ (by simp) (by kernel_rfl)
                have hT : l11 = false := by
                  cases hc9 : l11 with
                  | false => rfl
                  | true => exact absurd (h.all hc9).2.2.2.2.2.2.2.2.1 (by rw [hme]; decide)
                have hbel := h.bel hT
                obtain rfl := (h.d3 e3).1
                obtain rfl := (h.d4 e4).1
                obtain rfl := (h.d7 e7).1
                clear hr hq
                refine wpOp_runN rfl rfl (fun K hK => ?_)
                go_simp
                go_at_call 52
                refine Calls.mono (GF.out t on T24.out Q24.out w3 (HBW.out w3 (HQW.out w3 hbel))) ?_
                rintro e w4 ⟨r, rfl, ho, hs4⟩
                have hbel4 := hbel.trans (hs4.mono hbel.size)
                have hnew := ow2_of hbel.size ((h.d2 e2).1 hT) ho
                refine hK _ _ ⟨l0, l1, l2, l3, l4, l5, l6, l7, true, l9, l10, l11, _, _, _, _, _, _, _, _, _, _, _, rfl, rfl, ?_⟩
                exact { bel := fun _ => hbel4, all := fun e => (by rw [hT] at e; cases e), fin := fun e => (by rw [hT] at e; cases e), d0 := h.d0, d1 := h.d1, d2 := fun e => ⟨fun hx => own2_below ((h.d2 e).1 hx) hs4, (h.d2 e).2⟩, d3 := h.d3, d4 := h.d4, d5 := h.d5, d6 := h.d6, d7 := h.d7, d8 := fun _ => ⟨fun _ => hnew, e2, e3, e4, e7⟩, d9 := fun e => absurd (h.d9 e).2.2 (by rw [hme]; decide), d10 := fun e => ⟨fun hx => ((h.d10 e).1 hx).below hs4, (h.d10 e).2⟩ }
              | 9, hq, _ =>
                have hr := ready_depN hq rfl
                have hme : l9 = false := hr.1
                have e2 : l2 = true := hr.2 ⟨2, .data⟩ (by simp) (by kernel_rfl)
                have e8 : l8 = true := hr.2 ⟨8, .data⟩ (by simp) (by kernel_rfl)
                have hT : l11 = false := by
                  cases hc9 : l11 with
                  | false => rfl
                  | true => exact absurd (h.all hc9).2.2.2.2.2.2.2.2.2.1 (by rw [hme]; decide)
                have hbel := h.bel hT
                obtain ⟨u3a, u3c, rfl⟩ := own_shape ((h.d2 e2).1 hT)
                obtain ⟨u9a, u9c, rfl⟩ := own_shape ((h.d8 e8).1 hT).1
                clear hr hq
                refine wpOp_runN rfl rfl (fun K hK => ?_)
                go_simp
                refine hK _ _ ⟨l0, l1, l2, l3, l4, l5, l6, l7, l8, true, l10, l11, _, _, _, _, _, _, _, _, _, _, _, rfl, rfl, ?_⟩
                exact { bel := h.bel, all := fun e => (by rw [hT] at e; cases e), fin := fun e => (by rw [hT] at e; cases e), d0 := h.d0, d1 := h.d1, d2 := h.d2, d3 := h.d3, d4 := h.d4, d5 := h.d5, d6 := h.d6, d7 := h.d7, d8 := h.d8, d9 := fun _ => ⟨rfl, e2, e8⟩, d10 := h.d10 }
              | 10, hq, _ =>
                have hr := ready_depN hq rfl
                have hme : l10 = false := hr.1
                have hT : l11 = false := by
                  cases hc9 : l11 with
                  | false => rfl
                  | true => exact absurd (h.all hc9).2.2.2.2.2.2.2.2.2.2 (by rw [hme]; decide)
                have hbel := h.bel hT
                clear hr hq
                refine wpOp_runN rfl rfl (fun K hK => ?_)
                go_simp
                have hs4 := (Below.refl w3.heap.size w3).alloc (Nat.le_refl _) (.cells #[.slice none 0 0, .slice none 0 0] 26)
                have hbel4 := hbel.trans (hs4.mono hbel.size)
                have hnew := (show Bx _ (w3.alloc (.cells #[.slice none 0 0, .slice none 0 0] 26)) (.pointer (some ⟨w3.heap.size, 0, none⟩)) _ _ from ⟨w3.heap.size, rfl, hbel.size, box2_alloc w3 _ _ _⟩)
                refine hK _ _ ⟨l0, l1, l2, l3, l4, l5, l6, l7, l8, l9, true, l11, _, _, _, _, _, _, _, _, _, _, _, rfl, rfl, ?_⟩
                exact { bel := fun _ => hbel4, all := fun e => (by rw [hT] at e; cases e), fin := fun e => (by rw [hT] at e; cases e), d0 := h.d0, d1 := h.d1, d2 := fun e => ⟨fun hx => own2_below ((h.d2 e).1 hx) hs4, (h.d2 e).2⟩, d3 := h.d3, d4 := h.d4, d5 := h.d5, d6 := h.d6, d7 := h.d7, d8 := fun e => ⟨fun hx => ((h.d8 e).1 hx).below hs4, (h.d8 e).2⟩, d9 := h.d9, d10 := fun _ => ⟨fun _ => hnew, trivial⟩ }
              | 11, hq, _ =>
                have hr := ready_depN hq rfl
                have hme : l11 = false := hr.1
                have e0 : l0 = true := hr.2 ⟨0, .phase⟩ (by simp) (by kernel_rfl)
                have e1 : l1 = true := hr.2 ⟨1, .phase⟩ (by simp) (by kernel_rfl)
                have e2 : l2 = true := hr.2 ⟨2, .phase⟩ (by simp) (by kernel_rfl)
                have e3 : l3 = true := hr.2 ⟨3, .phase⟩ (by simp) (by kernel_rfl)
                have e4 : l4 = true := hr.2 ⟨4, .phase⟩ (by simp) (by kernel_rfl)
                have e5 : l5 = true := hr.2 ⟨5, .phase⟩ (by simp) (by kernel_rfl)
                have e6 : l6 = true := hr.2 ⟨6, .phase⟩ (by simp) (by kernel_rfl)
                have e7 : l7 = true := hr.2 ⟨7, .phase⟩ (by simp) (by kernel_rfl)
                have e8 : l8 = true := hr.2 ⟨8, .chain⟩ (by simp) (by kernel_rfl)
                have e9 : l9 = true := hr.2 ⟨9, .data⟩ (by simp) (by kernel_rfl)
                have e10 : l10 = true := hr.2 ⟨10, .data⟩ (by simp) (by kernel_rfl)
                have hbel := h.bel hme
                obtain rfl := (h.d0 e0).1
                obtain rfl := (h.d1 e1).1
                obtain rfl := (h.d3 e3).1
                obtain rfl := (h.d4 e4).1
                obtain rfl := (h.d5 e5).1
                obtain rfl := (h.d6 e6).1
                obtain rfl := (h.d7 e7).1
                obtain rfl := (h.d9 e9).1
                clear hr hq
                have hF2 := (h.d2 e2).1 hme
                have hF8 := (h.d8 e8).1 hme
                have hF10 := (h.d10 e10).1 hme
                refine wpOp_runN rfl rfl (fun K hK => ?_)
                obtain ⟨u3a, u3c, rfl⟩ := own_shape hF2
                obtain ⟨u9a, u9c, rfl⟩ := own_shape hF8.1
                have hF9 := hF10
                obtain ⟨gX, rfl, hgX, hbx⟩ := hF9
                obtain ⟨k0, k1⟩ := hbx.cells
                have kh := hbx.heap
                have kl := hbx.lt
                have kf0 := hbx.frozen 0
                have kf1 := hbx.frozen 1
                go_simp
                refine hK _ _ ⟨l0, l1, l2, l3, l4, l5, l6, l7, l8, l9, l10, true, _, _, _, _, _, _, _, _, _, _, _, rfl, rfl, ?_⟩
                exact { bel := fun e => (by cases e), all := fun _ => ⟨e0, e1, e2, e3, e4, e5, e6, e7, e8, e9, e10⟩, fin := fun _ => ⟨w3, hbel, rfl, hF2, hF8, hF10⟩, d0 := h.d0, d1 := h.d1, d2 := fun e => ⟨fun e9 => (by cases e9), (h.d2 e).2⟩, d3 := h.d3, d4 := h.d4, d5 := h.d5, d6 := h.d6, d7 := h.d7, d8 := fun e => ⟨fun e9 => (by cases e9), (h.d8 e).2⟩, d9 := h.d9, d10 := fun e => ⟨fun e9 => (by cases e9), (h.d10 e).2⟩ }
              | k + 12, hq, h18 => exact (Nat.not_lt_of_le (Nat.le_add_left 12 k) h18).elim
            case done =>
              rintro lb9 ac9 w3 ⟨l0, l1, l2, l3, l4, l5, l6, l7, l8, l9, l10, l11, s0, s1, s2, s3, s4, s5, s6, s7, s8, s9, s10, rfl, rfl, h⟩ hr
              cases l0
              · exact (ready_none2N hr 0 rfl rfl rfl).elim
              cases l1
              · exact (ready_none2N hr 1 rfl rfl rfl).elim
              cases l2
              · exact (ready_none2N hr 2 rfl rfl rfl).elim
              cases l3
              · exact (ready_none2N hr 3 rfl rfl rfl).elim
              cases l4
              · exact (ready_none2N hr 4 rfl rfl rfl).elim
              cases l5
              · exact (ready_none2N hr 5 rfl rfl rfl).elim
              cases l6
              · exact (ready_none2N hr 6 rfl rfl rfl).elim
              cases l7
              · exact (ready_none2N hr 7 rfl rfl rfl).elim
              cases l8
              · exact (ready_none2N hr 8 rfl rfl rfl).elim
              cases l9
              · exact (ready_none2N hr 9 rfl rfl rfl).elim
              cases l10
              · exact (ready_none2N hr 10 rfl rfl rfl).elim
              cases l11
              · exact (ready_none2N hr 11 rfl rfl rfl).elim
              obtain rfl := (h.d0 rfl).1
              obtain rfl := (h.d1 rfl).1
              obtain rfl := (h.d3 rfl).1
              obtain rfl := (h.d4 rfl).1
              obtain rfl := (h.d5 rfl).1
              obtain rfl := (h.d6 rfl).1
              obtain rfl := (h.d7 rfl).1
              obtain rfl := (h.d9 rfl).1
              obtain ⟨w4, hbel, rfl, hF2, hF8, hF10⟩ := h.fin rfl
              clear h hr
              obtain ⟨u3a, u3c, rfl⟩ := own_shape hF2
              obtain ⟨u9a, u9c, rfl⟩ := own_shape hF8.1
              obtain ⟨gX, rfl, hgX, hbx⟩ := hF10
              dsimp only [blkP]
              have hO5 := ownLa_box hF2 hF8 hbx
              have hsz4 := hbel.size
              have hB5 : Below wr.drew.heap.size wr.drew ((w4.setCell ⟨gX, 0, none⟩ (.slice u3a (unrL l 0 t).length u3c)).setCell ⟨gX, 1, none⟩ (.slice u9a (unrL l t on).length u9c)) := (hbel.setCell (by show wr.drew.heap.size ≤ gX; exact hgX) _).setCell (by show wr.drew.heap.size ≤ gX; exact hgX) _
              have HX5 : Hid (Box2 ((w4.setCell ⟨gX, 0, none⟩ (.slice u3a (unrL l 0 t).length u3c)).setCell ⟨gX, 1, none⟩ (.slice u9a (unrL l t on).length u9c)) gX 26 (.slice u3a (unrL l 0 t).length u3c) (.slice u9a (unrL l t on).length u9c)) := (hbx.set0 _).set1 _
              have HB5 : Hid _ := HQW.out _ hB5
              have HO5 : Hid (OwnLa ((w4.setCell ⟨gX, 0, none⟩ (.slice u3a (unrL l 0 t).length u3c)).setCell ⟨gX, 1, none⟩ (.slice u9a (unrL l t on).length u9c)) wr.drew.heap.size ((w4.setCell ⟨gX, 0, none⟩ (.slice u3a (unrL l 0 t).length u3c)).setCell ⟨gX, 1, none⟩ (.slice u9a (unrL l t on).length u9c)).heap.size (.agg #[.slice u3a (unrL l 0 t).length u3c, .slice u9a (unrL l t on).length u9c]) (unrL l 0 t, unrL l t on)) := hO5
              have g5 := GS.out t on T24.out QQ1.out Q24.out _ _ (HBW.out _ HB5.out) (HO5.out.reads ⟨(HLN.out t on T24.out Q24.out).1, (HLN.out t on T24.out Q24.out).2⟩)
              clear hO5 hB5 hF2 hF8 hbx hbel
              generalize (w4.setCell ⟨gX, 0, none⟩ (.slice u3a (unrL l 0 t).length u3c)).setCell ⟨gX, 1, none⟩ (.slice u9a (unrL l t on).length u9c) = w5 at *
              generalize hA9 : (unrL l 0 t).length = A9 at *
              generalize hB9 : (unrL l t on).length = B9 at *
              clear hA9 hB9
              have HCQ : Hid (CB on t = true → TP ≤ t) := fun hc => by
                rw [← hRL, HCR.out t ht] at hc
                exact of_decide_eq_true hc
              have HCN : Hid (CB on t = false → t + 1 ≤ TP) := fun hc => by
                rw [← hRL, HCR.out t ht] at hc
                have := of_decide_eq_false hc
                omega
              rcases Bool.eq_false_or_eq_true (CB on t) with hc | hc
              · rw [hc] at g5
                have hTt := HCQ.out hc
                have HLR : Hid (LR = (unrL l 0 t, unrL l t on)) := by
                  show LR = _
                  rw [HLE.out, hRL, show t = TP from by omega]
                clear HCQ HCN hc htq hTt HCS HCR HLL HLN GF GF0 GS GO1 GO2 HXP9 HQW
                have HX5' := HX5.out
                obtain ⟨k0, k1⟩ := HX5'.cells
                have kh := HX5'.heap
                have kl := HX5'.lt
                obtain ⟨a0, a1⟩ := (HXP.out _ HB5.out).cells
                have ah := (HXP.out _ HB5.out).heap
                have al := (HXP.out _ HB5.out).lt
                clear HX5'
                go_wp2_with fail
                refine g5.mono ?_
                rintro e w6 ⟨rfl, hs⟩
                have HB6 : Hid (Below (w.heap.size + 2) w1 w6) := HB5.out.trans (hs.mono (by have := HB5.out.size; omega))
                have x6 := HX5.out.below hs HX5.out.lt
                have HO6 : Hid (OwnLa w6 (w.heap.size + 2) w6.heap.size (.agg #[.slice u3a A9 u3c, .slice u9a B9 u9c]) LR) := (by
                  show OwnLa _ _ _ _ _
                  rw [HLR.out]
                  exact (HO5.out.same hs.size (fun i _ h9 => hs.block i h9)).weak HZW.out hs.size (Nat.le_refl _))
                have y6 := HYP.out _ HB6.out
                have HBW6 : Hid _ := HBW.out _ HB6.out
                clear g5 hs a0 a1 ah al k0 k1 kh kl HX5 HO5 HB5
                obtain ⟨p0, p1⟩ := x6.cells
                have ph := x6.heap
                have pl := x6.lt
                obtain ⟨k0, k1⟩ := y6.cells
                have kh := y6.heap
                have kl := y6.lt
                have kf0 := y6.frozen 0
                have kf1 := y6.frozen 1
                have y9 := (y6.set0 (.slice u3a A9 u3c)).set1 (.slice u9a B9 u9c)
                have hyh := y9.heap
                have HOL : Hid (OwnLa ((w6.setCell ⟨w.heap.size + 1, 0, none⟩ (.slice u3a A9 u3c)).setCell ⟨w.heap.size + 1, 1, none⟩ (.slice u9a B9 u9c)) w.heap.size ((w6.setCell ⟨w.heap.size + 1, 0, none⟩ (.slice u3a A9 u3c)).setCell ⟨w.heap.size + 1, 1, none⟩ (.slice u9a B9 u9c)).heap.size (.agg #[.slice u3a A9 u3c, .slice u9a B9 u9c]) LR) := ((HO6.out.setO (b := w.heap.size + 1) (o := 0) (x := .slice u3a A9 u3c) (Or.inl (by omega))).setO (b := w.heap.size + 1) (o := 1) (x := .slice u9a B9 u9c) (Or.inl (by omega))).weak (by omega) (by rw [size_set, size_set]; exact Nat.le_refl _) (Nat.le_refl _)
                have HBE : Hid (Below w.heap.size w ((w6.setCell ⟨w.heap.size + 1, 0, none⟩ (.slice u3a A9 u3c)).setCell ⟨w.heap.size + 1, 1, none⟩ (.slice u9a B9 u9c))) := (HBW6.out.setCell (by show w.heap.size ≤ w.heap.size + 1; omega) _).setCell (by show w.heap.size ≤ w.heap.size + 1; omega) _
                clear x6 y6 y9
                go_wp2_with fail
                refine bodyPost_ret (results_la rfl _ _ (w.heap.size + 1) 26 _ (0, 0) _ rfl hyh Try.underlying26 rfl (by kernel_rfl)) rfl ?_
                exact ⟨_, rfl, HOL.out, HBE.out⟩
              · rw [hc] at g5
                have htT : t + 1 ≤ TP := HCN.out hc
                clear HCQ HCN hc htq HXP9 HQW
                have HX5' := HX5.out
                obtain ⟨k0, k1⟩ := HX5'.cells
                have kh := HX5'.heap
                have kl := HX5'.lt
                obtain ⟨a0, a1⟩ := (HXP.out _ HB5.out).cells
                have ah := (HXP.out _ HB5.out).heap
                have al := (HXP.out _ HB5.out).lt
                clear HX5'
                go_wp2_with fail
                refine g5.mono ?_
                rintro e w6 ⟨rfl, hs⟩
                have HB6 : Hid (Below (w.heap.size + 2) w1 w6) := HB5.out.trans (hs.mono (by have := HB5.out.size; omega))
                clear g5 hs a0 a1 ah al k0 k1 kh kl HX5 HO5 HB5
                go_wp2_with fail
                go_roundw
                case rel => exact ⟨t + 1, by omega, htT, by go_num, HB6⟩
                case measure => simp [intOf]; omega
          · obtain rfl : t = gn := by omega
            have HLR : Hid (LR = (l.1, l.2)) := HLL.out hRL htq
            go_wp2_with fail
            have HXP9 : Hid (∀ w3, Below wr.drew.heap.size wr.drew w3 → Box2 w3 w.heap.size 26 (.slice ga t gc) (.slice oa on oc)) := fun w3 hb3 => HXP.out w3 (HBX2.out.drew.trans (hb3.mono (by show w.heap.size + 2 ≤ wr.heap.size; have := HBX2.out.size; omega)))
            have HYP9 : Hid (∀ w3, Below wr.drew.heap.size wr.drew w3 → Box2 w3 (w.heap.size + 1) 26 (.slice none 0 0) (.slice none 0 0)) := fun w3 hb3 => HYP.out w3 (HBX2.out.drew.trans (hb3.mono (by show w.heap.size + 2 ≤ wr.heap.size; have := HBX2.out.size; omega)))
            have HQW : Hid (∀ w3, Below wr.drew.heap.size wr.drew w3 → Below (w.heap.size + 2) w1 w3) := fun w3 hb3 => HBX2.out.drew.trans (hb3.mono (by show w.heap.size + 2 ≤ wr.heap.size; have := HBX2.out.size; omega))
            have HZW : Hid (w.heap.size + 2 ≤ wr.drew.heap.size) := by show w.heap.size + 2 ≤ wr.heap.size; have := HBX2.out.size; omega
            clear a0 a1 ah al
            refine wp_region_any (by kernel_rfl) ?_
            change wpAny _ _ _ _ _ _ _ (World.drew _)
            refine wpAny_invN (fun lb9 ac9 w' => ∃ (l0 l1 l2 l3 l4 l5 l6 l7 l8 : Bool) (s0 s1 s2 s3 s4 s5 s6 s8 : Value), lb9 = #[l0, l1, l2, l3, l4, l5, l6, l7, l8] ∧ ac9 = { tmps := ((.agg #[.slice ga t gc, .slice oa on oc]) :: (.pointer (some ⟨w.heap.size, 0, none⟩)) :: (.pointer (some ⟨w.heap.size + 1, 0, none⟩)) :: (s8) :: (.int .i64 on) :: (u5) :: (u6) :: (.int .i64 t) :: (u8) :: (.agg #[.slice ga t gc, .slice oa on oc]) :: (.bool true) :: (.bool false) :: (undef) :: (.int .i64 on) :: (.pointer (some ⟨w.heap.size, 1, none⟩)) :: (.slice oa on oc) :: (.int .i64 on) :: (.bool false) :: (u18) :: (u19) :: (u20) :: (u21) :: (u22) :: (u23) :: (u24) :: (u25) :: (u26) :: (u27) :: (u28) :: (u29) :: (u30) :: (u31) :: (u32) :: (u33) :: (u34) :: (u35) :: (u36) :: (u37) :: (u38) :: (.int .i64 t) :: (.pointer (some ⟨w.heap.size, 0, none⟩)) :: (.slice ga t gc) :: (.int .i64 t) :: (.bool false) :: (u44) :: (u45) :: (u46) :: (u47) :: (u48) :: (u49) :: (u50) :: (u51) :: (u52) :: (u53) :: (u54) :: (u55) :: (u56) :: (u57) :: (u58) :: (u59) :: (s0) :: (s1) :: (s2) :: (s3) :: (s4) :: (s5) :: (s6) :: []).toArray, defers := [] } ∧ RegLs18 wr.drew w' wr.drew.heap.size w.heap.size (w.heap.size + 1) ga t gc oa on oc l.1 l.2 l0 l1 l2 l3 l4 l5 l6 l7 l8 s0 s1 s2 s3 s4 s5 s6 s8) ?done ?step 9 _ _ _ ⟨false, false, false, false, false, false, false, false, false, _, _, _, _, _, _, _, _, rfl, rfl, ?init⟩ (by decide)
            case init => exact { bel := fun _ => Below.refl _ _, all := fun e => (by cases e), fin := fun e => (by cases e), d0 := fun e => (by cases e), d1 := fun e => (by cases e), d2 := fun e => (by cases e), d3 := fun e => (by cases e), d4 := fun e => (by cases e), d5 := fun e => (by cases e), d6 := fun e => (by cases e), d8 := fun e => (by cases e) }
            case step =>
              rintro lb9 ac9 w3 ⟨l0, l1, l2, l3, l4, l5, l6, l7, l8, s0, s1, s2, s3, s4, s5, s6, s8, rfl, rfl, h⟩
              intro q9 hq
              have hlt9 := ready_ltN hq
              match q9, hq, hlt9 with
              | 0, hq, _ =>
                have hr := ready_depN hq rfl
                have hme : l0 = false := hr.1
                have hT : l7 = false := by
                  cases hc9 : l7 with
                  | false => rfl
                  | true => exact absurd (h.all hc9).1 (by rw [hme]; decide)
                have hbel := h.bel hT
                clear hr hq
                refine wpOp_runN rfl rfl (fun K hK => ?_)
                go_simp
                refine hK _ _ ⟨true, l1, l2, l3, l4, l5, l6, l7, l8, _, _, _, _, _, _, _, _, rfl, rfl, ?_⟩
                exact { bel := h.bel, all := fun e => (by rw [hT] at e; cases e), fin := fun e => (by rw [hT] at e; cases e), d0 := fun _ => ⟨rfl, trivial⟩, d1 := fun e => absurd (h.d1 e).2 (by rw [hme]; decide), d2 := h.d2, d3 := h.d3, d4 := h.d4, d5 := h.d5, d6 := h.d6, d8 := fun e => absurd (h.d8 e).2.1 (by rw [hme]; decide) }
              | 1, hq, _ =>
                have hr := ready_depN hq rfl
                have hme : l1 = false := hr.1
                have e0 : l0 = true := hr.2 ⟨0, .data⟩ (by simp) (by kernel_rfl)
                have hT : l7 = false := by
                  cases hc9 : l7 with
                  | false => rfl
                  | true => exact absurd (h.all hc9).2.1 (by rw [hme]; decide)
                have hbel := h.bel hT
                obtain rfl := (h.d0 e0).1
                have x3 := HXP9.out w3 hbel
                obtain ⟨c0, c1⟩ := x3.cells
                have ch := x3.heap
                have cl := x3.lt
                clear hr hq
                refine wpOp_runN rfl rfl (fun K hK => ?_)
                go_simp
                refine hK _ _ ⟨l0, true, l2, l3, l4, l5, l6, l7, l8, _, _, _, _, _, _, _, _, rfl, rfl, ?_⟩
                exact { bel := h.bel, all := fun e => (by rw [hT] at e; cases e), fin := fun e => (by rw [hT] at e; cases e), d0 := h.d0, d1 := fun _ => ⟨rfl, e0⟩, d2 := fun e => absurd (h.d2 e).2 (by rw [hme]; decide), d3 := h.d3, d4 := h.d4, d5 := h.d5, d6 := h.d6, d8 := fun e => absurd (h.d8 e).2.2.1 (by rw [hme]; decide) }
              | 2, hq, _ =>
                have hr := ready_depN hq rfl
                have hme : l2 = false := hr.1
                have e1 : l1 = true := hr.2 ⟨1, .data⟩ (by simp) (by kernel_rfl)
                have hT : l7 = false := by
                  cases hc9 : l7 with
                  | false => rfl
                  | true => exact absurd (h.all hc9).2.2.1 (by rw [hme]; decide)
                have hbel := h.bel hT
                obtain rfl := (h.d1 e1).1
                clear hr hq
                refine wpOp_runN rfl rfl (fun K hK => ?_)
                go_simp
                go_at_call 53
                refine Calls.mono (GO1.out w3 (HBW.out w3 (HQW.out w3 hbel))) ?_
                rintro e w4 ⟨r, rfl, ho, hs4⟩
                have hbel4 := hbel.trans (hs4.mono hbel.size)
                have hnew := rw_of hbel.size (own_of2 ho)
                refine hK _ _ ⟨l0, l1, true, l3, l4, l5, l6, l7, l8, _, _, _, _, _, _, _, _, rfl, rfl, ?_⟩
                exact { bel := fun _ => hbel4, all := fun e => (by rw [hT] at e; cases e), fin := fun e => (by rw [hT] at e; cases e), d0 := h.d0, d1 := h.d1, d2 := fun _ => ⟨fun _ => hnew, e1⟩, d3 := h.d3, d4 := h.d4, d5 := fun e => absurd (h.d5 e).2.1 (by rw [hme]; decide), d6 := fun e => absurd (h.d6 e).2.1 (by rw [hme]; decide), d8 := fun e => absurd (h.d8 e).2.2.2.1 (by rw [hme]; decide) }
              | 3, hq, _ =>
                have hr := ready_depN hq rfl
                have hme : l3 = false := hr.1
                have hT : l7 = false := by
                  cases hc9 : l7 with
                  | false => rfl
                  | true => exact absurd (h.all hc9).2.2.2.1 (by rw [hme]; decide)
                have hbel := h.bel hT
                clear hr hq
                refine wpOp_runN rfl rfl (fun K hK => ?_)
                go_simp
                refine hK _ _ ⟨l0, l1, l2, true, l4, l5, l6, l7, l8, _, _, _, _, _, _, _, _, rfl, rfl, ?_⟩
                exact { bel := h.bel, all := fun e => (by rw [hT] at e; cases e), fin := fun e => (by rw [hT] at e; cases e), d0 := h.d0, d1 := h.d1, d2 := h.d2, d3 := fun _ => ⟨rfl, trivial⟩, d4 := fun e => absurd (h.d4 e).2 (by rw [hme]; decide), d5 := h.d5, d6 := h.d6, d8 := fun e => absurd (h.d8 e).2.2.2.2.1 (by rw [hme]; decide) }
              | 4, hq, _ =>
                have hr := ready_depN hq rfl
                have hme : l4 = false := hr.1
                have e3 : l3 = true := hr.2 ⟨3, .data⟩ (by simp) (by kernel_rfl)
                have hT : l7 = false := by
                  cases hc9 : l7 with
                  | false => rfl
                  | true => exact absurd (h.all hc9).2.2.2.2.1 (by rw [hme]; decide)
                have hbel := h.bel hT
                obtain rfl := (h.d3 e3).1
                have x3 := HXP9.out w3 hbel
                obtain ⟨c0, c1⟩ := x3.cells
                have ch := x3.heap
                have cl := x3.lt
                clear hr hq
                refine wpOp_runN rfl rfl (fun K hK => ?_)
                go_simp
                refine hK _ _ ⟨l0, l1, l2, l3, true, l5, l6, l7, l8, _, _, _, _, _, _, _, _, rfl, rfl, ?_⟩
                exact { bel := h.bel, all := fun e => (by rw [hT] at e; cases e), fin := fun e => (by rw [hT] at e; cases e), d0 := h.d0, d1 := h.d1, d2 := h.d2, d3 := h.d3, d4 := fun _ => ⟨rfl, e3⟩, d5 := fun e => absurd (h.d5 e).2.2 (by rw [hme]; decide), d6 := h.d6, d8 := fun e => absurd (h.d8 e).2.2.2.2.2.1 (by rw [hme]; decide) }
              | 5, hq, _ =>
                have hr := ready_depN hq rfl
                have hme : l5 = false := hr.1
                have e2 : l2 = true := hr.2 ⟨2, .chain⟩ (by simp) (by kernel_rfl)
                have e4 : l4 = true := hr.2 ⟨4, .data⟩ (by simp) (by kernel_rfl)
                have hT : l7 = false := by
                  cases hc9 : l7 with
                  | false => rfl
                  | true => exact absurd (h.all hc9).2.2.2.2.2.1 (by rw [hme]; decide)
                have hbel := h.bel hT
                obtain rfl := (h.d4 e4).1
                clear hr hq
                refine wpOp_runN rfl rfl (fun K hK => ?_)
                go_simp
                go_at_call 53
                refine Calls.mono (GO2.out w3 (HBW.out w3 (HQW.out w3 hbel))) ?_
                rintro e w4 ⟨r, rfl, ho, hs4⟩
                have hbel4 := hbel.trans (hs4.mono hbel.size)
                have hnew := rw2_of hbel.size ((h.d2 e2).1 hT) (own_of2 ho)
                refine hK _ _ ⟨l0, l1, l2, l3, l4, true, l6, l7, l8, _, _, _, _, _, _, _, _, rfl, rfl, ?_⟩
                exact { bel := fun _ => hbel4, all := fun e => (by rw [hT] at e; cases e), fin := fun e => (by rw [hT] at e; cases e), d0 := h.d0, d1 := h.d1, d2 := fun e => ⟨fun hx => ((h.d2 e).1 hx).below hs4, (h.d2 e).2⟩, d3 := h.d3, d4 := h.d4, d5 := fun _ => ⟨fun _ => hnew, e2, e4⟩, d6 := fun e => absurd (h.d6 e).2.2 (by rw [hme]; decide), d8 := fun e => absurd (h.d8 e).2.2.2.2.2.2.1 (by rw [hme]; decide) }
              | 6, hq, _ =>
                have hr := ready_depN hq rfl
                have hme : l6 = false := hr.1
                have e2 : l2 = true := hr.2 ⟨2, .data⟩ (by simp) (by kernel_rfl)
                have e5 : l5 = true := hr.2 ⟨5, .data⟩ (by simp) (by kernel_rfl)
                have hT : l7 = false := by
                  cases hc9 : l7 with
                  | false => rfl
                  | true => exact absurd (h.all hc9).2.2.2.2.2.2 (by rw [hme]; decide)
                have hbel := h.bel hT
                obtain ⟨u3a, u3n, u3c, rfl⟩ := ((h.d2 e2).1 hT).shape
                obtain ⟨u9a, u9n, u9c, rfl⟩ := ((h.d5 e5).1 hT).shape
                clear hr hq
                refine wpOp_runN rfl rfl (fun K hK => ?_)
                go_simp
                refine hK _ _ ⟨l0, l1, l2, l3, l4, l5, true, l7, l8, _, _, _, _, _, _, _, _, rfl, rfl, ?_⟩
                exact { bel := h.bel, all := fun e => (by rw [hT] at e; cases e), fin := fun e => (by rw [hT] at e; cases e), d0 := h.d0, d1 := h.d1, d2 := h.d2, d3 := h.d3, d4 := h.d4, d5 := h.d5, d6 := fun _ => ⟨rfl, e2, e5⟩, d8 := fun e => absurd (h.d8 e).2.2.2.2.2.2.2.1 (by rw [hme]; decide) }
              | 7, hq, _ =>
                have hr := ready_depN hq rfl
                have hme : l7 = false := hr.1
                have e0 : l0 = true := hr.2 ⟨0, .phase⟩ (by simp) (by kernel_rfl)
                have e1 : l1 = true := hr.2 ⟨1, .phase⟩ (by simp) (by kernel_rfl)
                have e2 : l2 = true := hr.2 ⟨2, .phase⟩ (by simp) (by kernel_rfl)
                have e3 : l3 = true := hr.2 ⟨3, .phase⟩ (by simp) (by kernel_rfl)
                have e4 : l4 = true := hr.2 ⟨4, .phase⟩ (by simp) (by kernel_rfl)
                have e5 : l5 = true := hr.2 ⟨5, .chain⟩ (by simp) (by kernel_rfl)
                have e6 : l6 = true := hr.2 ⟨6, .data⟩ (by simp) (by kernel_rfl)
                have hbel := h.bel hme
                obtain rfl := (h.d0 e0).1
                obtain rfl := (h.d1 e1).1
                obtain rfl := (h.d3 e3).1
                obtain rfl := (h.d4 e4).1
                obtain rfl := (h.d6 e6).1
                have y3 := HYP9.out w3 hbel
                obtain ⟨k0, k1⟩ := y3.cells
                have kh := y3.heap
                have kl := y3.lt
                have kf0 := y3.frozen 0
                have kf1 := y3.frozen 1
                clear hr hq
                have hF2 := (h.d2 e2).1 hme
                have hF5 := (h.d5 e5).1 hme
                refine wpOp_runN rfl rfl (fun K hK => ?_)
                obtain ⟨u3a, u3n, u3c, rfl⟩ := hF2.shape
                obtain ⟨u9a, u9n, u9c, rfl⟩ := hF5.shape
                go_simp
                refine hK _ _ ⟨l0, l1, l2, l3, l4, l5, l6, true, l8, _, _, _, _, _, _, _, _, rfl, rfl, ?_⟩
                exact { bel := fun e => (by cases e), all := fun _ => ⟨e0, e1, e2, e3, e4, e5, e6⟩, fin := fun _ => ⟨w3, hbel, rfl, hF2, hF5⟩, d0 := h.d0, d1 := h.d1, d2 := fun e => ⟨fun e9 => (by cases e9), (h.d2 e).2⟩, d3 := h.d3, d4 := h.d4, d5 := fun e => ⟨fun e9 => (by cases e9), (h.d5 e).2⟩, d6 := h.d6, d8 := fun e => absurd (h.d8 e).2.2.2.2.2.2.2.2 (by rw [hme]; decide) }
              | 8, hq, _ =>
                have hr := ready_depN hq rfl
                have hme : l8 = false := hr.1
                have e0 : l0 = true := hr.2 ⟨0, .phase⟩ (by simp) (by kernel_rfl)
                have e1 : l1 = true := hr.2 ⟨1, .phase⟩ (by simp) (by kernel_rfl)
                have e2 : l2 = true := hr.2 ⟨2, .phase⟩ (by simp) (by kernel_rfl)
                have e3 : l3 = true := hr.2 ⟨3, .phase⟩ (by simp) (by kernel_rfl)
                have e4 : l4 = true := hr.2 ⟨4, .phase⟩ (by simp) (by kernel_rfl)
                have e5 : l5 = true := hr.2 ⟨5, .phase⟩ (by simp) (by kernel_rfl)
                have e6 : l6 = true := hr.2 ⟨6, .phase⟩ (by simp) (by kernel_rfl)
                have e7 : l7 = true := hr.2 ⟨7, .chain⟩ (by simp) (by kernel_rfl)
                obtain rfl := (h.d0 e0).1
                obtain rfl := (h.d1 e1).1
                obtain rfl := (h.d3 e3).1
                obtain rfl := (h.d4 e4).1
                obtain rfl := (h.d6 e6).1
                clear hr hq
                refine wpOp_runN rfl rfl (fun K hK => ?_)
                go_simp
                refine hK _ _ ⟨l0, l1, l2, l3, l4, l5, l6, l7, true, _, _, _, _, _, _, _, _, rfl, rfl, ?_⟩
                exact { bel := h.bel, all := h.all, fin := h.fin, d0 := h.d0, d1 := h.d1, d2 := h.d2, d3 := h.d3, d4 := h.d4, d5 := h.d5, d6 := h.d6, d8 := fun _ => ⟨rfl, e0, e1, e2, e3, e4, e5, e6, e7⟩ }
              | k + 9, hq, h18 => exact (Nat.not_lt_of_le (Nat.le_add_left 9 k) h18).elim
            case done =>
              rintro lb9 ac9 w3 ⟨l0, l1, l2, l3, l4, l5, l6, l7, l8, s0, s1, s2, s3, s4, s5, s6, s8, rfl, rfl, h⟩ hr
              cases l0
              · exact (ready_none2N hr 0 rfl rfl rfl).elim
              cases l1
              · exact (ready_none2N hr 1 rfl rfl rfl).elim
              cases l2
              · exact (ready_none2N hr 2 rfl rfl rfl).elim
              cases l3
              · exact (ready_none2N hr 3 rfl rfl rfl).elim
              cases l4
              · exact (ready_none2N hr 4 rfl rfl rfl).elim
              cases l5
              · exact (ready_none2N hr 5 rfl rfl rfl).elim
              cases l6
              · exact (ready_none2N hr 6 rfl rfl rfl).elim
              cases l7
              · exact (ready_none2N hr 7 rfl rfl rfl).elim
              cases l8
              · exact (ready_none2N hr 8 rfl rfl rfl).elim
              obtain rfl := (h.d0 rfl).1
              obtain rfl := (h.d1 rfl).1
              obtain rfl := (h.d3 rfl).1
              obtain rfl := (h.d4 rfl).1
              obtain rfl := (h.d6 rfl).1
              obtain rfl := (h.d8 rfl).1
              obtain ⟨w4, hbel, rfl, hF2, hF5⟩ := h.fin rfl
              clear h hr
              obtain ⟨u3a, u3n, u3c, rfl⟩ := hF2.shape
              obtain ⟨u9a, u9n, u9c, rfl⟩ := hF5.shape
              have y4 := ((HYP9.out w4 hbel).set0 (.slice u3a u3n u3c)).set1 (.slice u9a u9n u9c)
              have hZW := HZW.out
              have HOL : Hid (OwnLa ((w4.setCell ⟨w.heap.size + 1, 0, none⟩ (.slice u3a u3n u3c)).setCell ⟨w.heap.size + 1, 1, none⟩ (.slice u9a u9n u9c)) w.heap.size ((w4.setCell ⟨w.heap.size + 1, 0, none⟩ (.slice u3a u3n u3c)).setCell ⟨w.heap.size + 1, 1, none⟩ (.slice u9a u9n u9c)).heap.size (.agg #[.slice u3a u3n u3c, .slice u9a u9n u9c]) LR) := (by
                show OwnLa _ _ _ _ _
                rw [HLR.out]
                exact (((ownLa_rw hF2 hF5).setO (b := w.heap.size + 1) (o := 0) (x := .slice u3a u3n u3c) (Or.inl (by omega))).setO (b := w.heap.size + 1) (o := 1) (x := .slice u9a u9n u9c) (Or.inl (by omega))).weak (by omega) (by rw [size_set, size_set]; exact Nat.le_refl _) (Nat.le_refl _))
              have HBE : Hid (Below w.heap.size w ((w4.setCell ⟨w.heap.size + 1, 0, none⟩ (.slice u3a u3n u3c)).setCell ⟨w.heap.size + 1, 1, none⟩ (.slice u9a u9n u9c))) := ((HBW.out w4 (HQW.out w4 hbel)).setCell (by show w.heap.size ≤ w.heap.size + 1; omega) _).setCell (by show w.heap.size ≤ w.heap.size + 1; omega) _
              have hyh := y4.heap
              clear hF2 hF5 y4
              go_wp2_with fail
              refine bodyPost_ret (results_la rfl _ _ (w.heap.size + 1) 26 _ (0, 0) _ rfl hyh Try.underlying26 rfl (by kernel_rfl)) rfl ?_
              exact ⟨_, rfl, HOL.out, HBE.out⟩
end Go.Proofs.Ythamdefkcjfjpaa
