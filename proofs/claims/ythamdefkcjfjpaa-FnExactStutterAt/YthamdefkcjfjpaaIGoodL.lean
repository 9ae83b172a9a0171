/-
  The program's goodLetters, GoodLasso, goodAt.
-/
import Derived.Test.YthamdefkcjfjpaaSLasso
namespace Go.Proofs.Ythamdefkcjfjpaa
open Go Go.RowKit
open M
set_option linter.unusedVariables false
set_option linter.unusedSimpArgs false

theorem goodLetter_any (x : Int) (w : World) :
    Calls Try.prog 72 #[.int .i64 x] w fun e w' => e = .returned (.bool (!btw 0 7 x)) ∧ w' = w := by
  by_cases h1 : x < 0
  · have hb : btw 0 7 x = false := decide_eq_false (by omega)
    rw [hb]
    go_enter Try.func72, Try.ntmps72
    go_wp2
    go_ret
    exact ⟨rfl, rfl⟩
  · by_cases h2 : 8 ≤ x
    · have hb : btw 0 7 x = false := decide_eq_false (by omega)
      rw [hb]
      go_enter Try.func72, Try.ntmps72
      go_wp2
      go_ret
      exact ⟨rfl, rfl⟩
    · have hb : btw 0 7 x = true := decide_eq_true (by omega)
      rw [hb]
      go_enter Try.func72, Try.ntmps72
      go_wp2
      go_ret
      exact ⟨rfl, rfl⟩
set_option maxRecDepth 100000 in
set_option maxHeartbeats 2000000 in
theorem indexI_any (v : Value) (t : List Int) (w : World) (h : IntsAt w v t) :
    Calls Try.prog 74 #[v, .func (.func 72) #[] #[]] w fun e w' => ∃ k : Int, e = .returned (.int .i64 k) ∧ (decide (0 ≤ k) = !(t.all (btw 0 7))) ∧ -1 ≤ k ∧ k ≤ 9223372036854775807 ∧ w' = w := by
  have hl := h.1
  obtain ⟨a, cap, rfl, hc⟩ := h.opened
  clear h
  go_enter Try.func74, Try.ntmps74
  go_wp2_with fail
  go_loop [8] (fun i => ∃ j : Nat, j ≤ t.length ∧ i = .int .i64 j ∧ Hid ((t.take j).all (btw 0 7) = true)) (fun i => t.length - (intOf i).toNat)
  case atStart => exact ⟨0, by omega, rfl, rfl⟩
  case round =>
    obtain ⟨j, hj, rfl, HA⟩ := hrel
    by_cases hlt : j < t.length
    · obtain ⟨x, hx⟩ : ∃ x, t[j]? = some x := ⟨t[j], List.getElem?_eq_getElem hlt⟩
      obtain ⟨b, off, rfl, hb, c0⟩ := hc j x hx
      have g := goodLetter_any x w
      have HX : Hid (t[j]? = some x) := hx
      clear hc hx
      rcases Bool.eq_false_or_eq_true (btw 0 7 x) with hp | hp
      · rw [hp] at g
        have HN : Hid ((t.take (j + 1)).all (btw 0 7) = true) := all_take_snoc HX.out HA.out hp
        clear hp
        go_wp2_with fail
        refine g.mono ?_
        rintro e w1 ⟨rfl, rfl⟩
        clear g
        go_wp2_with fail
        go_round
        case rel => exact ⟨j + 1, by omega, by go_num, HN⟩
        case measure => simp [intOf]; omega
      · rw [hp] at g
        have HN : Hid (decide (0 ≤ (j : Int)) = !(t.all (btw 0 7))) := by
          show _ = _
          rw [all_false HX.out hp]
          exact decide_eq_true (by omega)
        clear hp
        go_wp2_with fail
        refine g.mono ?_
        rintro e w1 ⟨rfl, rfl⟩
        clear g
        go_wp2_with fail
        go_ret
        exact ⟨_, rfl, HN.out, by omega, by omega, rfl⟩
    · obtain rfl : j = t.length := by omega
      have HN : Hid (decide (0 ≤ (-1 : Int)) = !(t.all (btw 0 7))) := by
        have h1 := HA.out
        rw [List.take_length] at h1
        show _ = _
        rw [h1]
        rfl
      clear hc HA
      go_wp2_with fail
      go_ret
      exact ⟨_, rfl, HN.out, by omega, by omega, rfl⟩
set_option maxRecDepth 100000 in
theorem containsI_any (v : Value) (t : List Int) (w : World) (h : IntsAt w v t) :
    Calls Try.prog 71 #[v, .func (.func 72) #[] #[]] w fun e w' => e = .returned (.bool (!(t.all (btw 0 7)))) ∧ w' = w := by
  have g := indexI_any v t w h
  obtain ⟨a, cap, rfl⟩ := h.shape
  generalize (!(t.all (btw 0 7))) = B at *
  generalize t.length = n at *
  clear h
  go_enter Try.func71, Try.ntmps71
  go_wp2_with fail
  refine g.mono ?_
  rintro e w1 ⟨k, rfl, hk, hk1, hk2, rfl⟩
  have HK : Hid _ := hk
  clear g hk
  go_wp2_with fail
  go_ret
  exact ⟨ret_bool HK.out, rfl⟩
set_option maxRecDepth 100000 in
theorem goodLetters_any (v : Value) (t : List Int) (w : World) (h : IntsAt w v t) :
    Calls Try.prog 54 #[v] w fun e w' => e = .returned (.bool (t.all (btw 0 7))) ∧ w' = w := by
  have g := containsI_any v t w h
  obtain ⟨a, cap, rfl⟩ := h.shape
  generalize t.all (btw 0 7) = B at *
  generalize t.length = n at *
  clear h
  cases B with
  | false =>
    go_enter Try.func54, Try.ntmps54
    go_wp2_with fail
    refine g.mono ?_
    rintro e w1 ⟨rfl, rfl⟩
    clear g
    go_wp2_with fail
    go_ret
    exact ⟨rfl, rfl⟩
  | true =>
    go_enter Try.func54, Try.ntmps54
    go_wp2_with fail
    refine g.mono ?_
    rintro e w1 ⟨rfl, rfl⟩
    clear g
    go_wp2_with fail
    go_ret
    exact ⟨rfl, rfl⟩
set_option maxRecDepth 100000 in
set_option maxHeartbeats 2000000 in
theorem iGoodLasso_any (v : Value) (l : La) (w : World) (h : AtLa w v l) :
    Calls Try.prog 20 #[v] w fun e w' => e = .returned (.bool (goodLa l)) ∧ Below w.heap.size w w' := by
  obtain ⟨g, o, rfl, h1, h2⟩ := h
  have G1 : Hid (∀ w1 : World, Below w.heap.size w w1 → Calls Try.prog 54 #[g] w1 fun e w' => e = .returned (.bool (l.1.all (btw 0 7))) ∧ w' = w1) := fun w1 hb => goodLetters_any g l.1 w1 (h1.below hb)
  have G2 : Hid (∀ w1 : World, Below w.heap.size w w1 → Calls Try.prog 54 #[o] w1 fun e w' => e = .returned (.bool (l.2.all (btw 0 7))) ∧ w' = w1) := fun w1 hb => goodLetters_any o l.2 w1 (h2.below hb)
  have hl1 := h1.1
  have hl2 := h2.1
  obtain ⟨ga, gc, rfl⟩ := h1.shape
  obtain ⟨oa, oc, rfl⟩ := h2.shape
  have hb0 : Below w.heap.size w (w.alloc (.cells #[.slice ga l.1.length gc, .slice oa l.2.length oc] 26)) := (Below.refl _ _).alloc (Nat.le_refl _) _
  have HB0 : Hid _ := hb0
  have HE : Hid _ := goodLa_def l
  have g1 := G1.out _ hb0
  have g2 := G2.out _ hb0
  clear h1 h2 hb0 G1 G2
  generalize l.1.all (btw 0 7) = A1 at *
  generalize l.2.all (btw 0 7) = A2 at *
  generalize l.1.length = n1 at *
  generalize l.2.length = n2 at *
  by_cases c1 : n1 ≤ 24
  case neg =>
    rw [decide_eq_false c1] at HE
    have HF : Hid (goodLa l = false) := HE.out
    have c1' : 24 < n1 := by omega
    go_enter Try.func20, Try.ntmps20
    go_wp2_with fail
    go_ret
    exact ⟨ret_bool HF.out.symm, HB0.out⟩
  rw [decide_eq_true c1, Bool.true_and] at HE
  by_cases c2 : 1 ≤ n2
  case neg =>
    rw [decide_eq_false (fun h => c2 h.1)] at HE
    have HF : Hid (goodLa l = false) := HE.out
    obtain rfl : n2 = 0 := by omega
    clear c2
    go_enter Try.func20, Try.ntmps20
    go_wp2_with fail
    go_ret
    exact ⟨ret_bool HF.out.symm, HB0.out⟩
  by_cases c3 : n2 ≤ 24
  case neg =>
    rw [decide_eq_false (fun h => c3 h.2)] at HE
    have HF : Hid (goodLa l = false) := HE.out
    have c3' : 24 < n2 := by omega
    go_enter Try.func20, Try.ntmps20
    go_wp2_with fail
    go_ret
    exact ⟨ret_bool HF.out.symm, HB0.out⟩
  rw [decide_eq_true ⟨c2, c3⟩, Bool.true_and] at HE
  cases A1 with
  | false =>
    have HF : Hid (goodLa l = false) := HE.out
    go_enter Try.func20, Try.ntmps20
    go_wp2_with fail
    refine g1.mono ?_
    rintro e w1 ⟨rfl, rfl⟩
    go_wp2_with fail
    go_ret
    exact ⟨ret_bool HF.out.symm, HB0.out⟩
  | true =>
    rw [Bool.true_and] at HE
    go_enter Try.func20, Try.ntmps20
    go_wp2_with fail
    refine g1.mono ?_
    rintro e w1 ⟨rfl, rfl⟩
    go_wp2_with fail
    refine g2.mono ?_
    rintro e w1 ⟨rfl, rfl⟩
    go_wp2_with fail
    go_ret
    exact ⟨ret_bool HE.out.symm, HB0.out⟩
/-- a good lasso and a place -/
def atB (l : La) (k : Int) : Bool := goodLa l && decide (0 ≤ k ∧ k ≤ 1000)
set_option maxRecDepth 100000 in
theorem goodAt_any (v : Value) (l : La) (k : Int) (w : World) (h : AtLa w v l) :
    Calls Try.prog 58 #[v, .int .i64 k] w fun e w' => e = .returned (.bool (atB l k)) ∧ Below w.heap.size w w' := by
  have HG : Hid (∀ w1 : World, Below w.heap.size w w1 → Calls Try.prog 20 #[v] w1 fun e w' => e = .returned (.bool (goodLa l)) ∧ Below w1.heap.size w1 w') := fun w1 hb => iGoodLasso_any v l w1 (h.below hb)
  obtain ⟨ga, gn, gc, oa, on, oc, rfl⟩ := h.shape
  have HB0 : Hid (Below w.heap.size w (w.alloc (.cells #[.slice ga gn gc, .slice oa on oc] 26))) := (Below.refl _ _).alloc (Nat.le_refl _) _
  have g := HG.out _ HB0.out
  have HE : Hid (atB l k = (goodLa l && decide (0 ≤ k ∧ k ≤ 1000))) := rfl
  clear h HG
  rcases Bool.eq_false_or_eq_true (goodLa l) with hg | hg
  · rw [hg] at g HE
    by_cases h1 : 0 ≤ k
    · by_cases h2 : k ≤ 1000
      · rw [decide_eq_true ⟨h1, h2⟩] at HE
        clear hg
        go_enter Try.func58, Try.ntmps58
        go_wp2_with fail
        refine g.mono ?_
        rintro e w1 ⟨rfl, hs⟩
        have HB1 : Hid (Below w.heap.size w w1) := HB0.out.trans (hs.mono HB0.out.size)
        clear g hs
        go_wp2_with fail
        go_ret
        exact ⟨ret_bool HE.out.symm, HB1.out⟩
      · rw [decide_eq_false (fun h => h2 h.2)] at HE
        clear hg
        go_enter Try.func58, Try.ntmps58
        go_wp2_with fail
        refine g.mono ?_
        rintro e w1 ⟨rfl, hs⟩
        have HB1 : Hid (Below w.heap.size w w1) := HB0.out.trans (hs.mono HB0.out.size)
        clear g hs
        go_wp2_with fail
        go_ret
        exact ⟨ret_bool ((decide_eq_false (by omega)).trans HE.out.symm), HB1.out⟩
    · rw [decide_eq_false (fun h => h1 h.1)] at HE
      clear hg
      go_enter Try.func58, Try.ntmps58
      go_wp2_with fail
      refine g.mono ?_
      rintro e w1 ⟨rfl, hs⟩
      have HB1 : Hid (Below w.heap.size w w1) := HB0.out.trans (hs.mono HB0.out.size)
      clear g hs
      go_wp2_with fail
      go_ret
      exact ⟨ret_bool HE.out.symm, HB1.out⟩
  · rw [hg] at g HE
    have HF : Hid (atB l k = false) := HE.out
    clear hg
    go_enter Try.func58, Try.ntmps58
    go_wp2_with fail
    refine g.mono ?_
    rintro e w1 ⟨rfl, hs⟩
    have HB1 : Hid (Below w.heap.size w w1) := HB0.out.trans (hs.mono HB0.out.size)
    clear g hs
    go_wp2_with fail
    go_ret
    exact ⟨ret_bool HF.out.symm, HB1.out⟩
end Go.Proofs.Ythamdefkcjfjpaa
