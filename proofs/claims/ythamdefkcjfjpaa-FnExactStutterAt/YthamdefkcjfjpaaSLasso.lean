/-
  The model's lassos: whether one is good, a letter of its word, letters from a place on.
-/
import Derived.Test.YthamdefkcjfjpaaLasso
import Derived.Test.YthamdefkcjfjpaaGood
import Derived.BigQuiet
import Derived.WalkSmall
namespace Go.Proofs.Ythamdefkcjfjpaa
open Go Go.RowKit
open M
set_option linter.unusedVariables false

theorem goodLa_def (l : La) : goodLa l = (decide (l.1.length ≤ 24) && decide (1 ≤ l.2.length ∧ l.2.length ≤ 24) && l.1.all (btw 0 7) && l.2.all (btw 0 7)) := rfl
set_option maxRecDepth 100000 in
set_option maxHeartbeats 2000000 in
theorem sGoodLasso_any (v : Value) (l : La) (w : World) (h : AtLa w v l) :
    Calls Try.prog 21 #[v] w fun e w' => e = .returned (.bool (goodLa l)) ∧ Below w.heap.size w w' := by
  obtain ⟨g, o, rfl, h1, h2⟩ := h
  have G1 : Hid (∀ w1 : World, Below w.heap.size w w1 → Calls Try.prog 56 #[g, .int .i64 0, .int .i64 7] w1 fun e w' => e = .returned (.bool (l.1.all (btw 0 7))) ∧ w' = w1) := fun w1 hb => l1All_any g l.1 0 7 w1 (h1.below hb)
  have G2 : Hid (∀ w1 : World, Below w.heap.size w w1 → Calls Try.prog 56 #[o, .int .i64 0, .int .i64 7] w1 fun e w' => e = .returned (.bool (l.2.all (btw 0 7))) ∧ w' = w1) := fun w1 hb => l1All_any o l.2 0 7 w1 (h2.below hb)
  have hl1 := h1.1
  have hl2 := h2.1
  obtain ⟨ga, gc, rfl⟩ := h1.shape
  obtain ⟨oa, oc, rfl⟩ := h2.shape
  have hb0 : Below w.heap.size w (w.alloc (.cells #[.slice ga l.1.length gc, .slice oa l.2.length oc] 26)) := (Below.refl _ _).alloc (Nat.le_refl _) _
  have HB0 : Hid _ := hb0
  have HE : Hid _ := goodLa_def l
  have gI := l1In_any (l.2.length : Int) 1 24 (w.alloc (.cells #[.slice ga l.1.length gc, .slice oa l.2.length oc] 26))
  have g1 := G1.out _ hb0
  have g2 := G2.out _ hb0
  clear h1 h2 hb0 G1 G2
  have hdec : decide (1 ≤ (l.2.length : Int) ∧ (l.2.length : Int) ≤ 24) = decide (1 ≤ l.2.length ∧ l.2.length ≤ 24) := by
    rw [Bool.eq_iff_iff, decide_eq_true_eq, decide_eq_true_eq]
    omega
  rw [hdec] at gI
  generalize l.1.all (btw 0 7) = A1 at *
  generalize l.2.all (btw 0 7) = A2 at *
  generalize l.1.length = n1 at *
  generalize l.2.length = n2 at *
  clear hdec
  by_cases c1 : n1 ≤ 24
  case neg =>
    rw [decide_eq_false c1] at HE
    have HF : Hid (goodLa l = false) := HE.out
    go_enter Try.func21, Try.ntmps21
    go_wp2_with fail
    go_ret
    exact ⟨ret_bool HF.out.symm, HB0.out⟩
  rw [decide_eq_true c1, Bool.true_and] at HE
  by_cases c2 : 1 ≤ n2 ∧ n2 ≤ 24
  case neg =>
    rw [decide_eq_false c2] at HE gI
    have HF : Hid (goodLa l = false) := HE.out
    clear c2
    go_enter Try.func21, Try.ntmps21
    go_wp2_with fail
    refine gI.mono ?_
    rintro e w1 ⟨rfl, rfl⟩
    go_wp2_with fail
    go_ret
    exact ⟨ret_bool HF.out.symm, HB0.out⟩
  rw [decide_eq_true c2, Bool.true_and] at HE
  rw [decide_eq_true c2] at gI
  clear c2
  cases A1 with
  | false =>
    have HF : Hid (goodLa l = false) := HE.out
    go_enter Try.func21, Try.ntmps21
    go_wp2_with fail
    refine gI.mono ?_
    rintro e w1 ⟨rfl, rfl⟩
    go_wp2_with fail
    refine g1.mono ?_
    rintro e w1 ⟨rfl, rfl⟩
    go_wp2_with fail
    go_ret
    exact ⟨ret_bool HF.out.symm, HB0.out⟩
  | true =>
    rw [Bool.true_and] at HE
    go_enter Try.func21, Try.ntmps21
    go_wp2_with fail
    refine gI.mono ?_
    rintro e w1 ⟨rfl, rfl⟩
    go_wp2_with fail
    refine g1.mono ?_
    rintro e w1 ⟨rfl, rfl⟩
    go_wp2_with fail
    refine g2.mono ?_
    rintro e w1 ⟨rfl, rfl⟩
    go_wp2_with fail
    go_ret
    exact ⟨ret_bool HE.out.symm, HB0.out⟩
/-- where the letter of a place lies -/
theorem let_loop_at {l : La} {k : Nat} (hp : 1 ≤ l.2.length) (hk : l.1.length ≤ k) : l.2[(k - l.1.length) % l.2.length]? = some (letL l k) := by
  have hlt := Nat.mod_lt (k - l.1.length) (show 0 < l.2.length by omega)
  obtain ⟨x, hx⟩ : ∃ x, l.2[(k - l.1.length) % l.2.length]? = some x := ⟨_, List.getElem?_eq_getElem hlt⟩
  rw [hx, letL_loop hk hx]
theorem let_stem_at {l : La} {k : Nat} (hk : k < l.1.length) : l.1[k]? = some (letL l k) := by
  obtain ⟨x, hx⟩ : ∃ x, l.1[k]? = some x := ⟨_, List.getElem?_eq_getElem hk⟩
  rw [hx, letL_stem hx]
theorem int_mod (k n p : Nat) (hk : n ≤ k) : ((k : Int) - (n : Int)).tmod (p : Int) = (((k - n) % p : Nat) : Int) := by
  rw [show (k : Int) - (n : Int) = ((k - n : Nat) : Int) from by omega]
  rfl
set_option maxRecDepth 100000 in
set_option maxHeartbeats 2000000 in
theorem l9At_any (v : Value) (l : La) (hg : goodLa l = true) (k : Nat) (hk : k ≤ 2000) (w : World) (h : AtLa w v l) :
    Calls Try.prog 61 #[v, .int .i64 k] w fun e w' => e = .returned (.int .i64 (letL l k)) ∧ Below w.heap.size w w' := by
  obtain ⟨g, o, rfl, h1, h2⟩ := h
  obtain ⟨q1, q2, q3⟩ := good_lens hg
  obtain ⟨ga, gc, rfl, hc1⟩ := h1.opened
  obtain ⟨oa, oc, rfl, hc2⟩ := h2.opened
  have HB0 : Hid (Below w.heap.size w (w.alloc (.cells #[.slice ga l.1.length gc, .slice oa l.2.length oc] 26))) := (Below.refl _ _).alloc (Nat.le_refl _) _
  have HBD : Hid (Below w.heap.size w (w.alloc (.cells #[.slice ga l.1.length gc, .slice oa l.2.length oc] 26)).drew) := HB0.out.drew
  have x0 := box2_alloc w 26 (.slice ga l.1.length gc) (.slice oa l.2.length oc)
  by_cases hlt : k < l.1.length
  · obtain ⟨b, off, rfl, hb, cc⟩ := hc1 k _ (let_stem_at hlt)
    have cc1 := cc
    rw [← HB0.out.cell (p := ⟨b, off + k, none⟩) hb] at cc1
    generalize letL l k = X at *
    generalize l.1.length = n1 at *
    generalize l.2.length = n2 at *
    obtain ⟨a0, a1⟩ := x0.cells
    have ah := x0.heap
    have al := x0.lt
    clear hc1 hc2 h1 h2 hg cc x0
    go_enter Try.func61, Try.ntmps61
    go_wp2_with fail
    go_ret
    exact ⟨rfl, HB0.out⟩
  · obtain ⟨b, off, rfl, hb, cc⟩ := hc2 _ _ (let_loop_at q2 (by omega : l.1.length ≤ k))
    have cc1 := cc
    rw [← HB0.out.cell (p := ⟨b, off + (k - l.1.length) % l.2.length, none⟩) hb] at cc1
    have hmod := int_mod k l.1.length l.2.length (by omega)
    have hml := Nat.mod_lt (k - l.1.length) (show 0 < l.2.length by omega)
    generalize letL l k = X at *
    generalize l.1.length = n1 at *
    generalize l.2.length = n2 at *
    generalize (k - n1) % n2 = R at *
    obtain ⟨a0, a1⟩ := x0.cells
    have ah := x0.heap
    have al := x0.lt
    clear hc1 hc2 h1 h2 hg cc x0
    go_enter Try.func61, Try.ntmps61
    go_wp2_with fail
    go_quiet (fail)
    go_wp2_with fail
    go_ret
    exact ⟨rfl, below_drewN HB0.out _⟩
end Go.Proofs.Ythamdefkcjfjpaa
