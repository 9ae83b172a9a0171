/-
  StateFrom at any arguments: the program's and the model's.
  The model's bits of a state.
  The model's BitsOf, at any arguments.
  The law of bits and words, there and back.
-/
import Derived.Test.YtpjllhlbdcanlaaDoorKLBitsBack1
import Derived.Test.YtpjllhlbdcanlaaDoorDraw2
namespace Go.Proofs.YtpjllhlbdcanlaaDoor
open Go Go.RowKit
open M
set_option linter.unusedVariables false
set_option linter.unusedSimpArgs false

set_option maxRecDepth 100000 in
set_option maxHeartbeats 2000000 in
theorem iStateFrom_any_1 (v : Value) (l : List Bool) (w : World) (h : AtBC w v l) :
    Calls Tryd.prog 13 #[.int .i64 1, v] w fun e w' => ∃ r, e = .returned (.tuple #[r, .bool (stateOk 1 l)]) ∧ OwnUS w' w.heap.size w'.heap.size r (stateR 1 l) ∧ Below w.heap.size w w' := by
  obtain ⟨a, cap, rfl⟩ := h.1.1.shape
  have hln := h.1.1.1
  have g1 := goodLaid_any 1 w
  rw [decide_eq_true (by omega)] at g1
  by_cases hm : l.length % 1 = 0
  · obtain ⟨m, hmm⟩ : ∃ m, l.length / 1 = m := ⟨_, rfl⟩
    obtain rfl : m = l.length := by omega
    by_cases hm4 : 1 ≤ l.length ∧ l.length ≤ 4
    · have hb : stateOk 1 l = true := by
        unfold stateOk
        rw [show ((1 : Int).toNat) = 1 from rfl, hmm, decide_eq_true hm4, decide_eq_true hm]
        decide
      have hr : stateR 1 l = stateL 1 l.length l := by unfold stateR; rw [if_pos hb, show ((1 : Int).toNat) = 1 from rfl, hmm]
      rw [hb, hr]
      rcases h.1.opened with ⟨e, _⟩ | ⟨g, cap', hv, hlt, hcm, hc⟩
      · subst e
        simp at hm4
      · injection hv with e1 e2 e3
        subst e1 e3
        have hcap := h.2 _ _ _ rfl
        refine (iState_1 g 0 cap l.length l.length l rfl (by omega) hm4.1 hm4.2 hcap hcm w hlt hc).mono ?_
        rintro e w' ⟨r, he, ho, hb⟩
        exact ⟨r, he, rowIn_of ho, hb⟩
    · have hb : stateOk 1 l = false := by
        unfold stateOk
        rw [show ((1 : Int).toNat) = 1 from rfl, hmm, decide_eq_false hm4, Bool.and_false, Bool.and_false]
      rw [hb, stateR_no hb]
      have g2 := goodVars_no (l.length : Int) (by omega) w
      have hn0 : (0 : Int) ≤ (l.length : Int) := by omega
      clear hm hmm hm4 h hb
      generalize l.length = n at *
      go_enter Tryd.func13, Tryd.ntmps13
      go_wp2_with fail
      refine g1.mono ?_
      rintro e w1 ⟨rfl, rfl⟩
      go_wp2_with fail
      refine g2.mono ?_
      rintro e w1 ⟨rfl, rfl⟩
      go_wp2_with fail
      go_ret2
      exact ⟨_, rfl, own_nilU _ _ _ (Nat.le_refl _), Below.refl _ _⟩
  · exact absurd (Nat.mod_one _) hm
set_option maxRecDepth 100000 in
set_option maxHeartbeats 2000000 in
theorem iStateFrom_any_2 (v : Value) (l : List Bool) (w : World) (h : AtBC w v l) :
    Calls Tryd.prog 13 #[.int .i64 2, v] w fun e w' => ∃ r, e = .returned (.tuple #[r, .bool (stateOk 2 l)]) ∧ OwnUS w' w.heap.size w'.heap.size r (stateR 2 l) ∧ Below w.heap.size w w' := by
  obtain ⟨a, cap, rfl⟩ := h.1.1.shape
  have hln := h.1.1.1
  have g1 := goodLaid_any 2 w
  rw [decide_eq_true (by omega)] at g1
  by_cases hm : l.length % 2 = 0
  · obtain ⟨m, hmm⟩ : ∃ m, l.length / 2 = m := ⟨_, rfl⟩
    by_cases hm4 : 1 ≤ m ∧ m ≤ 4
    · have hb : stateOk 2 l = true := by
        unfold stateOk
        rw [show ((2 : Int).toNat) = 2 from rfl, hmm, decide_eq_true hm4, decide_eq_true hm]
        decide
      have hr : stateR 2 l = stateL 2 m l := by unfold stateR; rw [if_pos hb, show ((2 : Int).toNat) = 2 from rfl, hmm]
      rw [hb, hr]
      rcases h.1.opened with ⟨e, _⟩ | ⟨g, cap', hv, hlt, hcm, hc⟩
      · subst e
        simp at hmm
        omega
      · injection hv with e1 e2 e3
        subst e1 e3
        have hcap := h.2 _ _ _ rfl
        refine (iState_2 g 0 cap l.length m l rfl (by omega) hm4.1 hm4.2 hcap hcm w hlt hc).mono ?_
        rintro e w' ⟨r, he, ho, hb⟩
        exact ⟨r, he, rowIn_of ho, hb⟩
    · have hb : stateOk 2 l = false := by
        unfold stateOk
        rw [show ((2 : Int).toNat) = 2 from rfl, hmm, decide_eq_false hm4, Bool.and_false, Bool.and_false]
      rw [hb, stateR_no hb]
      have g2 := goodVars_no (m : Int) (by omega) w
      have hdiv : (l.length : Int) / 2 = m := by omega
      have hmod : (l.length : Int) % 2 = 0 := by omega
      have hn0 : (0 : Int) ≤ (l.length : Int) := by omega
      clear hm hmm hm4 h hb
      generalize l.length = n at *
      go_enter Tryd.func13, Tryd.ntmps13
      go_wp2_with fail
      refine g1.mono ?_
      rintro e w1 ⟨rfl, rfl⟩
      go_wp2_with fail
      refine g2.mono ?_
      rintro e w1 ⟨rfl, rfl⟩
      go_wp2_with fail
      go_ret2
      exact ⟨_, rfl, own_nilU _ _ _ (Nat.le_refl _), Below.refl _ _⟩
  · have hb : stateOk 2 l = false := by
      unfold stateOk
      rw [show ((2 : Int).toNat) = 2 from rfl, decide_eq_false hm, Bool.false_and, Bool.and_false]
    rw [hb, stateR_no hb]
    have hmod : ¬ (l.length : Int) % 2 = 0 := by omega
    have hn0 : (0 : Int) ≤ (l.length : Int) := by omega
    have hdiv : ((l.length : Int) % 2 == 0) = false := beq_eq_false_iff_ne.2 hmod
    clear hm h hb
    generalize l.length = n at *
    go_enter Tryd.func13, Tryd.ntmps13
    go_wp2_with fail
    refine g1.mono ?_
    rintro e w1 ⟨rfl, rfl⟩
    go_wp2_with fail
    go_ret2
    exact ⟨_, rfl, own_nilU _ _ _ (Nat.le_refl _), Below.refl _ _⟩
set_option maxRecDepth 100000 in
set_option maxHeartbeats 2000000 in
theorem iStateFrom_any_3 (v : Value) (l : List Bool) (w : World) (h : AtBC w v l) :
    Calls Tryd.prog 13 #[.int .i64 3, v] w fun e w' => ∃ r, e = .returned (.tuple #[r, .bool (stateOk 3 l)]) ∧ OwnUS w' w.heap.size w'.heap.size r (stateR 3 l) ∧ Below w.heap.size w w' := by
  obtain ⟨a, cap, rfl⟩ := h.1.1.shape
  have hln := h.1.1.1
  have g1 := goodLaid_any 3 w
  rw [decide_eq_true (by omega)] at g1
  by_cases hm : l.length % 3 = 0
  · obtain ⟨m, hmm⟩ : ∃ m, l.length / 3 = m := ⟨_, rfl⟩
    by_cases hm4 : 1 ≤ m ∧ m ≤ 4
    · have hb : stateOk 3 l = true := by
        unfold stateOk
        rw [show ((3 : Int).toNat) = 3 from rfl, hmm, decide_eq_true hm4, decide_eq_true hm]
        decide
      have hr : stateR 3 l = stateL 3 m l := by unfold stateR; rw [if_pos hb, show ((3 : Int).toNat) = 3 from rfl, hmm]
      rw [hb, hr]
      rcases h.1.opened with ⟨e, _⟩ | ⟨g, cap', hv, hlt, hcm, hc⟩
      · subst e
        simp at hmm
        omega
      · injection hv with e1 e2 e3
        subst e1 e3
        have hcap := h.2 _ _ _ rfl
        refine (iState_3 g 0 cap l.length m l rfl (by omega) hm4.1 hm4.2 hcap hcm w hlt hc).mono ?_
        rintro e w' ⟨r, he, ho, hb⟩
        exact ⟨r, he, rowIn_of ho, hb⟩
    · have hb : stateOk 3 l = false := by
        unfold stateOk
        rw [show ((3 : Int).toNat) = 3 from rfl, hmm, decide_eq_false hm4, Bool.and_false, Bool.and_false]
      rw [hb, stateR_no hb]
      have g2 := goodVars_no (m : Int) (by omega) w
      have hdiv : (l.length : Int) / 3 = m := by omega
      have hmod : (l.length : Int) % 3 = 0 := by omega
      have hn0 : (0 : Int) ≤ (l.length : Int) := by omega
      clear hm hmm hm4 h hb
      generalize l.length = n at *
      go_enter Tryd.func13, Tryd.ntmps13
      go_wp2_with fail
      refine g1.mono ?_
      rintro e w1 ⟨rfl, rfl⟩
      go_wp2_with fail
      refine g2.mono ?_
      rintro e w1 ⟨rfl, rfl⟩
      go_wp2_with fail
      go_ret2
      exact ⟨_, rfl, own_nilU _ _ _ (Nat.le_refl _), Below.refl _ _⟩
  · have hb : stateOk 3 l = false := by
      unfold stateOk
      rw [show ((3 : Int).toNat) = 3 from rfl, decide_eq_false hm, Bool.false_and, Bool.and_false]
    rw [hb, stateR_no hb]
    have hmod : ¬ (l.length : Int) % 3 = 0 := by omega
    have hn0 : (0 : Int) ≤ (l.length : Int) := by omega
    have hdiv : ((l.length : Int) % 3 == 0) = false := beq_eq_false_iff_ne.2 hmod
    clear hm h hb
    generalize l.length = n at *
    go_enter Tryd.func13, Tryd.ntmps13
    go_wp2_with fail
    refine g1.mono ?_
    rintro e w1 ⟨rfl, rfl⟩
    go_wp2_with fail
    go_ret2
    exact ⟨_, rfl, own_nilU _ _ _ (Nat.le_refl _), Below.refl _ _⟩
set_option maxRecDepth 100000 in
set_option maxHeartbeats 2000000 in
theorem iStateFrom_any_4 (v : Value) (l : List Bool) (w : World) (h : AtBC w v l) :
    Calls Tryd.prog 13 #[.int .i64 4, v] w fun e w' => ∃ r, e = .returned (.tuple #[r, .bool (stateOk 4 l)]) ∧ OwnUS w' w.heap.size w'.heap.size r (stateR 4 l) ∧ Below w.heap.size w w' := by
  obtain ⟨a, cap, rfl⟩ := h.1.1.shape
  have hln := h.1.1.1
  have g1 := goodLaid_any 4 w
  rw [decide_eq_true (by omega)] at g1
  by_cases hm : l.length % 4 = 0
  · obtain ⟨m, hmm⟩ : ∃ m, l.length / 4 = m := ⟨_, rfl⟩
    by_cases hm4 : 1 ≤ m ∧ m ≤ 4
    · have hb : stateOk 4 l = true := by
        unfold stateOk
        rw [show ((4 : Int).toNat) = 4 from rfl, hmm, decide_eq_true hm4, decide_eq_true hm]
        decide
      have hr : stateR 4 l = stateL 4 m l := by unfold stateR; rw [if_pos hb, show ((4 : Int).toNat) = 4 from rfl, hmm]
      rw [hb, hr]
      rcases h.1.opened with ⟨e, _⟩ | ⟨g, cap', hv, hlt, hcm, hc⟩
      · subst e
        simp at hmm
        omega
      · injection hv with e1 e2 e3
        subst e1 e3
        have hcap := h.2 _ _ _ rfl
        refine (iState_4 g 0 cap l.length m l rfl (by omega) hm4.1 hm4.2 hcap hcm w hlt hc).mono ?_
        rintro e w' ⟨r, he, ho, hb⟩
        exact ⟨r, he, rowIn_of ho, hb⟩
    · have hb : stateOk 4 l = false := by
        unfold stateOk
        rw [show ((4 : Int).toNat) = 4 from rfl, hmm, decide_eq_false hm4, Bool.and_false, Bool.and_false]
      rw [hb, stateR_no hb]
      have g2 := goodVars_no (m : Int) (by omega) w
      have hdiv : (l.length : Int) / 4 = m := by omega
      have hmod : (l.length : Int) % 4 = 0 := by omega
      have hn0 : (0 : Int) ≤ (l.length : Int) := by omega
      clear hm hmm hm4 h hb
      generalize l.length = n at *
      go_enter Tryd.func13, Tryd.ntmps13
      go_wp2_with fail
      refine g1.mono ?_
      rintro e w1 ⟨rfl, rfl⟩
      go_wp2_with fail
      refine g2.mono ?_
      rintro e w1 ⟨rfl, rfl⟩
      go_wp2_with fail
      go_ret2
      exact ⟨_, rfl, own_nilU _ _ _ (Nat.le_refl _), Below.refl _ _⟩
  · have hb : stateOk 4 l = false := by
      unfold stateOk
      rw [show ((4 : Int).toNat) = 4 from rfl, decide_eq_false hm, Bool.false_and, Bool.and_false]
    rw [hb, stateR_no hb]
    have hmod : ¬ (l.length : Int) % 4 = 0 := by omega
    have hn0 : (0 : Int) ≤ (l.length : Int) := by omega
    have hdiv : ((l.length : Int) % 4 == 0) = false := beq_eq_false_iff_ne.2 hmod
    clear hm h hb
    generalize l.length = n at *
    go_enter Tryd.func13, Tryd.ntmps13
    go_wp2_with fail
    refine g1.mono ?_
    rintro e w1 ⟨rfl, rfl⟩
    go_wp2_with fail
    go_ret2
    exact ⟨_, rfl, own_nilU _ _ _ (Nat.le_refl _), Below.refl _ _⟩
set_option maxRecDepth 100000 in
theorem iStateFrom_any (wide : Int) (v : Value) (l : List Bool) (w : World) (h : AtBC w v l) :
    Calls Tryd.prog 13 #[.int .i64 wide, v] w fun e w' => ∃ r, e = .returned (.tuple #[r, .bool (stateOk wide l)]) ∧ OwnUS w' w.heap.size w'.heap.size r (stateR wide l) ∧ Below w.heap.size w w' := by
  by_cases hw : 1 ≤ wide ∧ wide ≤ 4
  · have hm : wide = 1 ∨ wide = 2 ∨ wide = 3 ∨ wide = 4 := by omega
    rcases hm with rfl | rfl | rfl | rfl
    · exact iStateFrom_any_1 v l w h
    · exact iStateFrom_any_2 v l w h
    · exact iStateFrom_any_3 v l w h
    · exact iStateFrom_any_4 v l w h
  · have hb : stateOk wide l = false := by unfold stateOk; rw [decide_eq_false hw, Bool.false_and]
    rw [hb, stateR_no hb]
    have g1 := goodLaid_any wide w
    rw [decide_eq_false hw] at g1
    obtain ⟨a, cap, rfl⟩ := h.1.1.shape
    clear h hb hw
    generalize l.length = n at *
    go_enter Tryd.func13, Tryd.ntmps13
    go_wp2_with fail
    refine g1.mono ?_
    rintro e w1 ⟨rfl, rfl⟩
    go_wp2_with fail
    go_ret2
    exact ⟨_, rfl, own_nilU _ _ _ (Nat.le_refl _), Below.refl _ _⟩
set_option maxRecDepth 100000 in
set_option maxHeartbeats 2000000 in
theorem sStateFrom_any_1 (v : Value) (l : List Bool) (w : World) (h : AtBC w v l) :
    Calls Tryd.prog 16 #[.int .i64 1, v] w fun e w' => ∃ r, e = .returned (.tuple #[r, .bool (stateOk 1 l)]) ∧ OwnUS w' w.heap.size w'.heap.size r (stateR 1 l) ∧ Below w.heap.size w w' := by
  obtain ⟨a, cap, rfl⟩ := h.1.1.shape
  have hln := h.1.1.1
  have g1 := l5Wide_any 1 w
  rw [decide_eq_true (by omega)] at g1
  by_cases hm : l.length % 1 = 0
  · obtain ⟨m, hmm⟩ : ∃ m, l.length / 1 = m := ⟨_, rfl⟩
    obtain rfl : m = l.length := by omega
    by_cases hm4 : 1 ≤ l.length ∧ l.length ≤ 4
    · have hb : stateOk 1 l = true := by
        unfold stateOk
        rw [show ((1 : Int).toNat) = 1 from rfl, hmm, decide_eq_true hm4, decide_eq_true hm]
        decide
      have hr : stateR 1 l = stateL 1 l.length l := by unfold stateR; rw [if_pos hb, show ((1 : Int).toNat) = 1 from rfl, hmm]
      rw [hb, hr]
      rcases h.1.opened with ⟨e, _⟩ | ⟨g, cap', hv, hlt, hcm, hc⟩
      · subst e
        simp at hm4
      · injection hv with e1 e2 e3
        subst e1 e3
        have hcap := h.2 _ _ _ rfl
        refine (sState_1 g 0 cap l.length l.length l rfl (by omega) hm4.1 hm4.2 w hlt hc).mono ?_
        rintro e w' ⟨r, he, ho, hb⟩
        exact ⟨r, he, rowIn_of ho, hb⟩
    · have hb : stateOk 1 l = false := by
        unfold stateOk
        rw [show ((1 : Int).toNat) = 1 from rfl, hmm, decide_eq_false hm4, Bool.and_false, Bool.and_false]
      rw [hb, stateR_no hb]
      have g2 := l1In_any (l.length : Int) 1 4 w
      rw [decide_eq_false (by omega)] at g2
      have hn0 : (0 : Int) ≤ (l.length : Int) := by omega
      clear hm hmm hm4 h hb
      generalize l.length = n at *
      go_enter Tryd.func16, Tryd.ntmps16
      go_wp2_with fail
      refine g1.mono ?_
      rintro e w1 ⟨rfl, rfl⟩
      go_wp2_with fail
      refine g2.mono ?_
      rintro e w1 ⟨rfl, rfl⟩
      go_wp2_with fail
      go_ret2
      exact ⟨_, rfl, own_nilU _ _ _ (Nat.le_refl _), Below.refl _ _⟩
  · exact absurd (Nat.mod_one _) hm
set_option maxRecDepth 100000 in
set_option maxHeartbeats 2000000 in
theorem sStateFrom_any_2 (v : Value) (l : List Bool) (w : World) (h : AtBC w v l) :
    Calls Tryd.prog 16 #[.int .i64 2, v] w fun e w' => ∃ r, e = .returned (.tuple #[r, .bool (stateOk 2 l)]) ∧ OwnUS w' w.heap.size w'.heap.size r (stateR 2 l) ∧ Below w.heap.size w w' := by
  obtain ⟨a, cap, rfl⟩ := h.1.1.shape
  have hln := h.1.1.1
  have g1 := l5Wide_any 2 w
  rw [decide_eq_true (by omega)] at g1
  by_cases hm : l.length % 2 = 0
  · obtain ⟨m, hmm⟩ : ∃ m, l.length / 2 = m := ⟨_, rfl⟩
    by_cases hm4 : 1 ≤ m ∧ m ≤ 4
    · have hb : stateOk 2 l = true := by
        unfold stateOk
        rw [show ((2 : Int).toNat) = 2 from rfl, hmm, decide_eq_true hm4, decide_eq_true hm]
        decide
      have hr : stateR 2 l = stateL 2 m l := by unfold stateR; rw [if_pos hb, show ((2 : Int).toNat) = 2 from rfl, hmm]
      rw [hb, hr]
      rcases h.1.opened with ⟨e, _⟩ | ⟨g, cap', hv, hlt, hcm, hc⟩
      · subst e
        simp at hmm
        omega
      · injection hv with e1 e2 e3
        subst e1 e3
        have hcap := h.2 _ _ _ rfl
        refine (sState_2 g 0 cap l.length m l rfl (by omega) hm4.1 hm4.2 w hlt hc).mono ?_
        rintro e w' ⟨r, he, ho, hb⟩
        exact ⟨r, he, rowIn_of ho, hb⟩
    · have hb : stateOk 2 l = false := by
        unfold stateOk
        rw [show ((2 : Int).toNat) = 2 from rfl, hmm, decide_eq_false hm4, Bool.and_false, Bool.and_false]
      rw [hb, stateR_no hb]
      have g2 := l1In_any (m : Int) 1 4 w
      rw [decide_eq_false (by omega)] at g2
      have hdiv : (l.length : Int) / 2 = m := by omega
      have hmod : (l.length : Int) % 2 = 0 := by omega
      have hn0 : (0 : Int) ≤ (l.length : Int) := by omega
      clear hm hmm hm4 h hb
      generalize l.length = n at *
      go_enter Tryd.func16, Tryd.ntmps16
      go_wp2_with fail
      refine g1.mono ?_
      rintro e w1 ⟨rfl, rfl⟩
      go_wp2_with fail
      refine g2.mono ?_
      rintro e w1 ⟨rfl, rfl⟩
      go_wp2_with fail
      go_ret2
      exact ⟨_, rfl, own_nilU _ _ _ (Nat.le_refl _), Below.refl _ _⟩
  · have hb : stateOk 2 l = false := by
      unfold stateOk
      rw [show ((2 : Int).toNat) = 2 from rfl, decide_eq_false hm, Bool.false_and, Bool.and_false]
    rw [hb, stateR_no hb]
    have hmod : ¬ (l.length : Int) % 2 = 0 := by omega
    have hn0 : (0 : Int) ≤ (l.length : Int) := by omega
    have hdiv : ((l.length : Int) % 2 == 0) = false := beq_eq_false_iff_ne.2 hmod
    clear hm h hb
    generalize l.length = n at *
    go_enter Tryd.func16, Tryd.ntmps16
    go_wp2_with fail
    refine g1.mono ?_
    rintro e w1 ⟨rfl, rfl⟩
    go_wp2_with fail
    go_ret2
    exact ⟨_, rfl, own_nilU _ _ _ (Nat.le_refl _), Below.refl _ _⟩
set_option maxRecDepth 100000 in
set_option maxHeartbeats 2000000 in
theorem sStateFrom_any_3 (v : Value) (l : List Bool) (w : World) (h : AtBC w v l) :
    Calls Tryd.prog 16 #[.int .i64 3, v] w fun e w' => ∃ r, e = .returned (.tuple #[r, .bool (stateOk 3 l)]) ∧ OwnUS w' w.heap.size w'.heap.size r (stateR 3 l) ∧ Below w.heap.size w w' := by
  obtain ⟨a, cap, rfl⟩ := h.1.1.shape
  have hln := h.1.1.1
  have g1 := l5Wide_any 3 w
  rw [decide_eq_true (by omega)] at g1
  by_cases hm : l.length % 3 = 0
  · obtain ⟨m, hmm⟩ : ∃ m, l.length / 3 = m := ⟨_, rfl⟩
    by_cases hm4 : 1 ≤ m ∧ m ≤ 4
    · have hb : stateOk 3 l = true := by
        unfold stateOk
        rw [show ((3 : Int).toNat) = 3 from rfl, hmm, decide_eq_true hm4, decide_eq_true hm]
        decide
      have hr : stateR 3 l = stateL 3 m l := by unfold stateR; rw [if_pos hb, show ((3 : Int).toNat) = 3 from rfl, hmm]
      rw [hb, hr]
      rcases h.1.opened with ⟨e, _⟩ | ⟨g, cap', hv, hlt, hcm, hc⟩
      · subst e
        simp at hmm
        omega
      · injection hv with e1 e2 e3
        subst e1 e3
        have hcap := h.2 _ _ _ rfl
        refine (sState_3 g 0 cap l.length m l rfl (by omega) hm4.1 hm4.2 w hlt hc).mono ?_
        rintro e w' ⟨r, he, ho, hb⟩
        exact ⟨r, he, rowIn_of ho, hb⟩
    · have hb : stateOk 3 l = false := by
        unfold stateOk
        rw [show ((3 : Int).toNat) = 3 from rfl, hmm, decide_eq_false hm4, Bool.and_false, Bool.and_false]
      rw [hb, stateR_no hb]
      have g2 := l1In_any (m : Int) 1 4 w
      rw [decide_eq_false (by omega)] at g2
      have hdiv : (l.length : Int) / 3 = m := by omega
      have hmod : (l.length : Int) % 3 = 0 := by omega
      have hn0 : (0 : Int) ≤ (l.length : Int) := by omega
      clear hm hmm hm4 h hb
      generalize l.length = n at *
      go_enter Tryd.func16, Tryd.ntmps16
      go_wp2_with fail
      refine g1.mono ?_
      rintro e w1 ⟨rfl, rfl⟩
      go_wp2_with fail
      refine g2.mono ?_
      rintro e w1 ⟨rfl, rfl⟩
      go_wp2_with fail
      go_ret2
      exact ⟨_, rfl, own_nilU _ _ _ (Nat.le_refl _), Below.refl _ _⟩
  · have hb : stateOk 3 l = false := by
      unfold stateOk
      rw [show ((3 : Int).toNat) = 3 from rfl, decide_eq_false hm, Bool.false_and, Bool.and_false]
    rw [hb, stateR_no hb]
    have hmod : ¬ (l.length : Int) % 3 = 0 := by omega
    have hn0 : (0 : Int) ≤ (l.length : Int) := by omega
    have hdiv : ((l.length : Int) % 3 == 0) = false := beq_eq_false_iff_ne.2 hmod
    clear hm h hb
    generalize l.length = n at *
    go_enter Tryd.func16, Tryd.ntmps16
    go_wp2_with fail
    refine g1.mono ?_
    rintro e w1 ⟨rfl, rfl⟩
    go_wp2_with fail
    go_ret2
    exact ⟨_, rfl, own_nilU _ _ _ (Nat.le_refl _), Below.refl _ _⟩
set_option maxRecDepth 100000 in
set_option maxHeartbeats 2000000 in
theorem sStateFrom_any_4 (v : Value) (l : List Bool) (w : World) (h : AtBC w v l) :
    Calls Tryd.prog 16 #[.int .i64 4, v] w fun e w' => ∃ r, e = .returned (.tuple #[r, .bool (stateOk 4 l)]) ∧ OwnUS w' w.heap.size w'.heap.size r (stateR 4 l) ∧ Below w.heap.size w w' := by
  obtain ⟨a, cap, rfl⟩ := h.1.1.shape
  have hln := h.1.1.1
  have g1 := l5Wide_any 4 w
  rw [decide_eq_true (by omega)] at g1
  by_cases hm : l.length % 4 = 0
  · obtain ⟨m, hmm⟩ : ∃ m, l.length / 4 = m := ⟨_, rfl⟩
    by_cases hm4 : 1 ≤ m ∧ m ≤ 4
    · have hb : stateOk 4 l = true := by
        unfold stateOk
        rw [show ((4 : Int).toNat) = 4 from rfl, hmm, decide_eq_true hm4, decide_eq_true hm]
        decide
      have hr : stateR 4 l = stateL 4 m l := by unfold stateR; rw [if_pos hb, show ((4 : Int).toNat) = 4 from rfl, hmm]
      rw [hb, hr]
      rcases h.1.opened with ⟨e, _⟩ | ⟨g, cap', hv, hlt, hcm, hc⟩
      · subst e
        simp at hmm
        omega
      · injection hv with e1 e2 e3
        subst e1 e3
        have hcap := h.2 _ _ _ rfl
        refine (sState_4 g 0 cap l.length m l rfl (by omega) hm4.1 hm4.2 w hlt hc).mono ?_
        rintro e w' ⟨r, he, ho, hb⟩
        exact ⟨r, he, rowIn_of ho, hb⟩
    · have hb : stateOk 4 l = false := by
        unfold stateOk
        rw [show ((4 : Int).toNat) = 4 from rfl, hmm, decide_eq_false hm4, Bool.and_false, Bool.and_false]
      rw [hb, stateR_no hb]
      have g2 := l1In_any (m : Int) 1 4 w
      rw [decide_eq_false (by omega)] at g2
      have hdiv : (l.length : Int) / 4 = m := by omega
      have hmod : (l.length : Int) % 4 = 0 := by omega
      have hn0 : (0 : Int) ≤ (l.length : Int) := by omega
      clear hm hmm hm4 h hb
      generalize l.length = n at *
      go_enter Tryd.func16, Tryd.ntmps16
      go_wp2_with fail
      refine g1.mono ?_
      rintro e w1 ⟨rfl, rfl⟩
      go_wp2_with fail
      refine g2.mono ?_
      rintro e w1 ⟨rfl, rfl⟩
      go_wp2_with fail
      go_ret2
      exact ⟨_, rfl, own_nilU _ _ _ (Nat.le_refl _), Below.refl _ _⟩
  · have hb : stateOk 4 l = false := by
      unfold stateOk
      rw [show ((4 : Int).toNat) = 4 from rfl, decide_eq_false hm, Bool.false_and, Bool.and_false]
    rw [hb, stateR_no hb]
    have hmod : ¬ (l.length : Int) % 4 = 0 := by omega
    have hn0 : (0 : Int) ≤ (l.length : Int) := by omega
    have hdiv : ((l.length : Int) % 4 == 0) = false := beq_eq_false_iff_ne.2 hmod
    clear hm h hb
    generalize l.length = n at *
    go_enter Tryd.func16, Tryd.ntmps16
    go_wp2_with fail
    refine g1.mono ?_
    rintro e w1 ⟨rfl, rfl⟩
    go_wp2_with fail
    go_ret2
    exact ⟨_, rfl, own_nilU _ _ _ (Nat.le_refl _), Below.refl _ _⟩
set_option maxRecDepth 100000 in
theorem sStateFrom_any (wide : Int) (v : Value) (l : List Bool) (w : World) (h : AtBC w v l) :
    Calls Tryd.prog 16 #[.int .i64 wide, v] w fun e w' => ∃ r, e = .returned (.tuple #[r, .bool (stateOk wide l)]) ∧ OwnUS w' w.heap.size w'.heap.size r (stateR wide l) ∧ Below w.heap.size w w' := by
  by_cases hw : 1 ≤ wide ∧ wide ≤ 4
  · have hm : wide = 1 ∨ wide = 2 ∨ wide = 3 ∨ wide = 4 := by omega
    rcases hm with rfl | rfl | rfl | rfl
    · exact sStateFrom_any_1 v l w h
    · exact sStateFrom_any_2 v l w h
    · exact sStateFrom_any_3 v l w h
    · exact sStateFrom_any_4 v l w h
  · have hb : stateOk wide l = false := by unfold stateOk; rw [decide_eq_false hw, Bool.false_and]
    rw [hb, stateR_no hb]
    have g1 := l5Wide_any wide w
    rw [decide_eq_false hw] at g1
    obtain ⟨a, cap, rfl⟩ := h.1.1.shape
    clear h hb hw
    generalize l.length = n at *
    go_enter Tryd.func16, Tryd.ntmps16
    go_wp2_with fail
    refine g1.mono ?_
    rintro e w1 ⟨rfl, rfl⟩
    go_wp2_with fail
    go_ret2
    exact ⟨_, rfl, own_nilU _ _ _ (Nat.le_refl _), Below.refl _ _⟩
end Go.Proofs.YtpjllhlbdcanlaaDoor

namespace Go.Proofs.YtpjllhlbdcanlaaDoor
open Go Go.RowKit
open M
set_option linter.unusedVariables false
set_option linter.unusedSimpArgs false

set_option maxRecDepth 100000 in
set_option maxHeartbeats 8000000 in
theorem sBits_in (W : Nat) (h1 : 1 ≤ W) (h4 : W ≤ 4) (b off cap : Nat) (st : List Int) (hn1 : 1 ≤ st.length) (hn4 : st.length ≤ 4) (hst : ∀ s ∈ st, 0 ≤ s ∧ s ≤ 18446744073709551615) (w : World) (hlt : b < w.heap.size)
    (hc : ∀ (i : Nat) (s : Int), st[i]? = some s → w.cell? ⟨b, off + i, none⟩ = some (.int .u64 s)) :
    Calls Tryd.prog 45 #[.int .i64 W, .slice (some ⟨b, off, none⟩) st.length cap] w fun e w' => ∃ r, e = .returned r ∧ w'.ownsRow w.heap.size 4 1 r (bitsL W st).length (cellsB (bitsL W st)) ∧ Below w.heap.size w w' := by
  obtain ⟨i0, hi, hz0, hz1, hz2⟩ := info_parts infoBool
  have HC : Hid (∀ w' : World, Below w.heap.size w w' → ∀ (i : Nat) (s : Int), st[i]? = some s → w'.cell? ⟨b, off + i, none⟩ = some (.int .u64 s)) := fun w' hb i s hs => (hb.cell (p := ⟨b, off + i, none⟩) hlt).trans (hc i s hs)
  have HST : Hid (∀ s ∈ st, 0 ≤ s ∧ s ≤ 18446744073709551615) := hst
  clear hc hst
  generalize hnn : st.length = n at *
  have HN : Hid (st.length = n) := hnn
  clear hnn
  go_enter Tryd.func45, Tryd.ntmps45
  go_wp2_with fail
  have HO3 : Hid (w.ownsRow w.heap.size 4 1 (.slice none 0 0) 0 []) := World.ownsRow_nil _ _ _ _
  have HB3 : Hid (Below w.heap.size w w) := Below.refl _ _
  go_loopw [5, 11] (fun v i wr => ∃ j : Nat, j ≤ n ∧ i = .int .i64 j ∧ Hid (wr.ownsRow w.heap.size 4 1 v (bitsL W (st.take j)).length (cellsB (bitsL W (st.take j)))) ∧ Hid (Below w.heap.size w wr)) (fun _ i _ => n - (intOf i).toNat)
  case atStart => exact ⟨0, by omega, rfl, HO3, HB3⟩
  case round =>
    obtain ⟨j, hj, rfl, HO, HB⟩ := hrel
    generalize wr = wq at *
    clear HO3 HB3
    by_cases hlt2 : j < n
    · obtain ⟨s, hs⟩ : ∃ s, st[j]? = some s := ⟨st[j]'(by have := HN.out; omega), List.getElem?_eq_getElem _⟩
      have cs := HC.out wq HB.out j s hs
      obtain ⟨hs0, hs1⟩ := HST.out s (List.mem_of_getElem? hs)
      have hbl : b < wq.heap.size := Nat.lt_of_lt_of_le hlt HB.out.size
      have HT1 : Hid (bitsL W (st.take (j + 1)) = bitsL W (st.take j) ++ bits1 W s) := by
        show bitsL W (st.take (j + 1)) = _
        rw [List.take_add_one, hs, ← bitsL_snoc]
        rfl
      have hbll : (bitsL W (st.take j)).length ≤ 16 := by
        rw [bitsL_len]
        have h5 : (st.take j).length ≤ 4 := by rw [List.length_take]; omega
        exact Nat.mul_le_mul h5 h4
      obtain ⟨L, hL⟩ : ∃ L, bitsL W (st.take j) = L := ⟨_, rfl⟩
      rw [hL] at HO HT1 hbll
      obtain ⟨va, vcp, hv⟩ := own_shape HO.out
      subst hv
      have hjA : (j : Int) < (n : Int) := by omega
      clear hL hs
      obtain ⟨ln, hln⟩ : ∃ ln, L.length = ln := ⟨_, rfl⟩
      rw [hln] at HO ⊢
      have HLN : Hid (L.length = ln) := hln
      have hln16 : ln ≤ 16 := by omega
      clear hln hbll
      go_wp2_with fail
      go_loopw [5, 8] (fun v i wr => ∃ k : Nat, k ≤ W ∧ i = .int .i64 k ∧ Hid (wr.ownsRow w.heap.size 4 1 v (ln + k) (cellsB (L ++ bits1 k s))) ∧ Hid (Below w.heap.size w wr)) (fun _ i _ => W - (intOf i).toNat)
      case atStart => exact ⟨0, by omega, rfl, (by show World.ownsRow _ _ _ _ _ (ln + 0) (cellsB (L ++ [])); rw [List.append_nil]; exact HO.out), HB⟩
      case round =>
        obtain ⟨k, hk, rfl, HOk, HBk⟩ := hrel
        by_cases hlt3 : k < W
        · obtain ⟨va2, vcp2, hv2⟩ := own_shape HOk.out
          subst hv2
          have hbit := bits_bit1 s hs0 hs1 k
          obtain ⟨z, hz⟩ : ∃ z : Bool, (bitI s k == 1) = z := ⟨_, rfl⟩
          have HS : Hid (bits1 (k + 1) s = bits1 k s ++ [z]) := by
            show bits1 (k + 1) s = _
            rw [bits1_snoc, hz]
          have hzz : (bits BinOp.and IntKind.u64 (s / 2 ^ k) 1 == 1) = z := by rw [hbit]; exact hz
          have own6 := World.ownsRow.alloc HOk.out (.cells #[.bool z] 4)
          have hb6 : Below w.heap.size w (wr.alloc (.cells #[.bool z] 4)) := HBk.out.alloc HBk.out.size _
          have hs6 := hb6.size
          have hkA : (k : Int) < (W : Int) := by omega
          have hlk : ln + k ≤ 20 := by omega
          clear hbit hz HOk HBk
          go_wp2_with (at_builtin; refine wpList_append_own _ rfl _ _ 27 rfl w.heap.size 4 i0 (.bool false) 1 1 Tryd.underlying27 hi hz0 hz1 hz2 rfl (by decide) _ _ _ rfl own6 ⟨wr.heap.size, 0, none⟩ 1 1 [.bool z] rfl rfl (oneB_cells wr z) (bools_one [z]) (by unfold maxLen; omega) (by omega) hs6 ?_)
          intro v7 w7 own7 grow7 _
          have HB7 : Hid (Below w.heap.size w w7) := below_app hb6 (by omega) (Nat.le_refl _) own6 grow7
          have HO7 : Hid (w7.ownsRow w.heap.size 4 1 v7 (ln + (k + 1)) (cellsB (L ++ bits1 (k + 1) s))) := by
            show w7.ownsRow w.heap.size 4 1 v7 (ln + (k + 1)) (cellsB (L ++ bits1 (k + 1) s))
            rw [HS.out, ← List.append_assoc, cellsB_append, ← Nat.add_assoc]
            exact own7
          clear own6 own7 grow7 hb6 HS
          go_wp2_with fail
          go_roundw
          case rel => exact ⟨k + 1, by omega, by go_num, HO7, HB7⟩
          case measure => simp [intOf]; omega
        · obtain rfl : k = W := by omega
          have HO9 : Hid (wr.ownsRow w.heap.size 4 1 u5 (bitsL k (st.take (j + 1))).length (cellsB (bitsL k (st.take (j + 1))))) := by
            show wr.ownsRow w.heap.size 4 1 u5 (bitsL k (st.take (j + 1))).length (cellsB (bitsL k (st.take (j + 1))))
            rw [HT1.out, List.length_append, bits1_len, HLN.out]
            exact HOk.out
          clear HOk
          go_wp2_with fail
          go_roundw
          case rel => exact ⟨j + 1, by omega, by go_num, HO9, HBk⟩
          case measure => simp [intOf]; omega
    · obtain rfl : j = n := by omega
      have HO9 : Hid (wq.ownsRow w.heap.size 4 1 u5 (bitsL W st).length (cellsB (bitsL W st))) := by
        have h1 := HO.out
        rw [← HN.out, List.take_length] at h1
        exact h1
      clear HO HC
      go_wp2_with fail
      go_ret
      exact ⟨_, rfl, HO9.out, HB.out⟩
end Go.Proofs.YtpjllhlbdcanlaaDoor

namespace Go.Proofs.YtpjllhlbdcanlaaDoor
open Go Go.RowKit
open M
set_option linter.unusedVariables false
set_option linter.unusedSimpArgs false

set_option maxRecDepth 100000 in
set_option maxHeartbeats 2000000 in
theorem sBitsOf_any (wide : Int) (v : Value) (st : List Int) (hl : st.length ≤ 1048576) (w : World) (h : WordsAt w v st) :
    Calls Tryd.prog 11 #[.int .i64 wide, v] w fun e w' => ∃ r, e = .returned (.tuple #[r, .bool (bitsOk wide st)]) ∧ OwnBS w' w.heap.size w'.heap.size r (bitsR wide st) ∧ Below w.heap.size w w' := by
  have g1 := l5Wide_any wide w
  have g2 := l1In_any (st.length : Int) 1 4 w
  have g3 := l2Words_any wide v st ⟨hl, h.1⟩ w h.2.2
  obtain ⟨a, cap, rfl⟩ := h.shape
  have hln := h.2.1
  by_cases hw : 1 ≤ wide ∧ wide ≤ 4
  · rw [decide_eq_true hw] at g1
    by_cases hn : 1 ≤ st.length ∧ st.length ≤ 4
    · rw [decide_eq_true (by omega)] at g2
      obtain ⟨W, rfl⟩ : ∃ W : Nat, wide = (W : Int) := ⟨wide.toNat, by omega⟩
      cases hall : st.all (goodB W) with
      | true =>
        have hb : bitsOk W st = true := by unfold bitsOk; rw [decide_eq_true hw, decide_eq_true hn, hall]; rfl
        have hr : bitsR W st = bitsL W st := by unfold bitsR; rw [if_pos hb]; simp
        rw [hb, hr]
        have g4 : Calls Tryd.prog 45 #[.int .i64 W, .slice a st.length cap] w fun e w' => ∃ r, e = .returned r ∧ w'.ownsRow w.heap.size 4 1 r (bitsL W st).length (cellsB (bitsL W st)) ∧ Below w.heap.size w w' := by
          rcases h.2.2 with ⟨rfl, _⟩ | ⟨b, off, cap', hv, hlt, hc⟩
          · simp at hn
          rw [hv]
          exact sBits_in W (by omega) (by omega) b off cap' st hn.1 hn.2 h.1 w hlt hc
        rw [hall] at g3
        generalize bitsL W st = L at *
        generalize st.length = n at *
        clear h hb hr hall
        go_enter Tryd.func11, Tryd.ntmps11
        go_wp2_with fail
        refine g1.mono ?_
        rintro e w1 ⟨rfl, rfl⟩
        go_wp2_with fail
        refine g2.mono ?_
        rintro e w1 ⟨rfl, rfl⟩
        go_wp2_with fail
        refine g3.mono ?_
        rintro e w1 ⟨rfl, rfl⟩
        go_wp2_with fail
        refine g4.mono ?_
        rintro e w2 ⟨r, rfl, ho, hb⟩
        have HO : Hid (OwnBS w2 w1.heap.size w2.heap.size r L) := rowIn_of ho
        have HB : Hid (Below w1.heap.size w1 w2) := hb
        clear ho hb
        go_wp2_with fail
        go_ret2
        exact ⟨_, rfl, HO.out, HB.out⟩
      | false =>
        have hb : bitsOk W st = false := by unfold bitsOk; rw [hall, Bool.and_false, Bool.and_false]
        rw [hb, bitsR_no hb]
        rw [hall] at g3
        generalize st.length = n at *
        clear h hb hall
        go_enter Tryd.func11, Tryd.ntmps11
        go_wp2_with fail
        refine g1.mono ?_
        rintro e w1 ⟨rfl, rfl⟩
        go_wp2_with fail
        refine g2.mono ?_
        rintro e w1 ⟨rfl, rfl⟩
        go_wp2_with fail
        refine g3.mono ?_
        rintro e w1 ⟨rfl, rfl⟩
        go_wp2_with fail
        go_ret2
        exact ⟨_, rfl, own_nilB _ _ _ (Nat.le_refl _), Below.refl _ _⟩
    · have hb : bitsOk wide st = false := by unfold bitsOk; rw [decide_eq_false hn, Bool.false_and, Bool.and_false]
      rw [hb, bitsR_no hb]
      rw [decide_eq_false (by omega)] at g2
      generalize st.length = n at *
      clear h hb g3
      go_enter Tryd.func11, Tryd.ntmps11
      go_wp2_with fail
      refine g1.mono ?_
      rintro e w1 ⟨rfl, rfl⟩
      go_wp2_with fail
      refine g2.mono ?_
      rintro e w1 ⟨rfl, rfl⟩
      go_wp2_with fail
      go_ret2
      exact ⟨_, rfl, own_nilB _ _ _ (Nat.le_refl _), Below.refl _ _⟩
  · have hb : bitsOk wide st = false := by unfold bitsOk; rw [decide_eq_false hw, Bool.false_and]
    rw [hb, bitsR_no hb]
    rw [decide_eq_false hw] at g1
    generalize st.length = n at *
    clear h hb g2 g3
    go_enter Tryd.func11, Tryd.ntmps11
    go_wp2_with fail
    refine g1.mono ?_
    rintro e w1 ⟨rfl, rfl⟩
    go_wp2_with fail
    go_ret2
    exact ⟨_, rfl, own_nilB _ _ _ (Nat.le_refl _), Below.refl _ _⟩
end Go.Proofs.YtpjllhlbdcanlaaDoor

namespace Go.Proofs.YtpjllhlbdcanlaaDoor
open Go Go.RowKit
open M
set_option linter.unusedVariables false
set_option linter.unusedSimpArgs false

theorem CodeOk.up5 {B B' : Nat} {w : World} {sv : Value} (h : CodeOk B w sv) (hB : B ≤ B') : CodeOk B' w sv := by
  rcases h with h | ⟨cb, off, len, cap, h1, h2, h3, h4⟩
  · exact Or.inl h
  · exact Or.inr ⟨cb, off, len, cap, h1, by omega, h3, h4⟩
set_option maxRecDepth 100000 in
theorem bitsBack_big (a0 a1 : Option Addr) (l0 c0 l1 c1 : Nat) (h0 : l0 ≤ 9223372036854775807) (h1 : l1 ≤ 9223372036854775807) (h : 1048576 < l0 + l1) (w : World) :
    Calls Tryd.prog 3 #[.slice a0 l0 c0, .slice a1 l1 c1] w fun e w' => e = .returned (.bool true) ∧ Below w.heap.size w w' := by
  have g0 := big_yes a0 a1 l0 c0 l1 c1 h0 h1 h w
  go_enter Tryd.func3, Tryd.ntmps3
  go_wp2_with fail
  refine g0.mono ?_
  rintro e w' ⟨rfl, rfl⟩
  clear g0
  go_wp2_with fail
  go_ret
  exact ⟨rfl, Below.refl _ _⟩
set_option maxRecDepth 100000 in
set_option maxHeartbeats 16000000 in
theorem bitsBack_walk (a0 a1 : Option Addr) (l0 c0 l1 c1 : Nat) (h0 : l0 ≤ 9223372036854775807) (h1 : l1 ≤ 9223372036854775807) (w : World) (hT : Tab w) (hc0 : CodeOk w.heap.size w (.slice a0 l0 c0)) (hc1 : CodeOk w.heap.size w (.slice a1 l1 c1)) :
    Calls Tryd.prog 3 #[.slice a0 l0 c0, .slice a1 l1 c1] w fun e w' => e = .returned (.bool true) ∧ Below w.heap.size w w' := by
  by_cases h : 1048576 < l0 + l1
  · exact bitsBack_big a0 a1 l0 c0 l1 c1 h0 h1 h w
  have g0 := big_no a0 a1 l0 c0 l1 c1 h0 h1 (by omega) w
  have g1 := drawBitsOf_any a0 l0 c0 w hc0
  have HT : Hid (∀ w', Below w.heap.size w w' → Tab w') := fun w' hb => hT.below hb hT.some
  have HC1 : Hid (∀ w', Below w.heap.size w w' → CodeOk w'.heap.size w' (.slice a1 l1 c1)) := fun w' hb => (hc1.below hb).up5 hb.size
  clear hT hc0 hc1 h
  go_enter Tryd.func3, Tryd.ntmps3
  go_wp2_with fail
  refine g0.mono ?_
  rintro e w' ⟨rfl, rfl⟩
  clear g0
  obtain ⟨w, rfl⟩ : ∃ w, w = w' := ⟨_, rfl⟩
  go_wp2_with fail
  refine g1.mono ?_
  rintro e w1 ⟨W, sv, st, rfl, hW5, hst5, hws, hos, hb1⟩
  clear g1
  obtain ⟨sa, scap, hsv⟩ := own_shape hos.1
  have hAt := hos.reads hws
  have HS : Hid (∀ w' : World, Below w1.heap.size w1 w' → WordsAt w' sv st) := fun w' hb => hAt.below hb
  have HBK : Hid (bitsOk W st = true → stateOk W (bitsR W st) = true ∧ stateR W (bitsR W st) = st ∧ ((bitsR W st).length : Int) = (W : Int) * st.length ∧ 1 ≤ (W : Int) ∧ (W : Int) ≤ 4 ∧ st.length ≤ 4) := state_back hws.1
  have GI : Hid (∀ w' : World, Below w1.heap.size w1 w' → Calls Tryd.prog 10 #[.int .i64 W, sv] w' fun e w'' => ∃ r, e = .returned (.tuple #[r, .bool (bitsOk W st)]) ∧ OwnBS w'' w'.heap.size w''.heap.size r (bitsR W st) ∧ Below w'.heap.size w' w'') := fun w' hb => iBitsOf_any W sv st w' (HT.out w' (hb1.trans (hb.mono hb1.size))) (HS.out w' hb)
  have GS : Hid (∀ w' : World, Below w1.heap.size w1 w' → Calls Tryd.prog 11 #[.int .i64 W, sv] w' fun e w'' => ∃ r, e = .returned (.tuple #[r, .bool (bitsOk W st)]) ∧ OwnBS w'' w'.heap.size w''.heap.size r (bitsR W st) ∧ Below w'.heap.size w' w'') := fun w' hb => sBitsOf_any W sv st (by omega) w' (HS.out w' hb)
  have GF : Hid (∀ (b : Value) (w' : World), AtBC w' b (bitsR W st) → Calls Tryd.prog 13 #[.int .i64 W, b] w' fun e w'' => ∃ r, e = .returned (.tuple #[r, .bool (stateOk W (bitsR W st))]) ∧ OwnUS w'' w'.heap.size w''.heap.size r (stateR W (bitsR W st)) ∧ Below w'.heap.size w' w'') := fun b w' hb => iStateFrom_any W b (bitsR W st) w' hb
  have hbl := bitsR_len W st
  have HWS : Hid (WsOk st) := hws
  subst hsv
  generalize bitsR W st = BR at *
  have GB : Hid (∀ (u v : Value) (w' : World), BoolsAt w' u BR → BoolsAt w' v BR → Calls Tryd.prog 12 #[u, v] w' fun e w'' => e = .returned (.bool true) ∧ Below w'.heap.size w' w'') := fun u v w' h1 h2 => sameBools_same5 u v BR w' h1 h2
  have HW1 : Hid (Below w.heap.size w w1) := hb1
  have hz1 := Below.refl w1.heap.size w1
  clear hAt hos hws hb1
  generalize bitsOk W st = BK at *
  generalize st.length = sn at *
  go_wp2_with fail
  refine (GI.out _ hz1).mono ?_
  rintro e w2 ⟨b, rfl, hob, hs2⟩
  have hz2 := Below.step hz1 hz1.size hs2
  have hbr := hob.reads (by omega)
  have hbc := hob.handsC (by omega)
  obtain ⟨ba, bcap, hbs⟩ := own_shape hob.1
  subst hbs
  have HB2 : Hid (∀ w' : World, Below w2.heap.size w2 w' → BoolsAt w' (.slice ba BR.length bcap) BR ∧ AtBC w' (.slice ba BR.length bcap) BR) := fun w' hb => ⟨hbr.below hb, hbc.below hb⟩
  obtain ⟨bn, hbn⟩ : ∃ bn, BR.length = bn := ⟨_, rfl⟩
  rw [hbn] at HB2 HBK hbl
  rw [hbn]
  clear hob hs2 hz1 hbr hbc
  go_wp2_with fail
  refine (GS.out _ hz2).mono ?_
  rintro e w3 ⟨c, rfl, hoc, hs3⟩
  have hz3 := Below.step hz2 hz2.size hs3
  have hcr := hoc.reads (by omega)
  obtain ⟨ca, cn, ccap, hcs⟩ := hoc.shape
  subst hcs
  have g5 := GB.out _ _ _ (HB2.out _ hs3).1 hcr
  clear hoc hz2 hcr hbn
  go_wp2_with fail
  refine g5.mono ?_
  rintro e w4 ⟨rfl, hs4⟩
  have hz4 := Below.step hz3 hz3.size hs4
  have hy4 := Below.step hs3 hs3.size hs4
  clear g5 hs3 hs4 hz3 GI GS GB
  cases BK with
  | true =>
    obtain ⟨q1, q2, q3, q4, q5, q6⟩ := HBK.out rfl
    rw [q1, q2] at GF
    have GW : Hid (∀ (u v : Value) (w' : World), WordsAt w' u st → WordsAt w' v st → Calls Tryd.prog 14 #[u, v] w' fun e w'' => e = .returned (.bool true) ∧ Below w'.heap.size w' w'') := fun u v w' h1 h2 => sameWords_same u v st w' h1 h2
    have g6 := GF.out _ _ (HB2.out _ hy4).2
    clear q1 q2 HBK GF
    go_wp2_with fail
    refine g6.mono ?_
    rintro e w5 ⟨s, rfl, hos, hs5⟩
    have hz5 := Below.step hz4 hz4.size hs5
    have hsr := hos.reads HWS.out
    obtain ⟨ua, un, ucap, hus⟩ := hos.shape
    subst hus
    have g7 := GW.out _ _ _ hsr (HS.out _ hz5)
    have q3' : (W : Int) * (sn : Int) = (bn : Int) := q3.symm
    clear g6 hos hs5 hz4 hy4 hsr q3
    go_wp2_with fail
    refine g7.mono ?_
    rintro e w6 ⟨rfl, hs6⟩
    have HZ : Hid (Below w.heap.size w w6) := HW1.out.trans ((Below.step hz5 hz5.size hs6).mono HW1.out.size)
    clear g7 hs6 hz5 q4 q5 q6 GW HS HB2 HWS
    have g1 := drawStateFrom_any a1 l1 c1 w6 (HC1.out _ HZ.out)
    go_wp2_with fail
    refine g1.mono ?_
    rintro e v1 ⟨U, tv, t, rfl, hU5, ht30, hot, hv1⟩
    clear g1
    have HV1 : Hid (Below w.heap.size w v1) := HZ.out.trans (hv1.mono HZ.out.size)
    have htc := hot.handsC (by omega)
    have htb := hot.reads (by omega)
    obtain ⟨ta, tcap, htv⟩ := own_shape hot.1
    have HTC : Hid (∀ w' : World, Below v1.heap.size v1 w' → AtBC w' tv t ∧ BoolsAt w' tv t) := fun w' hb => ⟨htc.below hb, htb.below hb⟩
    have GI2 : Hid (∀ w' : World, Below v1.heap.size v1 w' → Calls Tryd.prog 13 #[.int .i64 U, tv] w' fun e w'' => ∃ r, e = .returned (.tuple #[r, .bool (stateOk U t)]) ∧ OwnUS w'' w'.heap.size w''.heap.size r (stateR U t) ∧ Below w'.heap.size w' w'') := fun w' hb => iStateFrom_any U tv t w' (HTC.out w' hb).1
    have GS2 : Hid (∀ w' : World, Below v1.heap.size v1 w' → Calls Tryd.prog 16 #[.int .i64 U, tv] w' fun e w'' => ∃ r, e = .returned (.tuple #[r, .bool (stateOk U t)]) ∧ OwnUS w'' w'.heap.size w''.heap.size r (stateR U t) ∧ Below w'.heap.size w' w'') := fun w' hb => sStateFrom_any U tv t w' (HTC.out w' hb).1
    have hsok := stateR_ok U t
    have HBK2 : Hid (stateOk U t = true → bitsOk U (stateR U t) = true ∧ bitsR U (stateR U t) = t) := bits_back
    have GB2 : Hid (∀ (s : Value) (w' : World), Below w.heap.size w w' → WordsAt w' s (stateR U t) → Calls Tryd.prog 10 #[.int .i64 U, s] w' fun e w'' => ∃ r, e = .returned (.tuple #[r, .bool (bitsOk U (stateR U t))]) ∧ OwnBS w'' w'.heap.size w''.heap.size r (bitsR U (stateR U t)) ∧ Below w'.heap.size w' w'') := fun s w' hb hs => iBitsOf_any U s (stateR U t) w' (HT.out w' hb) hs
    generalize stateR U t = SR at *
    have GW2 : Hid (∀ (u v : Value) (w' : World), WordsAt w' u SR → WordsAt w' v SR → Calls Tryd.prog 14 #[u, v] w' fun e w'' => e = .returned (.bool true) ∧ Below w'.heap.size w' w'') := fun u v w' h1 h2 => sameWords_same u v SR w' h1 h2
    generalize stateOk U t = SK at *
    subst htv
    have hy1 := Below.refl v1.heap.size v1
    clear hot htc htb hv1 HZ
    go_wp2_with fail
    refine (GI2.out _ hy1).mono ?_
    rintro e v2 ⟨s2, rfl, hos2, hs2⟩
    have hy2 := Below.step hy1 hy1.size hs2
    have hsr2 := hos2.reads hsok
    obtain ⟨xa, xn, xcap, hxs⟩ := hos2.shape
    subst hxs
    clear hos2 hs2 hy1
    go_wp2_with fail
    refine (GS2.out _ hy2).mono ?_
    rintro e v3 ⟨s3, rfl, hos3, hs3⟩
    have hy3 := Below.step hy2 hy2.size hs3
    have hsr3 := hos3.reads hsok
    have hsr23 := hsr2.below hs3
    obtain ⟨za, zn, zcap, hzs⟩ := hos3.shape
    subst hzs
    have g4 := GW2.out _ _ _ hsr23 hsr3
    clear hos3 hs3 hy2 hsr2 hsr3
    go_wp2_with fail
    refine g4.mono ?_
    rintro e v4 ⟨rfl, hs4⟩
    have hy4 := Below.step hy3 hy3.size hs4
    have hsr4 := hsr23.below hs4
    have HV4 : Hid (Below w.heap.size w v4) := HV1.out.trans (hy4.mono HV1.out.size)
    clear g4 hs4 hy3 hsr23 GI2 GS2 GW2
    cases SK with
    | false =>
      clear hy4 hsr4 GB2 HBK2
      go_wp2_with fail
      go_ret
      exact ⟨rfl, HV4.out⟩
    | true =>
      obtain ⟨r1, r2⟩ := HBK2.out rfl
      rw [r1, r2] at GB2
      have g5 := GB2.out _ _ HV4.out hsr4
      clear r1 r2 HBK2 GB2 hsr4
      go_wp2_with fail
      refine g5.mono ?_
      rintro e v5 ⟨x5, rfl, hox5, hs5⟩
      have hy5 := Below.step hy4 hy4.size hs5
      have hxr := hox5.reads (by omega)
      obtain ⟨ka, kn, kcap, hks⟩ := hox5.shape
      subst hks
      have g6 := sameBools_same5 _ _ t v5 hxr (HTC.out _ hy5).2
      clear g5 hox5 hs5 hy4 hxr
      go_wp2_with fail
      refine g6.mono ?_
      rintro e v6 ⟨rfl, hs6⟩
      have HV6 : Hid (Below w.heap.size w v6) := HV1.out.trans ((Below.step hy5 hy5.size hs6).mono HV1.out.size)
      clear g6 hs6 hy5
      go_wp2_with fail
      go_ret
      exact ⟨rfl, HV6.out⟩
  | false =>
    have HZ : Hid (Below w.heap.size w w4) := HW1.out.trans (hz4.mono HW1.out.size)
    clear hz4 hy4 HBK GF HS HB2 HWS hbl
    have g1 := drawStateFrom_any a1 l1 c1 w4 (HC1.out _ HZ.out)
    go_wp2_with fail
    refine g1.mono ?_
    rintro e v1 ⟨U, tv, t, rfl, hU5, ht30, hot, hv1⟩
    clear g1
    have HV1 : Hid (Below w.heap.size w v1) := HZ.out.trans (hv1.mono HZ.out.size)
    have htc := hot.handsC (by omega)
    have htb := hot.reads (by omega)
    obtain ⟨ta, tcap, htv⟩ := own_shape hot.1
    have HTC : Hid (∀ w' : World, Below v1.heap.size v1 w' → AtBC w' tv t ∧ BoolsAt w' tv t) := fun w' hb => ⟨htc.below hb, htb.below hb⟩
    have GI2 : Hid (∀ w' : World, Below v1.heap.size v1 w' → Calls Tryd.prog 13 #[.int .i64 U, tv] w' fun e w'' => ∃ r, e = .returned (.tuple #[r, .bool (stateOk U t)]) ∧ OwnUS w'' w'.heap.size w''.heap.size r (stateR U t) ∧ Below w'.heap.size w' w'') := fun w' hb => iStateFrom_any U tv t w' (HTC.out w' hb).1
    have GS2 : Hid (∀ w' : World, Below v1.heap.size v1 w' → Calls Tryd.prog 16 #[.int .i64 U, tv] w' fun e w'' => ∃ r, e = .returned (.tuple #[r, .bool (stateOk U t)]) ∧ OwnUS w'' w'.heap.size w''.heap.size r (stateR U t) ∧ Below w'.heap.size w' w'') := fun w' hb => sStateFrom_any U tv t w' (HTC.out w' hb).1
    have hsok := stateR_ok U t
    have HBK2 : Hid (stateOk U t = true → bitsOk U (stateR U t) = true ∧ bitsR U (stateR U t) = t) := bits_back
    have GB2 : Hid (∀ (s : Value) (w' : World), Below w.heap.size w w' → WordsAt w' s (stateR U t) → Calls Tryd.prog 10 #[.int .i64 U, s] w' fun e w'' => ∃ r, e = .returned (.tuple #[r, .bool (bitsOk U (stateR U t))]) ∧ OwnBS w'' w'.heap.size w''.heap.size r (bitsR U (stateR U t)) ∧ Below w'.heap.size w' w'') := fun s w' hb hs => iBitsOf_any U s (stateR U t) w' (HT.out w' hb) hs
    generalize stateR U t = SR at *
    have GW2 : Hid (∀ (u v : Value) (w' : World), WordsAt w' u SR → WordsAt w' v SR → Calls Tryd.prog 14 #[u, v] w' fun e w'' => e = .returned (.bool true) ∧ Below w'.heap.size w' w'') := fun u v w' h1 h2 => sameWords_same u v SR w' h1 h2
    generalize stateOk U t = SK at *
    subst htv
    have hy1 := Below.refl v1.heap.size v1
    clear hot htc htb hv1 HZ
    go_wp2_with fail
    refine (GI2.out _ hy1).mono ?_
    rintro e v2 ⟨s2, rfl, hos2, hs2⟩
    have hy2 := Below.step hy1 hy1.size hs2
    have hsr2 := hos2.reads hsok
    obtain ⟨xa, xn, xcap, hxs⟩ := hos2.shape
    subst hxs
    clear hos2 hs2 hy1
    go_wp2_with fail
    refine (GS2.out _ hy2).mono ?_
    rintro e v3 ⟨s3, rfl, hos3, hs3⟩
    have hy3 := Below.step hy2 hy2.size hs3
    have hsr3 := hos3.reads hsok
    have hsr23 := hsr2.below hs3
    obtain ⟨za, zn, zcap, hzs⟩ := hos3.shape
    subst hzs
    have g4 := GW2.out _ _ _ hsr23 hsr3
    clear hos3 hs3 hy2 hsr2 hsr3
    go_wp2_with fail
    refine g4.mono ?_
    rintro e v4 ⟨rfl, hs4⟩
    have hy4 := Below.step hy3 hy3.size hs4
    have hsr4 := hsr23.below hs4
    have HV4 : Hid (Below w.heap.size w v4) := HV1.out.trans (hy4.mono HV1.out.size)
    clear g4 hs4 hy3 hsr23 GI2 GS2 GW2
    cases SK with
    | false =>
      clear hy4 hsr4 GB2 HBK2
      go_wp2_with fail
      go_ret
      exact ⟨rfl, HV4.out⟩
    | true =>
      obtain ⟨r1, r2⟩ := HBK2.out rfl
      rw [r1, r2] at GB2
      have g5 := GB2.out _ _ HV4.out hsr4
      clear r1 r2 HBK2 GB2 hsr4
      go_wp2_with fail
      refine g5.mono ?_
      rintro e v5 ⟨x5, rfl, hox5, hs5⟩
      have hy5 := Below.step hy4 hy4.size hs5
      have hxr := hox5.reads (by omega)
      obtain ⟨ka, kn, kcap, hks⟩ := hox5.shape
      subst hks
      have g6 := sameBools_same5 _ _ t v5 hxr (HTC.out _ hy5).2
      clear g5 hox5 hs5 hy4 hxr
      go_wp2_with fail
      refine g6.mono ?_
      rintro e v6 ⟨rfl, hs6⟩
      have HV6 : Hid (Below w.heap.size w v6) := HV1.out.trans ((Below.step hy5 hy5.size hs6).mono HV1.out.size)
      clear g6 hs6 hy5
      go_wp2_with fail
      go_ret
      exact ⟨rfl, HV6.out⟩
end Go.Proofs.YtpjllhlbdcanlaaDoor
