/-
  StateFrom at any arguments: the program's and the model's.
-/
import Derived.Test.YtpjllhlbdcanlaaIState
import Derived.Test.YtpjllhlbdcanlaaSState
namespace Go.Proofs.Ytpjllhlbdcanlaa
open Go Go.RowKit
open M
set_option linter.unusedVariables false
set_option linter.unusedSimpArgs false

set_option maxRecDepth 100000 in
set_option maxHeartbeats 2000000 in
theorem iStateFrom_any_1 (v : Value) (l : List Bool) (w : World) (h : AtBC w v l) :
    Calls Try.prog 68 #[.int .i64 1, v] w fun e w' => ∃ r, e = .returned (.tuple #[r, .bool (stateOk 1 l)]) ∧ OwnUS w' w.heap.size w'.heap.size r (stateR 1 l) ∧ Below w.heap.size w w' := by
  obtain ⟨a, cap, rfl⟩ := h.1.1.shape
  have hln := h.1.1.1
  have g1 := goodLaid_any 1 w
  rw [decide_eq_true (by omega)] at g1
  by_cases hm : l.length % 1 = 0
  · obtain ⟨m, hmm⟩ : ∃ m, l.length / 1 = m := ⟨_, rfl⟩
    obtain rfl : m = l.length := by omega
    by_cases hm4 : 1 ≤ l.length ∧ l.length ≤ 4
    · have hb : stateOk 1 l = true := by
        unfold stateOk
        rw [show ((1 : Int).toNat) = 1 from rfl, hmm, decide_eq_true hm4, decide_eq_true hm]
        decide
      have hr : stateR 1 l = stateL 1 l.length l := by unfold stateR; rw [if_pos hb, show ((1 : Int).toNat) = 1 from rfl, hmm]
      rw [hb, hr]
      rcases h.1.opened with ⟨e, _⟩ | ⟨g, cap', hv, hlt, hcm, hc⟩
      · subst e
        simp at hm4
      · injection hv with e1 e2 e3
        subst e1 e3
        have hcap := h.2 _ _ _ rfl
        refine (iState_1 g 0 cap l.length l.length l rfl (by omega) hm4.1 hm4.2 hcap hcm w hlt hc).mono ?_
        rintro e w' ⟨r, he, ho, hb⟩
        exact ⟨r, he, rowIn_of ho, hb⟩
    · have hb : stateOk 1 l = false := by
        unfold stateOk
        rw [show ((1 : Int).toNat) = 1 from rfl, hmm, decide_eq_false hm4, Bool.and_false, Bool.and_false]
      rw [hb, stateR_no hb]
      have g2 := goodVars_no (l.length : Int) (by omega) w
      have hn0 : (0 : Int) ≤ (l.length : Int) := by omega
      clear hm hmm hm4 h hb
      generalize l.length = n at *
      go_enter Try.func68, Try.ntmps68
      go_wp2_with fail
      refine g1.mono ?_
      rintro e w1 ⟨rfl, rfl⟩
      go_wp2_with fail
      refine g2.mono ?_
      rintro e w1 ⟨rfl, rfl⟩
      go_wp2_with fail
      go_ret2
      exact ⟨_, rfl, own_nilU _ _ _ (Nat.le_refl _), Below.refl _ _⟩
  · exact absurd (Nat.mod_one _) hm
set_option maxRecDepth 100000 in
set_option maxHeartbeats 2000000 in
theorem iStateFrom_any_2 (v : Value) (l : List Bool) (w : World) (h : AtBC w v l) :
    Calls Try.prog 68 #[.int .i64 2, v] w fun e w' => ∃ r, e = .returned (.tuple #[r, .bool (stateOk 2 l)]) ∧ OwnUS w' w.heap.size w'.heap.size r (stateR 2 l) ∧ Below w.heap.size w w' := by
  obtain ⟨a, cap, rfl⟩ := h.1.1.shape
  have hln := h.1.1.1
  have g1 := goodLaid_any 2 w
  rw [decide_eq_true (by omega)] at g1
  by_cases hm : l.length % 2 = 0
  · obtain ⟨m, hmm⟩ : ∃ m, l.length / 2 = m := ⟨_, rfl⟩
    by_cases hm4 : 1 ≤ m ∧ m ≤ 4
    · have hb : stateOk 2 l = true := by
        unfold stateOk
        rw [show ((2 : Int).toNat) = 2 from rfl, hmm, decide_eq_true hm4, decide_eq_true hm]
        decide
      have hr : stateR 2 l = stateL 2 m l := by unfold stateR; rw [if_pos hb, show ((2 : Int).toNat) = 2 from rfl, hmm]
      rw [hb, hr]
      rcases h.1.opened with ⟨e, _⟩ | ⟨g, cap', hv, hlt, hcm, hc⟩
      · subst e
        simp at hmm
        omega
      · injection hv with e1 e2 e3
        subst e1 e3
        have hcap := h.2 _ _ _ rfl
        refine (iState_2 g 0 cap l.length m l rfl (by omega) hm4.1 hm4.2 hcap hcm w hlt hc).mono ?_
        rintro e w' ⟨r, he, ho, hb⟩
        exact ⟨r, he, rowIn_of ho, hb⟩
    · have hb : stateOk 2 l = false := by
        unfold stateOk
        rw [show ((2 : Int).toNat) = 2 from rfl, hmm, decide_eq_false hm4, Bool.and_false, Bool.and_false]
      rw [hb, stateR_no hb]
      have g2 := goodVars_no (m : Int) (by omega) w
      have hdiv : (l.length : Int) / 2 = m := by omega
      have hmod : (l.length : Int) % 2 = 0 := by omega
      have hn0 : (0 : Int) ≤ (l.length : Int) := by omega
      clear hm hmm hm4 h hb
      generalize l.length = n at *
      go_enter Try.func68, Try.ntmps68
      go_wp2_with fail
      refine g1.mono ?_
      rintro e w1 ⟨rfl, rfl⟩
      go_wp2_with fail
      refine g2.mono ?_
      rintro e w1 ⟨rfl, rfl⟩
      go_wp2_with fail
      go_ret2
      exact ⟨_, rfl, own_nilU _ _ _ (Nat.le_refl _), Below.refl _ _⟩
  · have hb : stateOk 2 l = false := by
      unfold stateOk
      rw [show ((2 : Int).toNat) = 2 from rfl, decide_eq_false hm, Bool.false_and, Bool.and_false]
    rw [hb, stateR_no hb]
    have hmod : ¬ (l.length : Int) % 2 = 0 := by omega
    have hn0 : (0 : Int) ≤ (l.length : Int) := by omega
    have hdiv : ((l.length : Int) % 2 == 0) = false := beq_eq_false_iff_ne.2 hmod
    clear hm h hb
    generalize l.length = n at *
    go_enter Try.func68, Try.ntmps68
    go_wp2_with fail
    refine g1.mono ?_
    rintro e w1 ⟨rfl, rfl⟩
    go_wp2_with fail
    go_ret2
    exact ⟨_, rfl, own_nilU _ _ _ (Nat.le_refl _), Below.refl _ _⟩
set_option maxRecDepth 100000 in
set_option maxHeartbeats 2000000 in
theorem iStateFrom_any_3 (v : Value) (l : List Bool) (w : World) (h : AtBC w v l) :
    Calls Try.prog 68 #[.int .i64 3, v] w fun e w' => ∃ r, e = .returned (.tuple #[r, .bool (stateOk 3 l)]) ∧ OwnUS w' w.heap.size w'.heap.size r (stateR 3 l) ∧ Below w.heap.size w w' := by
  obtain ⟨a, cap, rfl⟩ := h.1.1.shape
  have hln := h.1.1.1
  have g1 := goodLaid_any 3 w
  rw [decide_eq_true (by omega)] at g1
  by_cases hm : l.length % 3 = 0
  · obtain ⟨m, hmm⟩ : ∃ m, l.length / 3 = m := ⟨_, rfl⟩
    by_cases hm4 : 1 ≤ m ∧ m ≤ 4
    · have hb : stateOk 3 l = true := by
        unfold stateOk
        rw [show ((3 : Int).toNat) = 3 from rfl, hmm, decide_eq_true hm4, decide_eq_true hm]
        decide
      have hr : stateR 3 l = stateL 3 m l := by unfold stateR; rw [if_pos hb, show ((3 : Int).toNat) = 3 from rfl, hmm]
      rw [hb, hr]
      rcases h.1.opened with ⟨e, _⟩ | ⟨g, cap', hv, hlt, hcm, hc⟩
      · subst e
        simp at hmm
        omega
      · injection hv with e1 e2 e3
        subst e1 e3
        have hcap := h.2 _ _ _ rfl
        refine (iState_3 g 0 cap l.length m l rfl (by omega) hm4.1 hm4.2 hcap hcm w hlt hc).mono ?_
        rintro e w' ⟨r, he, ho, hb⟩
        exact ⟨r, he, rowIn_of ho, hb⟩
    · have hb : stateOk 3 l = false := by
        unfold stateOk
        rw [show ((3 : Int).toNat) = 3 from rfl, hmm, decide_eq_false hm4, Bool.and_false, Bool.and_false]
      rw [hb, stateR_no hb]
      have g2 := goodVars_no (m : Int) (by omega) w
      have hdiv : (l.length : Int) / 3 = m := by omega
      have hmod : (l.length : Int) % 3 = 0 := by omega
      have hn0 : (0 : Int) ≤ (l.length : Int) := by omega
      clear hm hmm hm4 h hb
      generalize l.length = n at *
      go_enter Try.func68, Try.ntmps68
      go_wp2_with fail
      refine g1.mono ?_
      rintro e w1 ⟨rfl, rfl⟩
      go_wp2_with fail
      refine g2.mono ?_
      rintro e w1 ⟨rfl, rfl⟩
      go_wp2_with fail
      go_ret2
      exact ⟨_, rfl, own_nilU _ _ _ (Nat.le_refl _), Below.refl _ _⟩
  · have hb : stateOk 3 l = false := by
      unfold stateOk
      rw [show ((3 : Int).toNat) = 3 from rfl, decide_eq_false hm, Bool.false_and, Bool.and_false]
    rw [hb, stateR_no hb]
    have hmod : ¬ (l.length : Int) % 3 = 0 := by omega
    have hn0 : (0 : Int) ≤ (l.length : Int) := by omega
    have hdiv : ((l.length : Int) % 3 == 0) = false := beq_eq_false_iff_ne.2 hmod
    clear hm h hb
    generalize l.length = n at *
    go_enter Try.func68, Try.ntmps68
    go_wp2_with fail
    refine g1.mono ?_
    rintro e w1 ⟨rfl, rfl⟩
    go_wp2_with fail
    go_ret2
    exact ⟨_, rfl, own_nilU _ _ _ (Nat.le_refl _), Below.refl _ _⟩
set_option maxRecDepth 100000 in
set_option maxHeartbeats 2000000 in
theorem iStateFrom_any_4 (v : Value) (l : List Bool) (w : World) (h : AtBC w v l) :
    Calls Try.prog 68 #[.int .i64 4, v] w fun e w' => ∃ r, e = .returned (.tuple #[r, .bool (stateOk 4 l)]) ∧ OwnUS w' w.heap.size w'.heap.size r (stateR 4 l) ∧ Below w.heap.size w w' := by
  obtain ⟨a, cap, rfl⟩ := h.1.1.shape
  have hln := h.1.1.1
  have g1 := goodLaid_any 4 w
  rw [decide_eq_true (by omega)] at g1
  by_cases hm : l.length % 4 = 0
  · obtain ⟨m, hmm⟩ : ∃ m, l.length / 4 = m := ⟨_, rfl⟩
    by_cases hm4 : 1 ≤ m ∧ m ≤ 4
    · have hb : stateOk 4 l = true := by
        unfold stateOk
        rw [show ((4 : Int).toNat) = 4 from rfl, hmm, decide_eq_true hm4, decide_eq_true hm]
        decide
      have hr : stateR 4 l = stateL 4 m l := by unfold stateR; rw [if_pos hb, show ((4 : Int).toNat) = 4 from rfl, hmm]
      rw [hb, hr]
      rcases h.1.opened with ⟨e, _⟩ | ⟨g, cap', hv, hlt, hcm, hc⟩
      · subst e
        simp at hmm
        omega
      · injection hv with e1 e2 e3
        subst e1 e3
        have hcap := h.2 _ _ _ rfl
        refine (iState_4 g 0 cap l.length m l rfl (by omega) hm4.1 hm4.2 hcap hcm w hlt hc).mono ?_
        rintro e w' ⟨r, he, ho, hb⟩
        exact ⟨r, he, rowIn_of ho, hb⟩
    · have hb : stateOk 4 l = false := by
        unfold stateOk
        rw [show ((4 : Int).toNat) = 4 from rfl, hmm, decide_eq_false hm4, Bool.and_false, Bool.and_false]
      rw [hb, stateR_no hb]
      have g2 := goodVars_no (m : Int) (by omega) w
      have hdiv : (l.length : Int) / 4 = m := by omega
      have hmod : (l.length : Int) % 4 = 0 := by omega
      have hn0 : (0 : Int) ≤ (l.length : Int) := by omega
      clear hm hmm hm4 h hb
      generalize l.length = n at *
      go_enter Try.func68, Try.ntmps68
      go_wp2_with fail
      refine g1.mono ?_
      rintro e w1 ⟨rfl, rfl⟩
      go_wp2_with fail
      refine g2.mono ?_
      rintro e w1 ⟨rfl, rfl⟩
      go_wp2_with fail
      go_ret2
      exact ⟨_, rfl, own_nilU _ _ _ (Nat.le_refl _), Below.refl _ _⟩
  · have hb : stateOk 4 l = false := by
      unfold stateOk
      rw [show ((4 : Int).toNat) = 4 from rfl, decide_eq_false hm, Bool.false_and, Bool.and_false]
    rw [hb, stateR_no hb]
    have hmod : ¬ (l.length : Int) % 4 = 0 := by omega
    have hn0 : (0 : Int) ≤ (l.length : Int) := by omega
    have hdiv : ((l.length : Int) % 4 == 0) = false := beq_eq_false_iff_ne.2 hmod
    clear hm h hb
    generalize l.length = n at *
    go_enter Try.func68, Try.ntmps68
    go_wp2_with fail
    refine g1.mono ?_
    rintro e w1 ⟨rfl, rfl⟩
    go_wp2_with fail
    go_ret2
    exact ⟨_, rfl, own_nilU _ _ _ (Nat.le_refl _), Below.refl _ _⟩
set_option maxRecDepth 100000 in
theorem iStateFrom_any (wide : Int) (v : Value) (l : List Bool) (w : World) (h : AtBC w v l) :
    Calls Try.prog 68 #[.int .i64 wide, v] w fun e w' => ∃ r, e = .returned (.tuple #[r, .bool (stateOk wide l)]) ∧ OwnUS w' w.heap.size w'.heap.size r (stateR wide l) ∧ Below w.heap.size w w' := by
  by_cases hw : 1 ≤ wide ∧ wide ≤ 4
  · have hm : wide = 1 ∨ wide = 2 ∨ wide = 3 ∨ wide = 4 := by omega
    rcases hm with rfl | rfl | rfl | rfl
    · exact iStateFrom_any_1 v l w h
    · exact iStateFrom_any_2 v l w h
    · exact iStateFrom_any_3 v l w h
    · exact iStateFrom_any_4 v l w h
  · have hb : stateOk wide l = false := by unfold stateOk; rw [decide_eq_false hw, Bool.false_and]
    rw [hb, stateR_no hb]
    have g1 := goodLaid_any wide w
    rw [decide_eq_false hw] at g1
    obtain ⟨a, cap, rfl⟩ := h.1.1.shape
    clear h hb hw
    generalize l.length = n at *
    go_enter Try.func68, Try.ntmps68
    go_wp2_with fail
    refine g1.mono ?_
    rintro e w1 ⟨rfl, rfl⟩
    go_wp2_with fail
    go_ret2
    exact ⟨_, rfl, own_nilU _ _ _ (Nat.le_refl _), Below.refl _ _⟩
set_option maxRecDepth 100000 in
set_option maxHeartbeats 2000000 in
theorem sStateFrom_any_1 (v : Value) (l : List Bool) (w : World) (h : AtBC w v l) :
    Calls Try.prog 66 #[.int .i64 1, v] w fun e w' => ∃ r, e = .returned (.tuple #[r, .bool (stateOk 1 l)]) ∧ OwnUS w' w.heap.size w'.heap.size r (stateR 1 l) ∧ Below w.heap.size w w' := by
  obtain ⟨a, cap, rfl⟩ := h.1.1.shape
  have hln := h.1.1.1
  have g1 := l5Wide_any 1 w
  rw [decide_eq_true (by omega)] at g1
  by_cases hm : l.length % 1 = 0
  · obtain ⟨m, hmm⟩ : ∃ m, l.length / 1 = m := ⟨_, rfl⟩
    obtain rfl : m = l.length := by omega
    by_cases hm4 : 1 ≤ l.length ∧ l.length ≤ 4
    · have hb : stateOk 1 l = true := by
        unfold stateOk
        rw [show ((1 : Int).toNat) = 1 from rfl, hmm, decide_eq_true hm4, decide_eq_true hm]
        decide
      have hr : stateR 1 l = stateL 1 l.length l := by unfold stateR; rw [if_pos hb, show ((1 : Int).toNat) = 1 from rfl, hmm]
      rw [hb, hr]
      rcases h.1.opened with ⟨e, _⟩ | ⟨g, cap', hv, hlt, hcm, hc⟩
      · subst e
        simp at hm4
      · injection hv with e1 e2 e3
        subst e1 e3
        have hcap := h.2 _ _ _ rfl
        refine (sState_1 g 0 cap l.length l.length l rfl (by omega) hm4.1 hm4.2 w hlt hc).mono ?_
        rintro e w' ⟨r, he, ho, hb⟩
        exact ⟨r, he, rowIn_of ho, hb⟩
    · have hb : stateOk 1 l = false := by
        unfold stateOk
        rw [show ((1 : Int).toNat) = 1 from rfl, hmm, decide_eq_false hm4, Bool.and_false, Bool.and_false]
      rw [hb, stateR_no hb]
      have g2 := l1In_any (l.length : Int) 1 4 w
      rw [decide_eq_false (by omega)] at g2
      have hn0 : (0 : Int) ≤ (l.length : Int) := by omega
      clear hm hmm hm4 h hb
      generalize l.length = n at *
      go_enter Try.func66, Try.ntmps66
      go_wp2_with fail
      refine g1.mono ?_
      rintro e w1 ⟨rfl, rfl⟩
      go_wp2_with fail
      refine g2.mono ?_
      rintro e w1 ⟨rfl, rfl⟩
      go_wp2_with fail
      go_ret2
      exact ⟨_, rfl, own_nilU _ _ _ (Nat.le_refl _), Below.refl _ _⟩
  · exact absurd (Nat.mod_one _) hm
set_option maxRecDepth 100000 in
set_option maxHeartbeats 2000000 in
theorem sStateFrom_any_2 (v : Value) (l : List Bool) (w : World) (h : AtBC w v l) :
    Calls Try.prog 66 #[.int .i64 2, v] w fun e w' => ∃ r, e = .returned (.tuple #[r, .bool (stateOk 2 l)]) ∧ OwnUS w' w.heap.size w'.heap.size r (stateR 2 l) ∧ Below w.heap.size w w' := by
  obtain ⟨a, cap, rfl⟩ := h.1.1.shape
  have hln := h.1.1.1
  have g1 := l5Wide_any 2 w
  rw [decide_eq_true (by omega)] at g1
  by_cases hm : l.length % 2 = 0
  · obtain ⟨m, hmm⟩ : ∃ m, l.length / 2 = m := ⟨_, rfl⟩
    by_cases hm4 : 1 ≤ m ∧ m ≤ 4
    · have hb : stateOk 2 l = true := by
        unfold stateOk
        rw [show ((2 : Int).toNat) = 2 from rfl, hmm, decide_eq_true hm4, decide_eq_true hm]
        decide
      have hr : stateR 2 l = stateL 2 m l := by unfold stateR; rw [if_pos hb, show ((2 : Int).toNat) = 2 from rfl, hmm]
      rw [hb, hr]
      rcases h.1.opened with ⟨e, _⟩ | ⟨g, cap', hv, hlt, hcm, hc⟩
      · subst e
        simp at hmm
        omega
      · injection hv with e1 e2 e3
        subst e1 e3
        have hcap := h.2 _ _ _ rfl
        refine (sState_2 g 0 cap l.length m l rfl (by omega) hm4.1 hm4.2 w hlt hc).mono ?_
        rintro e w' ⟨r, he, ho, hb⟩
        exact ⟨r, he, rowIn_of ho, hb⟩
    · have hb : stateOk 2 l = false := by
        unfold stateOk
        rw [show ((2 : Int).toNat) = 2 from rfl, hmm, decide_eq_false hm4, Bool.and_false, Bool.and_false]
      rw [hb, stateR_no hb]
      have g2 := l1In_any (m : Int) 1 4 w
      rw [decide_eq_false (by omega)] at g2
      have hdiv : (l.length : Int) / 2 = m := by omega
      have hmod : (l.length : Int) % 2 = 0 := by omega
      have hn0 : (0 : Int) ≤ (l.length : Int) := by omega
      clear hm hmm hm4 h hb
      generalize l.length = n at *
      go_enter Try.func66, Try.ntmps66
      go_wp2_with fail
      refine g1.mono ?_
      rintro e w1 ⟨rfl, rfl⟩
      go_wp2_with fail
      refine g2.mono ?_
      rintro e w1 ⟨rfl, rfl⟩
      go_wp2_with fail
      go_ret2
      exact ⟨_, rfl, own_nilU _ _ _ (Nat.le_refl _), Below.refl _ _⟩
  · have hb : stateOk 2 l = false := by
      unfold stateOk
      rw [show ((2 : Int).toNat) = 2 from rfl, decide_eq_false hm, Bool.false_and, Bool.and_false]
    rw [hb, stateR_no hb]
    have hmod : ¬ (l.length : Int) % 2 = 0 := by omega
    have hn0 : (0 : Int) ≤ (l.length : Int) := by omega
    have hdiv : ((l.length : Int) % 2 == 0) = false := beq_eq_false_iff_ne.2 hmod
    clear hm h hb
    generalize l.length = n at *
    go_enter Try.func66, Try.ntmps66
    go_wp2_with fail
    refine g1.mono ?_
    rintro e w1 ⟨rfl, rfl⟩
    go_wp2_with fail
    go_ret2
    exact ⟨_, rfl, own_nilU _ _ _ (Nat.le_refl _), Below.refl _ _⟩
set_option maxRecDepth 100000 in
set_option maxHeartbeats 2000000 in
theorem sStateFrom_any_3 (v : Value) (l : List Bool) (w : World) (h : AtBC w v l) :
    Calls Try.prog 66 #[.int .i64 3, v] w fun e w' => ∃ r, e = .returned (.tuple #[r, .bool (stateOk 3 l)]) ∧ OwnUS w' w.heap.size w'.heap.size r (stateR 3 l) ∧ Below w.heap.size w w' := by
  obtain ⟨a, cap, rfl⟩ := h.1.1.shape
  have hln := h.1.1.1
  have g1 := l5Wide_any 3 w
  rw [decide_eq_true (by omega)] at g1
  by_cases hm : l.length % 3 = 0
  · obtain ⟨m, hmm⟩ : ∃ m, l.length / 3 = m := ⟨_, rfl⟩
    by_cases hm4 : 1 ≤ m ∧ m ≤ 4
    · have hb : stateOk 3 l = true := by
        unfold stateOk
        rw [show ((3 : Int).toNat) = 3 from rfl, hmm, decide_eq_true hm4, decide_eq_true hm]
        decide
      have hr : stateR 3 l = stateL 3 m l := by unfold stateR; rw [if_pos hb, show ((3 : Int).toNat) = 3 from rfl, hmm]
      rw [hb, hr]
      rcases h.1.opened with ⟨e, _⟩ | ⟨g, cap', hv, hlt, hcm, hc⟩
      · subst e
        simp at hmm
        omega
      · injection hv with e1 e2 e3
        subst e1 e3
        have hcap := h.2 _ _ _ rfl
        refine (sState_3 g 0 cap l.length m l rfl (by omega) hm4.1 hm4.2 w hlt hc).mono ?_
        rintro e w' ⟨r, he, ho, hb⟩
        exact ⟨r, he, rowIn_of ho, hb⟩
    · have hb : stateOk 3 l = false := by
        unfold stateOk
        rw [show ((3 : Int).toNat) = 3 from rfl, hmm, decide_eq_false hm4, Bool.and_false, Bool.and_false]
      rw [hb, stateR_no hb]
      have g2 := l1In_any (m : Int) 1 4 w
      rw [decide_eq_false (by omega)] at g2
      have hdiv : (l.length : Int) / 3 = m := by omega
      have hmod : (l.length : Int) % 3 = 0 := by omega
      have hn0 : (0 : Int) ≤ (l.length : Int) := by omega
      clear hm hmm hm4 h hb
      generalize l.length = n at *
      go_enter Try.func66, Try.ntmps66
      go_wp2_with fail
      refine g1.mono ?_
      rintro e w1 ⟨rfl, rfl⟩
      go_wp2_with fail
      refine g2.mono ?_
      rintro e w1 ⟨rfl, rfl⟩
      go_wp2_with fail
      go_ret2
      exact ⟨_, rfl, own_nilU _ _ _ (Nat.le_refl _), Below.refl _ _⟩
  · have hb : stateOk 3 l = false := by
      unfold stateOk
      rw [show ((3 : Int).toNat) = 3 from rfl, decide_eq_false hm, Bool.false_and, Bool.and_false]
    rw [hb, stateR_no hb]
    have hmod : ¬ (l.length : Int) % 3 = 0 := by omega
    have hn0 : (0 : Int) ≤ (l.length : Int) := by omega
    have hdiv : ((l.length : Int) % 3 == 0) = false := beq_eq_false_iff_ne.2 hmod
    clear hm h hb
    generalize l.length = n at *
    go_enter Try.func66, Try.ntmps66
    go_wp2_with fail
    refine g1.mono ?_
    rintro e w1 ⟨rfl, rfl⟩
    go_wp2_with fail
    go_ret2
    exact ⟨_, rfl, own_nilU _ _ _ (Nat.le_refl _), Below.refl _ _⟩
set_option maxRecDepth 100000 in
set_option maxHeartbeats 2000000 in
theorem sStateFrom_any_4 (v : Value) (l : List Bool) (w : World) (h : AtBC w v l) :
    Calls Try.prog 66 #[.int .i64 4, v] w fun e w' => ∃ r, e = .returned (.tuple #[r, .bool (stateOk 4 l)]) ∧ OwnUS w' w.heap.size w'.heap.size r (stateR 4 l) ∧ Below w.heap.size w w' := by
  obtain ⟨a, cap, rfl⟩ := h.1.1.shape
  have hln := h.1.1.1
  have g1 := l5Wide_any 4 w
  rw [decide_eq_true (by omega)] at g1
  by_cases hm : l.length % 4 = 0
  · obtain ⟨m, hmm⟩ : ∃ m, l.length / 4 = m := ⟨_, rfl⟩
    by_cases hm4 : 1 ≤ m ∧ m ≤ 4
    · have hb : stateOk 4 l = true := by
        unfold stateOk
        rw [show ((4 : Int).toNat) = 4 from rfl, hmm, decide_eq_true hm4, decide_eq_true hm]
        decide
      have hr : stateR 4 l = stateL 4 m l := by unfold stateR; rw [if_pos hb, show ((4 : Int).toNat) = 4 from rfl, hmm]
      rw [hb, hr]
      rcases h.1.opened with ⟨e, _⟩ | ⟨g, cap', hv, hlt, hcm, hc⟩
      · subst e
        simp at hmm
        omega
      · injection hv with e1 e2 e3
        subst e1 e3
        have hcap := h.2 _ _ _ rfl
        refine (sState_4 g 0 cap l.length m l rfl (by omega) hm4.1 hm4.2 w hlt hc).mono ?_
        rintro e w' ⟨r, he, ho, hb⟩
        exact ⟨r, he, rowIn_of ho, hb⟩
    · have hb : stateOk 4 l = false := by
        unfold stateOk
        rw [show ((4 : Int).toNat) = 4 from rfl, hmm, decide_eq_false hm4, Bool.and_false, Bool.and_false]
      rw [hb, stateR_no hb]
      have g2 := l1In_any (m : Int) 1 4 w
      rw [decide_eq_false (by omega)] at g2
      have hdiv : (l.length : Int) / 4 = m := by omega
      have hmod : (l.length : Int) % 4 = 0 := by omega
      have hn0 : (0 : Int) ≤ (l.length : Int) := by omega
      clear hm hmm hm4 h hb
      generalize l.length = n at *
      go_enter Try.func66, Try.ntmps66
      go_wp2_with fail
      refine g1.mono ?_
      rintro e w1 ⟨rfl, rfl⟩
      go_wp2_with fail
      refine g2.mono ?_
      rintro e w1 ⟨rfl, rfl⟩
      go_wp2_with fail
      go_ret2
      exact ⟨_, rfl, own_nilU _ _ _ (Nat.le_refl _), Below.refl _ _⟩
  · have hb : stateOk 4 l = false := by
      unfold stateOk
      rw [show ((4 : Int).toNat) = 4 from rfl, decide_eq_false hm, Bool.false_and, Bool.and_false]
    rw [hb, stateR_no hb]
    have hmod : ¬ (l.length : Int) % 4 = 0 := by omega
    have hn0 : (0 : Int) ≤ (l.length : Int) := by omega
    have hdiv : ((l.length : Int) % 4 == 0) = false := beq_eq_false_iff_ne.2 hmod
    clear hm h hb
    generalize l.length = n at *
    go_enter Try.func66, Try.ntmps66
    go_wp2_with fail
    refine g1.mono ?_
    rintro e w1 ⟨rfl, rfl⟩
    go_wp2_with fail
    go_ret2
    exact ⟨_, rfl, own_nilU _ _ _ (Nat.le_refl _), Below.refl _ _⟩
set_option maxRecDepth 100000 in
theorem sStateFrom_any (wide : Int) (v : Value) (l : List Bool) (w : World) (h : AtBC w v l) :
    Calls Try.prog 66 #[.int .i64 wide, v] w fun e w' => ∃ r, e = .returned (.tuple #[r, .bool (stateOk wide l)]) ∧ OwnUS w' w.heap.size w'.heap.size r (stateR wide l) ∧ Below w.heap.size w w' := by
  by_cases hw : 1 ≤ wide ∧ wide ≤ 4
  · have hm : wide = 1 ∨ wide = 2 ∨ wide = 3 ∨ wide = 4 := by omega
    rcases hm with rfl | rfl | rfl | rfl
    · exact sStateFrom_any_1 v l w h
    · exact sStateFrom_any_2 v l w h
    · exact sStateFrom_any_3 v l w h
    · exact sStateFrom_any_4 v l w h
  · have hb : stateOk wide l = false := by unfold stateOk; rw [decide_eq_false hw, Bool.false_and]
    rw [hb, stateR_no hb]
    have g1 := l5Wide_any wide w
    rw [decide_eq_false hw] at g1
    obtain ⟨a, cap, rfl⟩ := h.1.1.shape
    clear h hb hw
    generalize l.length = n at *
    go_enter Try.func66, Try.ntmps66
    go_wp2_with fail
    refine g1.mono ?_
    rintro e w1 ⟨rfl, rfl⟩
    go_wp2_with fail
    go_ret2
    exact ⟨_, rfl, own_nilU _ _ _ (Nat.le_refl _), Below.refl _ _⟩
end Go.Proofs.Ytpjllhlbdcanlaa
