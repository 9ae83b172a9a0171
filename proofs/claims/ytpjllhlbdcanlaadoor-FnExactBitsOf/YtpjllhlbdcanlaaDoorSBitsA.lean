/-
  The model's BitsOf, at any arguments.
-/
import Derived.Test.YtpjllhlbdcanlaaDoorSBits
import Derived.Test.YtpjllhlbdcanlaaDoorIBitsA
namespace Go.Proofs.YtpjllhlbdcanlaaDoor
open Go Go.RowKit
open M
set_option linter.unusedVariables false
set_option linter.unusedSimpArgs false

set_option maxRecDepth 100000 in
set_option maxHeartbeats 2000000 in
theorem sBitsOf_any (wide : Int) (v : Value) (st : List Int) (hl : st.length ≤ 1048576) (w : World) (h : WordsAt w v st) :
    Calls Tryd.prog 11 #[.int .i64 wide, v] w fun e w' => ∃ r, e = .returned (.tuple #[r, .bool (bitsOk wide st)]) ∧ OwnBS w' w.heap.size w'.heap.size r (bitsR wide st) ∧ Below w.heap.size w w' := by
  have g1 := l5Wide_any wide w
  have g2 := l1In_any (st.length : Int) 1 4 w
  have g3 := l2Words_any wide v st ⟨hl, h.1⟩ w h.2.2
  obtain ⟨a, cap, rfl⟩ := h.shape
  have hln := h.2.1
  by_cases hw : 1 ≤ wide ∧ wide ≤ 4
  · rw [decide_eq_true hw] at g1
    by_cases hn : 1 ≤ st.length ∧ st.length ≤ 4
    · rw [decide_eq_true (by omega)] at g2
      obtain ⟨W, rfl⟩ : ∃ W : Nat, wide = (W : Int) := ⟨wide.toNat, by omega⟩
      cases hall : st.all (goodB W) with
      | true =>
        have hb : bitsOk W st = true := by unfold bitsOk; rw [decide_eq_true hw, decide_eq_true hn, hall]; rfl
        have hr : bitsR W st = bitsL W st := by unfold bitsR; rw [if_pos hb]; simp
        rw [hb, hr]
        have g4 : Calls Tryd.prog 45 #[.int .i64 W, .slice a st.length cap] w fun e w' => ∃ r, e = .returned r ∧ w'.ownsRow w.heap.size 4 1 r (bitsL W st).length (cellsB (bitsL W st)) ∧ Below w.heap.size w w' := by
          rcases h.2.2 with ⟨rfl, _⟩ | ⟨b, off, cap', hv, hlt, hc⟩
          · simp at hn
          rw [hv]
          exact sBits_in W (by omega) (by omega) b off cap' st hn.1 hn.2 h.1 w hlt hc
        rw [hall] at g3
        generalize bitsL W st = L at *
        generalize st.length = n at *
        clear h hb hr hall
        go_enter Tryd.func11, Tryd.ntmps11
        go_wp2_with fail
        refine g1.mono ?_
        rintro e w1 ⟨rfl, rfl⟩
        go_wp2_with fail
        refine g2.mono ?_
        rintro e w1 ⟨rfl, rfl⟩
        go_wp2_with fail
        refine g3.mono ?_
        rintro e w1 ⟨rfl, rfl⟩
        go_wp2_with fail
        refine g4.mono ?_
        rintro e w2 ⟨r, rfl, ho, hb⟩
        have HO : Hid (OwnBS w2 w1.heap.size w2.heap.size r L) := rowIn_of ho
        have HB : Hid (Below w1.heap.size w1 w2) := hb
        clear ho hb
        go_wp2_with fail
        go_ret2
        exact ⟨_, rfl, HO.out, HB.out⟩
      | false =>
        have hb : bitsOk W st = false := by unfold bitsOk; rw [hall, Bool.and_false, Bool.and_false]
        rw [hb, bitsR_no hb]
        rw [hall] at g3
        generalize st.length = n at *
        clear h hb hall
        go_enter Tryd.func11, Tryd.ntmps11
        go_wp2_with fail
        refine g1.mono ?_
        rintro e w1 ⟨rfl, rfl⟩
        go_wp2_with fail
        refine g2.mono ?_
        rintro e w1 ⟨rfl, rfl⟩
        go_wp2_with fail
        refine g3.mono ?_
        rintro e w1 ⟨rfl, rfl⟩
        go_wp2_with fail
        go_ret2
        exact ⟨_, rfl, own_nilB _ _ _ (Nat.le_refl _), Below.refl _ _⟩
    · have hb : bitsOk wide st = false := by unfold bitsOk; rw [decide_eq_false hn, Bool.false_and, Bool.and_false]
      rw [hb, bitsR_no hb]
      rw [decide_eq_false (by omega)] at g2
      generalize st.length = n at *
      clear h hb g3
      go_enter Tryd.func11, Tryd.ntmps11
      go_wp2_with fail
      refine g1.mono ?_
      rintro e w1 ⟨rfl, rfl⟩
      go_wp2_with fail
      refine g2.mono ?_
      rintro e w1 ⟨rfl, rfl⟩
      go_wp2_with fail
      go_ret2
      exact ⟨_, rfl, own_nilB _ _ _ (Nat.le_refl _), Below.refl _ _⟩
  · have hb : bitsOk wide st = false := by unfold bitsOk; rw [decide_eq_false hw, Bool.false_and]
    rw [hb, bitsR_no hb]
    rw [decide_eq_false hw] at g1
    generalize st.length = n at *
    clear h hb g2 g3
    go_enter Tryd.func11, Tryd.ntmps11
    go_wp2_with fail
    refine g1.mono ?_
    rintro e w1 ⟨rfl, rfl⟩
    go_wp2_with fail
    go_ret2
    exact ⟨_, rfl, own_nilB _ _ _ (Nat.le_refl _), Below.refl _ _⟩
end Go.Proofs.YtpjllhlbdcanlaaDoor
