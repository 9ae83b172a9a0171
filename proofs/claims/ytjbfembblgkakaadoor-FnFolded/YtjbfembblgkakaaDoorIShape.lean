/-
  What an op takes and is, whether a node's number is as its op wants it, how many variables there may be: the program's shapeOf, goodN, goodVars.
-/
import Derived.Test.YtjbfembblgkakaaDoorIHeap
namespace Go.Proofs.YtjbfembblgkakaaDoor
open Go Go.RowKit
open M
set_option linter.unusedVariables false

/-- the kind of an op's parts; 0 where it has none -/
def wantOf (op : Int) : Int := if manyOf op = 0 then 0 else partOf op
theorem wantOf_part {op : Int} (h : manyOf op ≠ 0) : wantOf op = partOf op := by unfold wantOf; rw [if_neg h]
set_option maxHeartbeats 2000000 in
theorem shapeOf_any (op : Int) (w : World) :
    Calls Tryd.prog 137 #[.int .i64 op] w fun e w' => e = .returned (.tuple #[.int .i64 (manyOf op), .int .i64 (wantOf op), .int .i64 (ownOf op)]) ∧ w' = w := by
  by_cases h : 1 ≤ op ∧ op ≤ 20
  · rcases (show op = 1 ∨ op = 2 ∨ op = 3 ∨ op = 4 ∨ op = 5 ∨ op = 6 ∨ op = 7 ∨ op = 8 ∨ op = 9 ∨ op = 10 ∨ op = 11 ∨ op = 12 ∨ op = 13 ∨ op = 14 ∨ op = 15 ∨ op = 16 ∨ op = 17 ∨ op = 18 ∨ op = 19 ∨ op = 20 by omega) with rfl | rfl | rfl | rfl | rfl | rfl | rfl | rfl | rfl | rfl | rfl | rfl | rfl | rfl | rfl | rfl | rfl | rfl | rfl | rfl
    all_goals
      go_enter Tryd.func137, Tryd.ntmps137
      go_wp2
      go_ret3
      exact ⟨rfl, rfl⟩
  · have hm : manyOf op = 0 := by unfold manyOf; (repeat' split) <;> omega
    have hw : wantOf op = 0 := by unfold wantOf; rw [if_pos hm]
    have ho : ownOf op = 0 := by unfold ownOf; (repeat' split) <;> omega
    rw [hm, hw, ho]
    clear hm hw ho
    have e1 : (op == 1) = false := beq_eq_false_iff_ne.2 (by omega)
    have e2 : (op == 2) = false := beq_eq_false_iff_ne.2 (by omega)
    have e3 : (op == 3) = false := beq_eq_false_iff_ne.2 (by omega)
    have e4 : (op == 4) = false := beq_eq_false_iff_ne.2 (by omega)
    have e5 : (op == 5) = false := beq_eq_false_iff_ne.2 (by omega)
    have e6 : (op == 6) = false := beq_eq_false_iff_ne.2 (by omega)
    have e7 : (op == 7) = false := beq_eq_false_iff_ne.2 (by omega)
    have e8 : (op == 8) = false := beq_eq_false_iff_ne.2 (by omega)
    have e9 : (op == 9) = false := beq_eq_false_iff_ne.2 (by omega)
    have e10 : (op == 10) = false := beq_eq_false_iff_ne.2 (by omega)
    have e11 : (op == 11) = false := beq_eq_false_iff_ne.2 (by omega)
    have e12 : (op == 12) = false := beq_eq_false_iff_ne.2 (by omega)
    have e13 : (op == 13) = false := beq_eq_false_iff_ne.2 (by omega)
    have e14 : (op == 14) = false := beq_eq_false_iff_ne.2 (by omega)
    have e15 : (op == 15) = false := beq_eq_false_iff_ne.2 (by omega)
    have e16 : (op == 16) = false := beq_eq_false_iff_ne.2 (by omega)
    have e17 : (op == 17) = false := beq_eq_false_iff_ne.2 (by omega)
    have e18 : (op == 18) = false := beq_eq_false_iff_ne.2 (by omega)
    have e19 : (op == 19) = false := beq_eq_false_iff_ne.2 (by omega)
    have e20 : (op == 20) = false := beq_eq_false_iff_ne.2 (by omega)
    clear h
    go_enter Tryd.func137, Tryd.ntmps137
    go_wp2
    go_ret3
    exact ⟨rfl, rfl⟩
theorem goodVars_yes (vars : Int) (h : 1 ≤ vars ∧ vars ≤ 4) (w : World) :
    Calls Tryd.prog 136 #[.int .i64 vars] w fun e w' => e = .returned (.bool true) ∧ w' = w := by
  obtain ⟨h1, h2⟩ := h
  have hd : decide (vars ≤ 4) = true := decide_eq_true h2
  go_enter Tryd.func136, Tryd.ntmps136
  go_wp2
  go_ret
  exact ⟨ret_bool (by first | rfl | exact hd), rfl⟩
theorem goodVars_no (vars : Int) (h : ¬ (1 ≤ vars ∧ vars ≤ 4)) (w : World) :
    Calls Tryd.prog 136 #[.int .i64 vars] w fun e w' => e = .returned (.bool false) ∧ w' = w := by
  by_cases h1 : 1 ≤ vars
  · have hd : decide (vars ≤ 4) = false := decide_eq_false (by omega)
    go_enter Tryd.func136, Tryd.ntmps136
    go_wp2
    go_ret
    exact ⟨ret_bool (by first | rfl | exact hd), rfl⟩
  · go_enter Tryd.func136, Tryd.ntmps136
    go_wp2
    go_ret
    exact ⟨rfl, rfl⟩
set_option maxHeartbeats 1000000 in
theorem goodN_any (wide vars op n : Int) (hv0 : 0 ≤ vars) (hv1 : vars ≤ 9223372036854775807) (h0 : 0 ≤ n) (h1 : n ≤ 18446744073709551615) (w : World) (hT : Tab w) :
    Calls Tryd.prog 138 #[.int .i64 wide, .int .i64 vars, .agg #[.int .i64 op, .int .u64 n]] w fun e w' => e = .returned (.bool (okN wide vars op n)) ∧ Below w.heap.size w w' := by
  unfold okN
  have h0w : 0 < w.heap.size := by
    have h0 := hT 0 (by omega)
    by_cases hb : 0 < w.heap.size
    · exact hb
    · have e : w.heap[0]? = none := Array.getElem?_eq_none (by omega)
      simp [World.cell?, e] at h0
  have hb : Below w.heap.size w (w.alloc (.cells #[.int .i64 op, .int .u64 n] 112)) := (Below.refl _ _).alloc (Nat.le_refl _) _
  by_cases c1 : op = 1
  · rw [if_pos c1]
    subst c1
    have hT2 : Tab (w.alloc (.cells #[.int .i64 1, .int .u64 n] 112)) := by
      intro k hk
      rw [hb.cell (p := ⟨0, k, none⟩) h0w]
      exact hT k hk
    have g := iGoodWord_any wide n (w.alloc (.cells #[.int .i64 1, .int .u64 n] 112)) hT2
    generalize goodB wide n = z at *
    have HB : Hid (Below w.heap.size w (w.alloc (.cells #[.int .i64 1, .int .u64 n] 112))) := hb
    clear hb hT2 hT
    go_enter Tryd.func138, Tryd.ntmps138
    go_wp2_with fail
    refine g.mono ?_
    rintro e w' ⟨rfl, rfl⟩
    clear g
    go_wp2_with fail
    go_ret
    exact ⟨rfl, HB.out⟩
  · rw [if_neg c1]
    have e1 : (op == 1) = false := beq_eq_false_iff_ne.2 c1
    have HB : Hid (Below w.heap.size w (w.alloc (.cells #[.int .i64 op, .int .u64 n] 112))) := hb
    clear hb hT
    by_cases c2 : op = 2
    · rw [if_pos c2]
      subst c2
      go_enter Tryd.func138, Tryd.ntmps138
      go_wp2_with fail
      go_ret
      exact ⟨rfl, HB.out⟩
    · rw [if_neg c2]
      have e2 : (op == 2) = false := beq_eq_false_iff_ne.2 c2
      by_cases c3 : op = 20
      · rw [if_pos c3]
        subst c3
        have hd : decide (n < 2) = decide (n ≤ 1) := by
          by_cases h : n < 2
          · rw [decide_eq_true h, decide_eq_true (by omega)]
          · rw [decide_eq_false h, decide_eq_false (by omega)]
        rw [hd]
        clear hd
        go_enter Tryd.func138, Tryd.ntmps138
        go_wp2_with fail
        go_ret
        exact ⟨rfl, HB.out⟩
      · rw [if_neg c3]
        have e3 : (op == 20) = false := beq_eq_false_iff_ne.2 c3
        clear c1 c2 c3
        go_enter Tryd.func138, Tryd.ntmps138
        go_wp2_with fail
        go_ret
        exact ⟨rfl, HB.out⟩
end Go.Proofs.YtjbfembblgkakaaDoor
