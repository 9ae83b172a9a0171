/-
  The program's goodWires, taken and good.
-/
import Derived.Test.YtmjeaceabjinfaaGood2
import Derived.Laws.AppendOwnNone
namespace Go.Proofs.Ytmjeaceabjinfaa
open Go Go.RowKit
open M
set_option linter.unusedVariables false

set_option maxRecDepth 100000 in
theorem goodWires_any (v : Value) (t : List Int) (en : Int) (w : World) (h : IntsAt w v t) :
    Calls Try.prog 96 #[.int .i64 en, v] w fun e w' => e = .returned (.bool (t.all (inB en))) ∧ w' = w := by
  have hl := h.1
  obtain ⟨a, cap, rfl, hc⟩ := h.opened
  clear h
  go_enter Try.func96, Try.ntmps96
  go_wp2_with fail
  go_loop [9] (fun i => ∃ j : Nat, j ≤ t.length ∧ i = .int .i64 j ∧ Hid ((t.take j).all (inB en) = true)) (fun i => t.length - (intOf i).toNat)
  case atStart => exact ⟨0, by omega, rfl, rfl⟩
  case round =>
    obtain ⟨j, hj, rfl, HA⟩ := hrel
    by_cases hlt : j < t.length
    · obtain ⟨x, hx⟩ : ∃ x, t[j]? = some x := ⟨t[j], List.getElem?_eq_getElem hlt⟩
      obtain ⟨b, off, rfl, hb, c0⟩ := hc j x hx
      have HX : Hid (t[j]? = some x) := hx
      clear hc hx
      by_cases hp : 0 ≤ x ∧ x < en
      · have HN : Hid ((t.take (j + 1)).all (inB en) = true) := all_take_snoc HX.out HA.out (by unfold inB; exact decide_eq_true hp)
        obtain ⟨hp0, hp1⟩ := hp
        go_wp2_with fail
        go_round
        case rel => exact ⟨j + 1, by omega, by go_num, HN⟩
        case measure => simp [intOf]; omega
      · have HN : Hid (t.all (inB en) = false) := all_false HX.out (by unfold inB; exact decide_eq_false hp)
        by_cases hp0 : x < 0
        · go_wp2_with fail
          go_ret
          exact ⟨ret_bool HN.out.symm, rfl⟩
        · have hp1 : en ≤ x := by omega
          clear hp
          go_wp2_with fail
          go_ret
          exact ⟨ret_bool HN.out.symm, rfl⟩
    · obtain rfl : j = t.length := by omega
      have HN : Hid (t.all (inB en) = true) := by
        have h1 := HA.out
        rw [List.take_length] at h1
        exact h1
      clear hc HA
      go_wp2_with fail
      go_ret
      exact ⟨ret_bool HN.out.symm, rfl⟩
theorem own_ints_one (w : World) (n : Int) : OwnInts (w.alloc (.cells #[.int .i64 n] 3)) w.heap.size (.slice (some ⟨w.heap.size, 0, none⟩) 1 1) [n] := by
  refine ⟨rfl, Or.inr ⟨w.heap.size, 1, #[.int .i64 n], rfl, Nat.le_refl _, ?_, Nat.le_refl _, by unfold maxLen; omega, rfl, rfl⟩⟩
  show (w.heap.push _)[w.heap.size]? = _
  simp
/-- the wires that a gate takes -/
def takenL (g : Gt) : List Int := if g.1 = 3 ∨ g.1 = 4 ∨ g.1 = 5 then [g.2.2, g.2.1] else if g.1 = 2 then [g.2.1] else []
set_option maxRecDepth 100000 in
set_option maxHeartbeats 1000000 in
theorem taken_any (g : Gt) (w : World) :
    Calls Try.prog 146 #[gv g] w fun e w' => ∃ v, e = .returned v ∧ OwnInts w' w.heap.size v (takenL g) ∧ Below w.heap.size w w' := by
  obtain ⟨i0, hi, hz0, hz1, hz2⟩ := info_parts infoInt
  obtain ⟨k, x, y⟩ := g
  unfold gv takenL
  simp only
  have HBg : Hid (Below w.heap.size w (w.alloc (.cells #[.int .i64 k, .int .i64 x, .int .i64 y] 108))) := (Below.refl _ _).alloc (Nat.le_refl _) _
  by_cases c3 : k = 3 ∨ k = 4 ∨ k = 5
  · rw [if_pos c3]
    have hb0 : Below w.heap.size w ((w.alloc (.cells #[.int .i64 k, .int .i64 x, .int .i64 y] 108)).alloc (.cells #[.int .i64 y] 3)) := HBg.out.alloc HBg.out.size _
    have own0 : ((w.alloc (.cells #[.int .i64 k, .int .i64 x, .int .i64 y] 108)).alloc (.cells #[.int .i64 y] 3)).ownsRow w.heap.size 3 1 (.slice none 0 0) 0 [] := World.ownsRow_nil _ _ _ _
    have cells0 : ∀ (j : Nat) (u : Value), ([.int .i64 y] : List Value)[j]? = some u → ((w.alloc (.cells #[.int .i64 k, .int .i64 x, .int .i64 y] 108)).alloc (.cells #[.int .i64 y] 3)).cell? ((⟨w.heap.size + 1, 0, none⟩ : Addr).add j) = some u := by
      have h := oneI_cells (w.alloc (.cells #[.int .i64 k, .int .i64 x, .int .i64 y] 108)) y
      rw [World.size_alloc] at h
      exact h
    have x0 := (box3_alloc w 108 (.int .i64 k) (.int .i64 x) (.int .i64 y)).alloc (.cells #[.int .i64 y] 3)
    have hs0 := hb0.size
    have hlt0 : w.heap.size < ((w.alloc (.cells #[.int .i64 k, .int .i64 x, .int .i64 y] 108)).alloc (.cells #[.int .i64 y] 3)).heap.size := x0.lt
    rcases c3 with rfl | rfl | rfl
    all_goals
      go_enter Try.func146, Try.ntmps146
      go_wp2_with (at_builtin; refine wpList_append_own _ rfl _ _ 25 rfl w.heap.size 3 i0 (.int .i64 0) 1 8 Try.underlying25 hi hz0 hz1 hz2 rfl (by decide) _ _ _ rfl own0 ⟨w.heap.size + 1, 0, none⟩ 1 1 [.int .i64 y] rfl rfl cells0 (ints_one [y]) (by unfold maxLen; omega) (by omega) (by omega) ?_)
      intro v1 w1 own1 grow1 hnew1
      have hb1 : Below w.heap.size w w1 := below_app hb0 hb0.size (Nat.le_refl _) own0 grow1
      have x1 := x0.grown grow1 (fun e => by cases e)
      obtain ⟨a1, cap1, rfl⟩ := own_shape own1
      obtain ⟨q0, q1, q2⟩ := x1.cells
      have own1a := own1.alloc (.cells #[.int .i64 x] 3)
      have hb1a : Below w.heap.size w (w1.alloc (.cells #[.int .i64 x] 3)) := hb1.alloc hb1.size _
      have hs1a := hb1a.size
      clear own0 cells0 grow1 x0 hb0 HBg hnew1
      go_wp2_with (at_builtin; refine wpList_append_own _ rfl _ _ 25 rfl w.heap.size 3 i0 (.int .i64 0) 1 8 Try.underlying25 hi hz0 hz1 hz2 rfl (by decide) _ _ _ rfl own1a ⟨w1.heap.size, 0, none⟩ 1 1 [.int .i64 x] rfl rfl (oneI_cells w1 x) (ints_one [x]) (by unfold maxLen; omega) (by omega) (by omega) ?_)
      intro v2 w2 own2 grow2 _
      have HB2 : Hid (Below w.heap.size w w2) := below_app hb1a hb1a.size (Nat.le_refl _) own1a grow2
      have HO : Hid (OwnInts w2 w.heap.size v2 [y, x]) := own2
      clear own1 own1a own2 grow2 hb1 hb1a x1
      go_wp2_with fail
      go_ret
      exact ⟨_, rfl, HO.out, HB2.out⟩
  · rw [if_neg c3]
    have e3 : (k == 3) = false := beq_eq_false_iff_ne.2 (fun h => c3 (Or.inl h))
    have e4 : (k == 4) = false := beq_eq_false_iff_ne.2 (fun h => c3 (Or.inr (Or.inl h)))
    have e5 : (k == 5) = false := beq_eq_false_iff_ne.2 (fun h => c3 (Or.inr (Or.inr h)))
    clear c3
    by_cases c2 : k = 2
    · subst c2
      rw [if_pos rfl]
      have hb0 : Below w.heap.size w ((w.alloc (.cells #[.int .i64 2, .int .i64 x, .int .i64 y] 108)).alloc (.cells #[.int .i64 x] 3)) := HBg.out.alloc HBg.out.size _
      have own0 : ((w.alloc (.cells #[.int .i64 2, .int .i64 x, .int .i64 y] 108)).alloc (.cells #[.int .i64 x] 3)).ownsRow w.heap.size 3 1 (.slice none 0 0) 0 [] := World.ownsRow_nil _ _ _ _
      have cells0 : ∀ (j : Nat) (u : Value), ([.int .i64 x] : List Value)[j]? = some u → ((w.alloc (.cells #[.int .i64 2, .int .i64 x, .int .i64 y] 108)).alloc (.cells #[.int .i64 x] 3)).cell? ((⟨w.heap.size + 1, 0, none⟩ : Addr).add j) = some u := by
        have h := oneI_cells (w.alloc (.cells #[.int .i64 2, .int .i64 x, .int .i64 y] 108)) x
        rw [World.size_alloc] at h
        exact h
      have hs0 := hb0.size
      go_enter Try.func146, Try.ntmps146
      go_wp2_with (at_builtin; refine wpList_append_own _ rfl _ _ 25 rfl w.heap.size 3 i0 (.int .i64 0) 1 8 Try.underlying25 hi hz0 hz1 hz2 rfl (by decide) _ _ _ rfl own0 ⟨w.heap.size + 1, 0, none⟩ 1 1 [.int .i64 x] rfl rfl cells0 (ints_one [x]) (by unfold maxLen; omega) (by omega) (by omega) ?_)
      intro v2 w2 own2 grow2 _
      have HB2 : Hid (Below w.heap.size w w2) := below_app hb0 hb0.size (Nat.le_refl _) own0 grow2
      have HO : Hid (OwnInts w2 w.heap.size v2 [x]) := own2
      clear own0 own2 grow2 hb0 cells0
      go_wp2_with fail
      go_ret
      exact ⟨_, rfl, HO.out, HB2.out⟩
    · rw [if_neg c2]
      have e2 : (k == 2) = false := beq_eq_false_iff_ne.2 c2
      clear c2
      go_enter Try.func146, Try.ntmps146
      go_wp2_with fail
      go_ret
      exact ⟨_, rfl, World.ownsRow_nil _ _ _ _, HBg.out⟩
set_option maxRecDepth 100000 in
set_option maxHeartbeats 1000000 in
theorem good_any (g : Gt) (own : Int) (h0 : 0 ≤ own) (h1 : own ≤ 1000) (w : World) :
    Calls Try.prog 144 #[gv g, .int .i64 own] w fun e w' => e = .returned (.bool (gateB own g)) ∧ Below w.heap.size w w' := by
  obtain ⟨k, x, y⟩ := g
  have GT : Hid (∀ w1 : World, Calls Try.prog 146 #[.agg #[.int .i64 k, .int .i64 x, .int .i64 y]] w1 fun e w' => ∃ v, e = .returned v ∧ IntsAt w' v (takenL (k, x, y)) ∧ Below w1.heap.size w1 w') := fun w1 => (taken_any (k, x, y) w1).mono fun e w' ⟨v, he, ho, hb⟩ => ⟨v, he, ints_of_own (by unfold takenL; split <;> (try split) <;> simp) ho, hb⟩
  unfold gv gateB
  simp only
  have HB : Hid (Below w.heap.size w (w.alloc (.cells #[.int .i64 k, .int .i64 x, .int .i64 y] 108))) := (Below.refl _ _).alloc (Nat.le_refl _) _
  by_cases c1 : k = 1
  · subst c1
    rw [if_pos rfl]
    have ey : (decide (y = 0)) = (y == 0) := by
      rw [Bool.eq_iff_iff]
      simp
    rw [ey]
    by_cases hx0 : x = 0
    · subst hx0
      rw [decide_eq_true (by omega)]
      go_enter Try.func144, Try.ntmps144
      go_wp2_with fail
      go_ret
      exact ⟨rfl, HB.out⟩
    · have ex0 : (x == 0) = false := beq_eq_false_iff_ne.2 hx0
      by_cases hx1 : x = 1
      · subst hx1
        rw [decide_eq_true (by omega)]
        go_enter Try.func144, Try.ntmps144
        go_wp2_with fail
        go_ret
        exact ⟨rfl, HB.out⟩
      · have ex1 : (x == 1) = false := beq_eq_false_iff_ne.2 hx1
        rw [decide_eq_false (by omega)]
        clear hx0 hx1
        go_enter Try.func144, Try.ntmps144
        go_wp2_with fail
        go_ret
        exact ⟨rfl, HB.out⟩
  · rw [if_neg c1]
    have e1 : (k == 1) = false := beq_eq_false_iff_ne.2 c1
    by_cases c2 : k = 2
    · subst c2
      rw [if_pos rfl]
      by_cases hy : y = 0
      · subst hy
        rw [decide_eq_true rfl, Bool.and_true]
        have g1 := GT.out (w.alloc (.cells #[.int .i64 2, .int .i64 x, .int .i64 0] 108))
        clear GT c1
        go_enter Try.func144, Try.ntmps144
        go_wp2_with fail
        refine g1.mono ?_
        rintro e w1 ⟨v1, rfl, hi1, hb1⟩
        have g2 := goodWires_any v1 _ own w1 hi1
        rw [show (takenL (2, x, 0)).all (inB own) = inB own x by simp [takenL]] at g2
        have HB2 : Hid (Below w.heap.size w w1) := HB.out.trans (hb1.mono HB.out.size)
        clear g1 hi1 hb1
        go_wp2_with fail
        refine g2.mono ?_
        rintro e w2 ⟨rfl, rfl⟩
        clear g2
        go_wp2_with fail
        go_ret
        exact ⟨rfl, HB2.out⟩
      · rw [decide_eq_false hy, Bool.and_false]
        have ey : (y != 0) = true := bne_iff_ne.2 hy
        clear GT c1
        go_enter Try.func144, Try.ntmps144
        go_wp2_with fail
        go_ret
        exact ⟨rfl, HB.out⟩
    · rw [if_neg c2]
      have e2 : (k == 2) = false := beq_eq_false_iff_ne.2 c2
      by_cases c3 : k = 3 ∨ k = 4 ∨ k = 5
      · rw [if_pos c3]
        have ht : (takenL (k, x, y)).all (inB own) = (inB own x && inB own y) := by
          unfold takenL
          rw [if_pos c3]
          simp [Bool.and_comm]
        have g1 := GT.out (w.alloc (.cells #[.int .i64 k, .int .i64 x, .int .i64 y] 108))
        clear GT c1 c2
        have HT : Hid _ := ht
        clear ht
        rcases c3 with rfl | rfl | rfl
        all_goals
          go_enter Try.func144, Try.ntmps144
          go_wp2_with fail
          refine g1.mono ?_
          rintro e w1 ⟨v1, rfl, hi1, hb1⟩
          have g2 := goodWires_any v1 _ own w1 hi1
          rw [HT.out] at g2
          have HB2 : Hid (Below w.heap.size w w1) := HB.out.trans (hb1.mono HB.out.size)
          clear g1 hi1 hb1 HT
          obtain ⟨z, HZ⟩ : ∃ z, Hid ((inB own x && inB own y) = z) := ⟨_, rfl⟩
          rw [HZ.out] at g2
          go_wp2_with fail
          refine g2.mono ?_
          rintro e w2 ⟨rfl, rfl⟩
          clear g2
          go_wp2_with fail
          go_ret
          exact ⟨ret_bool HZ.out.symm, HB2.out⟩
      · rw [if_neg c3]
        have e3 : (k == 3) = false := beq_eq_false_iff_ne.2 (fun h => c3 (Or.inl h))
        have e4 : (k == 4) = false := beq_eq_false_iff_ne.2 (fun h => c3 (Or.inr (Or.inl h)))
        have e5 : (k == 5) = false := beq_eq_false_iff_ne.2 (fun h => c3 (Or.inr (Or.inr h)))
        clear c1 c2 c3 GT
        go_enter Try.func144, Try.ntmps144
        go_wp2_with fail
        go_ret
        exact ⟨rfl, HB.out⟩
end Go.Proofs.Ytmjeaceabjinfaa
