/-
  The program's hasVars and VarsIn.
-/
import Derived.Test.YtjbfembblgkakaaDoorIVars
namespace Go.Proofs.YtjbfembblgkakaaDoor
open Go Go.RowKit
open M
set_option linter.unusedVariables false

def only4 (f : Int → Bool) (j : Nat) : List Int := (([0, 1, 2, 3] : List Int).take j).filter f
theorem only4_next (f : Int → Bool) (j : Nat) (h : j < 4) : only4 f (j + 1) = only4 f j ++ (if f (j : Int) = true then [(j : Int)] else []) := by
  unfold only4
  rcases (show j = 0 ∨ j = 1 ∨ j = 2 ∨ j = 3 by omega) with rfl | rfl | rfl | rfl
  · cases h0 : f 0 <;> simp [h0]
  · cases h0 : f 0 <;> cases h1 : f 1 <;> simp [h0, h1]
  · cases h0 : f 0 <;> cases h1 : f 1 <;> cases h2 : f 2 <;> simp [h0, h1, h2]
  · cases h0 : f 0 <;> cases h1 : f 1 <;> cases h2 : f 2 <;> cases h3 : f 3 <;> simp [h0, h1, h2, h3]
theorem index4_0 (a b c d : Bool) (w : World) : Sem.run Tryd.prog (Instr.index 114 (.agg #[.bool a, .bool b, .bool c, .bool d]) (.int .i64 0)) w = .ok (.bool a) w := by kernel_rfl
theorem index4_1 (a b c d : Bool) (w : World) : Sem.run Tryd.prog (Instr.index 114 (.agg #[.bool a, .bool b, .bool c, .bool d]) (.int .i64 1)) w = .ok (.bool b) w := by kernel_rfl
theorem index4_2 (a b c d : Bool) (w : World) : Sem.run Tryd.prog (Instr.index 114 (.agg #[.bool a, .bool b, .bool c, .bool d]) (.int .i64 2)) w = .ok (.bool c) w := by kernel_rfl
theorem index4_3 (a b c d : Bool) (w : World) : Sem.run Tryd.prog (Instr.index 114 (.agg #[.bool a, .bool b, .bool c, .bool d]) (.int .i64 3)) w = .ok (.bool d) w := by kernel_rfl
theorem own_down2 {w : World} {B B' : Nat} {v : Value} {l : List Int} (h : OwnInts w B v l) (hB : B' ≤ B) : OwnInts w B' v l := by
  obtain ⟨h1, h2⟩ := h
  refine ⟨h1, ?_⟩
  rcases h2 with h2 | ⟨g, cap, cur, hv, hg, r⟩
  · exact Or.inl h2
  · exact Or.inr ⟨g, cap, cur, hv, Nat.le_trans hB hg, r⟩
set_option maxRecDepth 100000 in
set_option maxHeartbeats 2000000 in
theorem listV_any (F : Int → Bool) (w : World) :
    Calls Tryd.prog 89 #[.agg #[.bool (F 0), .bool (F 1), .bool (F 2), .bool (F 3)]] w fun e w' => ∃ v, e = .returned v ∧ OwnInts w' w.heap.size v (only4 F 4) ∧ Below w.heap.size w w' := by
  obtain ⟨i0, hi, hz0, hz1, hz2⟩ := info_parts infoInt
  have HB2 : Hid (Below w.heap.size w (w.alloc (.cells #[.bool (F 0), .bool (F 1), .bool (F 2), .bool (F 3)] 114))) := (Below.refl _ _).alloc (Nat.le_refl _) _
  go_enter Tryd.func89, Tryd.ntmps89
  go_wp2_with fail
  go_loopw [3, 7] (fun v i wr => ∃ j : Nat, j ≤ 4 ∧ i = .int .i64 j ∧ Hid (OwnInts wr w.heap.size v (only4 F j)) ∧ Hid (Below w.heap.size w wr)) (fun _ i _ => 4 - (intOf i).toNat)
  case atStart => exact ⟨0, by omega, rfl, World.ownsRow_nil _ _ _ _, HB2⟩
  case round =>
    obtain ⟨j, hj, rfl, HO, HB⟩ := hrel
    by_cases hlt' : j < 4
    · rcases (show j = 0 ∨ j = 1 ∨ j = 2 ∨ j = 3 by omega) with rfl | rfl | rfl | rfl
      · have hn := only4_next F 0 (by omega)
        have ix := index4_0
        cases hF : F 0 with
        | false =>
          have HE : Hid (only4 F 0 = only4 F 1) := by
            show _ = _
            rw [hn]
            simp [hF]
          clear hn
          go_wp2_with fail
          go_roundw
          case rel => exact ⟨1, by omega, by go_num, by rw [← HE.out]; exact HO, HB⟩
          case measure => simp [intOf]
        | true =>
          have HE : Hid (only4 F 1 = only4 F 0 ++ [0]) := by
            show _ = _
            rw [hn]
            simp [hF]
          have own1 : (wr.alloc (.cells #[.int .i64 0] 3)).ownsRow w.heap.size 3 1 u3 (only4 F 0).length ((only4 F 0).map (Value.int .i64)) := World.ownsRow.alloc HO.out _
          have hle : (only4 F 0).length ≤ 4 := Nat.le_trans (List.length_filter_le _ _) (by simp)
          have cellsN := oneI_cells wr 0
          have HOx : Hid (OwnInts wr w.heap.size u3 (only4 F 0)) := HO.out
          clear hn HO
          generalize only4 F 0 = R at *
          go_wp2_with (at_builtin; refine wpList_append_own _ rfl _ _ 34 rfl w.heap.size 3 i0 (.int .i64 0) 1 8 Tryd.underlying34 hi hz0 hz1 hz2 rfl (by decide) _ _ _ rfl own1 ⟨wr.heap.size, 0, none⟩ 1 1 [.int .i64 0] rfl rfl cellsN (ints_one [0]) (by unfold maxLen; omega) (by omega) (by have := HB.out.size; simp; omega) ?_)
          intro v7 w7 own7 grow7 _
          have HB7 : Hid (Below w.heap.size w w7) := (HB.out.alloc HB.out.size _).grown grow7 (by have := HB.out.size; simp; omega) (fun k hk => (HOx.out.lt k hk).1)
          have HO7 : Hid (OwnInts w7 w.heap.size v7 (only4 F 1)) := by
            show OwnInts _ _ _ _
            rw [HE.out]
            unfold OwnInts
            rw [List.map_append, List.length_append]
            exact own7
          clear own1 own7 grow7 cellsN
          go_wp2_with fail
          go_roundw
          case rel => exact ⟨1, by omega, by go_num, HO7, HB7⟩
          case measure => simp [intOf]
      · have hn := only4_next F 1 (by omega)
        have ix := index4_1
        cases hF : F 1 with
        | false =>
          have HE : Hid (only4 F 1 = only4 F 2) := by
            show _ = _
            rw [hn]
            simp [hF]
          clear hn
          go_wp2_with fail
          go_roundw
          case rel => exact ⟨2, by omega, by go_num, by rw [← HE.out]; exact HO, HB⟩
          case measure => simp [intOf]
        | true =>
          have HE : Hid (only4 F 2 = only4 F 1 ++ [1]) := by
            show _ = _
            rw [hn]
            simp [hF]
          have own1 : (wr.alloc (.cells #[.int .i64 1] 3)).ownsRow w.heap.size 3 1 u3 (only4 F 1).length ((only4 F 1).map (Value.int .i64)) := World.ownsRow.alloc HO.out _
          have hle : (only4 F 1).length ≤ 4 := Nat.le_trans (List.length_filter_le _ _) (by simp)
          have cellsN := oneI_cells wr 1
          have HOx : Hid (OwnInts wr w.heap.size u3 (only4 F 1)) := HO.out
          clear hn HO
          generalize only4 F 1 = R at *
          go_wp2_with (at_builtin; refine wpList_append_own _ rfl _ _ 34 rfl w.heap.size 3 i0 (.int .i64 0) 1 8 Tryd.underlying34 hi hz0 hz1 hz2 rfl (by decide) _ _ _ rfl own1 ⟨wr.heap.size, 0, none⟩ 1 1 [.int .i64 1] rfl rfl cellsN (ints_one [1]) (by unfold maxLen; omega) (by omega) (by have := HB.out.size; simp; omega) ?_)
          intro v7 w7 own7 grow7 _
          have HB7 : Hid (Below w.heap.size w w7) := (HB.out.alloc HB.out.size _).grown grow7 (by have := HB.out.size; simp; omega) (fun k hk => (HOx.out.lt k hk).1)
          have HO7 : Hid (OwnInts w7 w.heap.size v7 (only4 F 2)) := by
            show OwnInts _ _ _ _
            rw [HE.out]
            unfold OwnInts
            rw [List.map_append, List.length_append]
            exact own7
          clear own1 own7 grow7 cellsN
          go_wp2_with fail
          go_roundw
          case rel => exact ⟨2, by omega, by go_num, HO7, HB7⟩
          case measure => simp [intOf]
      · have hn := only4_next F 2 (by omega)
        have ix := index4_2
        cases hF : F 2 with
        | false =>
          have HE : Hid (only4 F 2 = only4 F 3) := by
            show _ = _
            rw [hn]
            simp [hF]
          clear hn
          go_wp2_with fail
          go_roundw
          case rel => exact ⟨3, by omega, by go_num, by rw [← HE.out]; exact HO, HB⟩
          case measure => simp [intOf]
        | true =>
          have HE : Hid (only4 F 3 = only4 F 2 ++ [2]) := by
            show _ = _
            rw [hn]
            simp [hF]
          have own1 : (wr.alloc (.cells #[.int .i64 2] 3)).ownsRow w.heap.size 3 1 u3 (only4 F 2).length ((only4 F 2).map (Value.int .i64)) := World.ownsRow.alloc HO.out _
          have hle : (only4 F 2).length ≤ 4 := Nat.le_trans (List.length_filter_le _ _) (by simp)
          have cellsN := oneI_cells wr 2
          have HOx : Hid (OwnInts wr w.heap.size u3 (only4 F 2)) := HO.out
          clear hn HO
          generalize only4 F 2 = R at *
          go_wp2_with (at_builtin; refine wpList_append_own _ rfl _ _ 34 rfl w.heap.size 3 i0 (.int .i64 0) 1 8 Tryd.underlying34 hi hz0 hz1 hz2 rfl (by decide) _ _ _ rfl own1 ⟨wr.heap.size, 0, none⟩ 1 1 [.int .i64 2] rfl rfl cellsN (ints_one [2]) (by unfold maxLen; omega) (by omega) (by have := HB.out.size; simp; omega) ?_)
          intro v7 w7 own7 grow7 _
          have HB7 : Hid (Below w.heap.size w w7) := (HB.out.alloc HB.out.size _).grown grow7 (by have := HB.out.size; simp; omega) (fun k hk => (HOx.out.lt k hk).1)
          have HO7 : Hid (OwnInts w7 w.heap.size v7 (only4 F 3)) := by
            show OwnInts _ _ _ _
            rw [HE.out]
            unfold OwnInts
            rw [List.map_append, List.length_append]
            exact own7
          clear own1 own7 grow7 cellsN
          go_wp2_with fail
          go_roundw
          case rel => exact ⟨3, by omega, by go_num, HO7, HB7⟩
          case measure => simp [intOf]
      · have hn := only4_next F 3 (by omega)
        have ix := index4_3
        cases hF : F 3 with
        | false =>
          have HE : Hid (only4 F 3 = only4 F 4) := by
            show _ = _
            rw [hn]
            simp [hF]
          clear hn
          go_wp2_with fail
          go_roundw
          case rel => exact ⟨4, by omega, by go_num, by rw [← HE.out]; exact HO, HB⟩
          case measure => simp [intOf]
        | true =>
          have HE : Hid (only4 F 4 = only4 F 3 ++ [3]) := by
            show _ = _
            rw [hn]
            simp [hF]
          have own1 : (wr.alloc (.cells #[.int .i64 3] 3)).ownsRow w.heap.size 3 1 u3 (only4 F 3).length ((only4 F 3).map (Value.int .i64)) := World.ownsRow.alloc HO.out _
          have hle : (only4 F 3).length ≤ 4 := Nat.le_trans (List.length_filter_le _ _) (by simp)
          have cellsN := oneI_cells wr 3
          have HOx : Hid (OwnInts wr w.heap.size u3 (only4 F 3)) := HO.out
          clear hn HO
          generalize only4 F 3 = R at *
          go_wp2_with (at_builtin; refine wpList_append_own _ rfl _ _ 34 rfl w.heap.size 3 i0 (.int .i64 0) 1 8 Tryd.underlying34 hi hz0 hz1 hz2 rfl (by decide) _ _ _ rfl own1 ⟨wr.heap.size, 0, none⟩ 1 1 [.int .i64 3] rfl rfl cellsN (ints_one [3]) (by unfold maxLen; omega) (by omega) (by have := HB.out.size; simp; omega) ?_)
          intro v7 w7 own7 grow7 _
          have HB7 : Hid (Below w.heap.size w w7) := (HB.out.alloc HB.out.size _).grown grow7 (by have := HB.out.size; simp; omega) (fun k hk => (HOx.out.lt k hk).1)
          have HO7 : Hid (OwnInts w7 w.heap.size v7 (only4 F 4)) := by
            show OwnInts _ _ _ _
            rw [HE.out]
            unfold OwnInts
            rw [List.map_append, List.length_append]
            exact own7
          clear own1 own7 grow7 cellsN
          go_wp2_with fail
          go_roundw
          case rel => exact ⟨4, by omega, by go_num, HO7, HB7⟩
          case measure => simp [intOf]
    · obtain rfl : j = 4 := by omega
      go_wp2_with fail
      go_ret
      exact ⟨_, rfl, HO.out, HB.out⟩
set_option maxRecDepth 100000 in
set_option maxHeartbeats 2000000 in
theorem impl_VarsIn : DoesVarsIn := by
  intro wide vars v t w hT h hl hw0 hw1 hv0 hv1
  unfold varsInL
  by_cases hk : 0 < kindL wide vars t
  · obtain ⟨g1, g2, g3, g4, g5, r, hr, k1, k2, k3⟩ := root_tree hk
    have g := rootOf_yes wide vars v t w hT h r hk hr
    have hv4 : ∀ x ∈ r.flat, x.1 = 2 → 0 ≤ x.2 ∧ x.2 < 4 := by
      intro x hx h2
      have h3 := ok_vars k1 x hx h2
      rw [k2] at hx
      have h4 := (h.1 x hx).2.2.1
      omega
    have hvl : varsL t = sorted4 (fun i => decide ((2, i) ∈ t)) := varsL_sorted t.length t rfl (by rw [← k2]; exact hv4)
    have HN : Hid (∀ (b g : Nat) (f : Int → Bool) (w : World), TrAt w (OldNot w g) r b → w.heap[g]? = some (.cells (bools f) 114 (0, 0)) →
      Calls Tryd.prog 88 #[ptr b, ptr g] w fun e w' => e = .returned (.tuple #[]) ∧ w'.heap[g]? = some (.cells (bools (fun i => f i || decide ((2, i) ∈ t))) 114 (0, 0)) ∧ But g w w') := by
      intro b g f w htr hh
      have h := nameVars_any r b g f w htr hh hv4 ⟨wide, vars, k1⟩
      rw [k2] at h
      exact h
    rw [if_pos hk, decide_eq_true hk, hvl]
    generalize hF0 : (fun i : Int => decide (((2, i) : Nd) ∈ t)) = F
    have HFE : Hid ((fun i : Int => decide (((2, i) : Nd) ∈ t)) = F) := hF0
    have HF : Hid (sorted4 F = only4 F 4) := rfl
    clear hF0
    have HLI : Hid (∀ w1 : World, Calls Tryd.prog 89 #[.agg #[.bool (F 0), .bool (F 1), .bool (F 2), .bool (F 3)]] w1 fun e w' => ∃ v, e = .returned v ∧ OwnInts w' w1.heap.size v (only4 F 4) ∧ Below w1.heap.size w1 w') := listV_any F
    clear hT h hk hr k1 k2 k3 hv4 hvl g1 g2 g3
    go_enter Tryd.func25, Tryd.ntmps25
    go_wp2_with fail
    refine g.mono ?_
    rintro e w1 ⟨b, rfl, htr, hb1⟩
    have gN := HN.out b w1.heap.size (fun _ => false) (w1.alloc (.cells #[.bool false, .bool false, .bool false, .bool false] 114)) (TrAt.frame (fun k hk => ⟨by simp; exact Nat.lt_succ_of_lt hk, Nat.ne_of_lt hk⟩) (fun k hk => Below.heap_alloc _ _ _ hk) htr) (by
      show (w1.heap.push _)[w1.heap.size]? = _
      rw [Array.getElem?_push_size]
      rfl)
    have HB1 : Hid (Below w.heap.size w (w1.alloc (.cells #[.bool false, .bool false, .bool false, .bool false] 114))) := hb1.alloc hb1.size _
    have HS1 : Hid (w.heap.size ≤ w1.heap.size) := hb1.size
    simp only [Bool.false_or] at gN
    clear g htr hb1
    rw [HFE.out] at gN
    go_wp2_with fail
    refine gN.mono ?_
    rintro e w2 ⟨rfl, hh2, hbt⟩
    have HB2 : Hid (Below w.heap.size w w2) := HB1.out.trans (hbt.below HS1.out HB1.out.size)
    have HH2 : Hid _ := hh2
    have d0 := cell_heap (o := 0) hh2
    have d1 := cell_heap (o := 1) hh2
    have d2 := cell_heap (o := 2) hh2
    have d3 := cell_heap (o := 3) hh2
    simp only [bools, List.getElem?_toArray, List.getElem?_cons_succ, List.getElem?_cons_zero] at d0 d1 d2 d3
    clear gN hh2 hbt
    go_wp2_with fail
    refine (HLI.out w2).mono ?_
    rintro e w3 ⟨vl, rfl, hol, hs3⟩
    have HB3 : Hid (Below w.heap.size w w3) := HB2.out.trans (hs3.mono HB2.out.size)
    have HO3 : Hid (OwnInts w3 w.heap.size vl (sorted4 F)) := by
      rw [HF.out]
      exact own_down2 hol HB2.out.size
    clear d0 d1 d2 d3 hol hs3
    go_wp2_with fail
    go_ret2
    exact ⟨_, rfl, HO3.out, HB3.out⟩
  · have g := rootOf_no wide vars v t w hT h hk
    rw [if_neg hk, decide_eq_false hk]
    clear hT h hk
    go_enter Tryd.func25, Tryd.ntmps25
    go_wp2_with fail
    refine g.mono ?_
    rintro e w1 ⟨rfl, hb1⟩
    have HB1 : Hid _ := hb1
    clear g hb1
    go_wp2_with fail
    go_ret2
    exact ⟨_, rfl, World.ownsRow_nil _ _ _ _, HB1.out⟩
end Go.Proofs.YtjbfembblgkakaaDoor
