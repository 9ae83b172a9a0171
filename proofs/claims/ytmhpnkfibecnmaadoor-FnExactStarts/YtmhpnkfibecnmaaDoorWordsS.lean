/-
  States as four words: the program's cut of them.
-/
import Derived.Test.YtmhpnkfibecnmaaDoorPairs
import Derived.Test.YtmhpnkfibecnmaaDoorWords
import Derived.Test.YtmhpnkfibecnmaaDoorTable
namespace Go.Proofs.YtmhpnkfibecnmaaDoor
open Go Go.RowKit
open M
set_option linter.unusedVariables false

theorem indexW_0 (a b c d : Int) (w : World) : Sem.run Tryd.prog (Instr.index 86 (.agg #[.int .u64 a, .int .u64 b, .int .u64 c, .int .u64 d]) (.int .i64 0)) w = .ok (.int .u64 a) w := by kernel_rfl
theorem indexW_1 (a b c d : Int) (w : World) : Sem.run Tryd.prog (Instr.index 86 (.agg #[.int .u64 a, .int .u64 b, .int .u64 c, .int .u64 d]) (.int .i64 1)) w = .ok (.int .u64 b) w := by kernel_rfl
theorem indexW_2 (a b c d : Int) (w : World) : Sem.run Tryd.prog (Instr.index 86 (.agg #[.int .u64 a, .int .u64 b, .int .u64 c, .int .u64 d]) (.int .i64 2)) w = .ok (.int .u64 c) w := by kernel_rfl
theorem indexW_3 (a b c d : Int) (w : World) : Sem.run Tryd.prog (Instr.index 86 (.agg #[.int .u64 a, .int .u64 b, .int .u64 c, .int .u64 d]) (.int .i64 3)) w = .ok (.int .u64 d) w := by kernel_rfl
/-- a word, cut once its place has been met -/
def cutJ (k : Nat) (x : Int) (i j : Nat) : Value := if i < j then .int .u64 (cut k x) else .int .u64 x
set_option maxRecDepth 100000 in
set_option maxHeartbeats 2000000 in
theorem cutS_any (k : Nat) (hk1 : 1 ≤ k) (hk : k ≤ 64) (x0 x1 x2 x3 : Int) (h0 : 0 ≤ x0 ∧ x0 ≤ 18446744073709551615) (h1 : 0 ≤ x1 ∧ x1 ≤ 18446744073709551615) (h2 : 0 ≤ x2 ∧ x2 ≤ 18446744073709551615) (h3 : 0 ≤ x3 ∧ x3 ≤ 18446744073709551615) (w : World) (hT : Tab w) :
    Calls Tryd.prog 113 #[.agg #[.int .u64 x0, .int .u64 x1, .int .u64 x2, .int .u64 x3], .int .i64 k] w fun e w' => e = .returned (.agg #[.int .u64 (cut k x0), .int .u64 (cut k x1), .int .u64 (cut k x2), .int .u64 (cut k x3)]) ∧ Below w.heap.size w w' := by
  have GC : Hid (∀ (a : Int), 0 ≤ a → a ≤ 18446744073709551615 → ∀ w1 : World, Tab w1 → Calls Tryd.prog 29 #[.int .i64 k, .int .u64 a] w1 fun e w' => e = .returned (.tuple #[.int .u64 (cut k a), .bool true]) ∧ w' = w1) := fun a q0 q1 w1 ht => iCutTo_yes k hk1 hk a q0 q1 w1 ht
  have hb2 : Below w.heap.size w ((w.alloc (.cells #[.int .u64 x0, .int .u64 x1, .int .u64 x2, .int .u64 x3] 86)).alloc (.cells #[.int .u64 0, .int .u64 0, .int .u64 0, .int .u64 0] 86)) := ((Below.refl _ _).alloc (Nat.le_refl _) _).alloc (by rw [World.size_alloc]; omega) _
  have y0 := (box4_alloc w 86 (.int .u64 x0) (.int .u64 x1) (.int .u64 x2) (.int .u64 x3)).alloc (.cells #[.int .u64 0, .int .u64 0, .int .u64 0, .int .u64 0] 86)
  have y1 := box4_alloc (w.alloc (.cells #[.int .u64 x0, .int .u64 x1, .int .u64 x2, .int .u64 x3] 86)) 86 (.int .u64 0) (.int .u64 0) (.int .u64 0) (.int .u64 0)
  simp only [World.size_alloc] at y1
  have HX0 : Hid (Box4 ((w.alloc (.cells #[.int .u64 x0, .int .u64 x1, .int .u64 x2, .int .u64 x3] 86)).alloc (.cells #[.int .u64 0, .int .u64 0, .int .u64 0, .int .u64 0] 86)) w.heap.size 86 (cutJ k x0 0 0) (cutJ k x1 1 0) (cutJ k x2 2 0) (cutJ k x3 3 0)) := y0
  have HY0 : Hid _ := y1
  have HB0 : Hid _ := hb2
  clear y0 y1 hb2
  go_enter Tryd.func113, Tryd.ntmps113
  go_wp2_with fail
  go_loopw [8] (fun i wr => ∃ j : Nat, j ≤ 4 ∧ i = .int .i64 j ∧ Hid (Box4 wr w.heap.size 86 (cutJ k x0 0 j) (cutJ k x1 1 j) (cutJ k x2 2 j) (cutJ k x3 3 j)) ∧ Hid (Box4 wr (w.heap.size + 1) 86 (.int .u64 0) (.int .u64 0) (.int .u64 0) (.int .u64 0)) ∧ Hid (Below w.heap.size w wr)) (fun i _ => 4 - (intOf i).toNat)
  case atStart => exact ⟨0, by omega, rfl, HX0, HY0, HB0⟩
  case round =>
    obtain ⟨j, hj, rfl, HX, HY, HB⟩ := hrel
    clear HX0 HY0 HB0
    by_cases hlt : j < 4
    · rcases (show j = 0 ∨ j = 1 ∨ j = 2 ∨ j = 3 by omega) with rfl | rfl | rfl | rfl
      · have g := GC.out x0 h0.1 h0.2 wr (hT.below HB.out hT.some)
        have ix := indexW_0 x0 x1 x2 x3
        have HX2 : Hid (Box4 (wr.setCell ⟨w.heap.size, 0, none⟩ (.int .u64 (cut k x0))) w.heap.size 86 (cutJ k x0 0 1) (cutJ k x1 1 1) (cutJ k x2 2 1) (cutJ k x3 3 1)) := by
          have h := HX.out.set0 (.int .u64 (cut k x0))
          simp only [cutJ] at h ⊢
          exact h
        have HY2 : Hid _ := HY.out.other (o := 0) (b' := w.heap.size) (by omega) (.int .u64 (cut k x0))
        have HB2 : Hid (Below w.heap.size w (wr.setCell ⟨w.heap.size, 0, none⟩ (.int .u64 (cut k x0)))) := HB.out.setCell (Nat.le_refl _) _
        have hf := HX.out.frozen 0
        obtain ⟨c0, c1, c2, c3⟩ := HX.out.cells
        have ch := HX.out.heap
        have cl := HX.out.lt
        clear HX HY HB hT
        go_wp2_with fail
        refine g.mono ?_
        rintro e w2 ⟨rfl, rfl⟩
        clear g
        go_wp2_with fail
        go_roundw
        case rel => exact ⟨1, by omega, by go_num, HX2, HY2, HB2⟩
        case measure => simp [intOf]
      · have g := GC.out x1 h1.1 h1.2 wr (hT.below HB.out hT.some)
        have ix := indexW_1 x0 x1 x2 x3
        have HX2 : Hid (Box4 (wr.setCell ⟨w.heap.size, 1, none⟩ (.int .u64 (cut k x1))) w.heap.size 86 (cutJ k x0 0 2) (cutJ k x1 1 2) (cutJ k x2 2 2) (cutJ k x3 3 2)) := by
          have h := HX.out.set1 (.int .u64 (cut k x1))
          simp only [cutJ] at h ⊢
          exact h
        have HY2 : Hid _ := HY.out.other (o := 1) (b' := w.heap.size) (by omega) (.int .u64 (cut k x1))
        have HB2 : Hid (Below w.heap.size w (wr.setCell ⟨w.heap.size, 1, none⟩ (.int .u64 (cut k x1)))) := HB.out.setCell (Nat.le_refl _) _
        have hf := HX.out.frozen 1
        obtain ⟨c0, c1, c2, c3⟩ := HX.out.cells
        have ch := HX.out.heap
        have cl := HX.out.lt
        clear HX HY HB hT
        go_wp2_with fail
        refine g.mono ?_
        rintro e w2 ⟨rfl, rfl⟩
        clear g
        go_wp2_with fail
        go_roundw
        case rel => exact ⟨2, by omega, by go_num, HX2, HY2, HB2⟩
        case measure => simp [intOf]
      · have g := GC.out x2 h2.1 h2.2 wr (hT.below HB.out hT.some)
        have ix := indexW_2 x0 x1 x2 x3
        have HX2 : Hid (Box4 (wr.setCell ⟨w.heap.size, 2, none⟩ (.int .u64 (cut k x2))) w.heap.size 86 (cutJ k x0 0 3) (cutJ k x1 1 3) (cutJ k x2 2 3) (cutJ k x3 3 3)) := by
          have h := HX.out.set2 (.int .u64 (cut k x2))
          simp only [cutJ] at h ⊢
          exact h
        have HY2 : Hid _ := HY.out.other (o := 2) (b' := w.heap.size) (by omega) (.int .u64 (cut k x2))
        have HB2 : Hid (Below w.heap.size w (wr.setCell ⟨w.heap.size, 2, none⟩ (.int .u64 (cut k x2)))) := HB.out.setCell (Nat.le_refl _) _
        have hf := HX.out.frozen 2
        obtain ⟨c0, c1, c2, c3⟩ := HX.out.cells
        have ch := HX.out.heap
        have cl := HX.out.lt
        clear HX HY HB hT
        go_wp2_with fail
        refine g.mono ?_
        rintro e w2 ⟨rfl, rfl⟩
        clear g
        go_wp2_with fail
        go_roundw
        case rel => exact ⟨3, by omega, by go_num, HX2, HY2, HB2⟩
        case measure => simp [intOf]
      · have g := GC.out x3 h3.1 h3.2 wr (hT.below HB.out hT.some)
        have ix := indexW_3 x0 x1 x2 x3
        have HX2 : Hid (Box4 (wr.setCell ⟨w.heap.size, 3, none⟩ (.int .u64 (cut k x3))) w.heap.size 86 (cutJ k x0 0 4) (cutJ k x1 1 4) (cutJ k x2 2 4) (cutJ k x3 3 4)) := by
          have h := HX.out.set3 (.int .u64 (cut k x3))
          simp only [cutJ] at h ⊢
          exact h
        have HY2 : Hid _ := HY.out.other (o := 3) (b' := w.heap.size) (by omega) (.int .u64 (cut k x3))
        have HB2 : Hid (Below w.heap.size w (wr.setCell ⟨w.heap.size, 3, none⟩ (.int .u64 (cut k x3)))) := HB.out.setCell (Nat.le_refl _) _
        have hf := HX.out.frozen 3
        obtain ⟨c0, c1, c2, c3⟩ := HX.out.cells
        have ch := HX.out.heap
        have cl := HX.out.lt
        clear HX HY HB hT
        go_wp2_with fail
        refine g.mono ?_
        rintro e w2 ⟨rfl, rfl⟩
        clear g
        go_wp2_with fail
        go_roundw
        case rel => exact ⟨4, by omega, by go_num, HX2, HY2, HB2⟩
        case measure => simp [intOf]
    · obtain rfl : j = 4 := by omega
      have x9 : Box4 wr w.heap.size 86 (.int .u64 (cut k x0)) (.int .u64 (cut k x1)) (.int .u64 (cut k x2)) (.int .u64 (cut k x3)) := HX.out
      obtain ⟨c0, c1, c2, c3⟩ := x9.cells
      have ch := x9.heap
      have cl := x9.lt
      obtain ⟨d0, d1, d2, d3⟩ := HY.out.cells
      have dh := HY.out.heap
      have dl := HY.out.lt
      have f0 := HY.out.frozen 0
      have f1 := HY.out.frozen 1
      have f2 := HY.out.frozen 2
      have f3 := HY.out.frozen 3
      clear x9 GC hT HX
      go_wp2_with fail
      have z9 := (((HY.out.set0 (.int .u64 (cut k x0))).set1 (.int .u64 (cut k x1))).set2 (.int .u64 (cut k x2))).set3 (.int .u64 (cut k x3))
      refine bodyPost_ret (results_cell_row rfl _ _ (w.heap.size + 1) 86 _ (0, 0) _ rfl z9.heap Tryd.underlying86 rfl (by kernel_rfl)) rfl ?_
      exact ⟨rfl, (((HB.out.setCell (by show w.heap.size ≤ w.heap.size + 1; omega) _).setCell (by show w.heap.size ≤ w.heap.size + 1; omega) _).setCell (by show w.heap.size ≤ w.heap.size + 1; omega) _).setCell (by show w.heap.size ≤ w.heap.size + 1; omega) _⟩
end Go.Proofs.YtmhpnkfibecnmaaDoor
