/-
  A folded tree: the model's l2Fold.
-/
import Derived.Test.YtjbfembblgkakaaDoorFoldM
import Derived.Test.YtjbfembblgkakaaDoorVars
import Derived.Test.YtjbfembblgkakaaDoorTurn
namespace Go.Proofs.YtjbfembblgkakaaDoor
open Go Go.RowKit
open M
set_option linter.unusedVariables false

theorem own_single (w : World) (B : Nat) (op z : Int) (hB : B ≤ w.heap.size) : OwnNodes (w.alloc (.cells #[.int .i64 op, .int .u64 z] 112)) B (.slice (some ⟨w.heap.size, 0, none⟩) 1 1) [(op, z)] := by
  refine ⟨rfl, Or.inr ⟨w.heap.size, 1, #[.int .i64 op, .int .u64 z], rfl, hB, ?_, Nat.le_refl _, by unfold maxLen; omega, rfl, rfl⟩⟩
  show (w.heap.push _)[w.heap.size]? = _
  simp
set_option maxRecDepth 100000 in
set_option maxHeartbeats 1000000 in
theorem l2Fold_novar (b off len cap j at0 : Nat) (k : Nat) (op n : Int) (w : World) (hj : j < len) (hl : len ≤ 1048576) (hcap : len ≤ cap) (hcm : cap ≤ 9223372036854775807) (ha : at0 ≤ j)
    (c0 : w.cell? ⟨b, off + j * 2, none⟩ = some (.int .i64 op)) (c1 : w.cell? ⟨b, off + j * 2 + 1, none⟩ = some (.int .u64 n)) (hlt : b < w.heap.size)
    (g1 : Calls Tryd.prog 148 #[.slice (some ⟨b, off, none⟩) len cap, .int .i64 j] w fun e w' => e = .returned (.int .i64 at0) ∧ w' = w)
    (z : Int) (g2 : Calls Tryd.prog 91 #[.slice (some ⟨b, off + at0 * 2, none⟩) (j + 1 - at0) (cap - at0)] w fun e w' => e = .returned (.slice none 0 0) ∧ Below w.heap.size w w')
    (g3 : ∀ w1 : World, Below w.heap.size w w1 → Calls Tryd.prog 84 #[.int .i64 k, .slice (some ⟨b, off, none⟩) len cap, .int .i64 j, .slice none 0 0] w1 fun e w' => e = .returned (.int .u64 z) ∧ Below w1.heap.size w1 w') :
    Calls Tryd.prog 87 #[.int .i64 k, .slice (some ⟨b, off, none⟩) len cap, .int .i64 j] w fun e w' => ∃ v, e = .returned v ∧ OwnNodes w' w.heap.size v ([litN op z]) ∧ Below w.heap.size w w' := by
  have G3 : Hid _ := g3
  have GN : Hid (∀ w1 : World, Calls Tryd.prog 145 #[.int .i64 op] w1 fun e w' => e = .returned (.tuple #[.int .i64 (manyOf op), .int .i64 (partOf op), .int .i64 (ownOf op)]) ∧ w' = w1) := fun w1 => l2Need_any op w1
  have C0 : Hid (∀ w1, Below w.heap.size w w1 → w1.cell? ⟨b, off + j * 2, none⟩ = some (.int .i64 op)) := fun w1 hb => by rw [hb.cell (p := ⟨b, off + j * 2, none⟩) hlt]; exact c0
  clear g3
  unfold litN
  by_cases ho : ownOf op = 2
  · rw [if_pos ho]
    rw [ho] at GN
    clear ho
    generalize manyOf op = m at *
    generalize partOf op = q at *
    go_enter Tryd.func87, Tryd.ntmps87
    go_wp2_with fail
    refine g1.mono ?_
    rintro e w1 ⟨rfl, rfl⟩
    clear g1
    go_wp2_with fail
    refine g2.mono ?_
    rintro e w2 ⟨rfl, hb2⟩
    clear g2
    have d0 := C0.out w2 hb2
    go_wp2_with fail
    refine (GN.out _).mono ?_
    rintro e w3 ⟨rfl, rfl⟩
    have g3 := G3.out _ hb2
    go_wp2_with fail
    refine g3.mono ?_
    rintro e w4 ⟨rfl, hb4'⟩
    have hb4 : Below w1.heap.size w1 w4 := hb2.trans (hb4'.mono hb2.size)
    have HO : Hid _ := own_single w4 w1.heap.size 20 z hb4.size
    have HB : Hid _ := hb4.alloc hb4.size (.cells #[.int .i64 20, .int .u64 z] 112)
    clear g3 hb2 hb4 hb4' G3 GN C0
    go_wp2_with fail
    go_ret
    exact ⟨_, rfl, HO.out, HB.out⟩
  · rw [if_neg ho]
    have hne : (ownOf op == 2) = false := beq_eq_false_iff_ne.2 ho
    clear ho
    generalize manyOf op = m at *
    generalize partOf op = q at *
    generalize ownOf op = o at *
    go_enter Tryd.func87, Tryd.ntmps87
    go_wp2_with fail
    refine g1.mono ?_
    rintro e w1 ⟨rfl, rfl⟩
    clear g1
    go_wp2_with fail
    refine g2.mono ?_
    rintro e w2 ⟨rfl, hb2⟩
    clear g2
    have d0 := C0.out w2 hb2
    go_wp2_with fail
    refine (GN.out _).mono ?_
    rintro e w3 ⟨rfl, rfl⟩
    have g3 := G3.out _ hb2
    go_wp2_with fail
    refine g3.mono ?_
    rintro e w4 ⟨rfl, hb4'⟩
    have hb4 : Below w1.heap.size w1 w4 := hb2.trans (hb4'.mono hb2.size)
    have HO : Hid _ := own_single w4 w1.heap.size 1 z hb4.size
    have HB : Hid _ := hb4.alloc hb4.size (.cells #[.int .i64 1, .int .u64 z] 112)
    clear g3 hb2 hb4 hb4' G3 GN C0
    go_wp2_with fail
    go_ret
    exact ⟨_, rfl, HO.out, HB.out⟩
set_option maxRecDepth 100000 in
set_option maxHeartbeats 1000000 in
theorem l2Fold_leaf (b off len cap j at0 : Nat) (k : Nat) (op n : Int) (w : World) (hj : j < len) (hl : len ≤ 1048576) (hcap : len ≤ cap) (hcm : cap ≤ 9223372036854775807) (ha : at0 ≤ j)
    (c0 : w.cell? ⟨b, off + j * 2, none⟩ = some (.int .i64 op)) (c1 : w.cell? ⟨b, off + j * 2 + 1, none⟩ = some (.int .u64 n)) (hlt : b < w.heap.size)
    (g1 : Calls Tryd.prog 148 #[.slice (some ⟨b, off, none⟩) len cap, .int .i64 j] w fun e w' => e = .returned (.int .i64 at0) ∧ w' = w)
    (hm : manyOf op = 0) (vl : Nat) (hvl : 1 ≤ vl) (hvl2 : vl ≤ 1048576) (g2 : Calls Tryd.prog 91 #[.slice (some ⟨b, off + at0 * 2, none⟩) (j + 1 - at0) (cap - at0)] w fun e w' => ∃ (va : Option Addr) (vc : Nat), e = .returned (.slice va vl vc) ∧ Below w.heap.size w w') :
    Calls Tryd.prog 87 #[.int .i64 k, .slice (some ⟨b, off, none⟩) len cap, .int .i64 j] w fun e w' => ∃ v, e = .returned v ∧ OwnNodes w' w.heap.size v ([(op, n)]) ∧ Below w.heap.size w w' := by
  have C0 : Hid (∀ w1, Below w.heap.size w w1 → w1.cell? ⟨b, off + j * 2, none⟩ = some (.int .i64 op)) := fun w1 hb => by rw [hb.cell (p := ⟨b, off + j * 2, none⟩) hlt]; exact c0
  have C1 : Hid (∀ w1, Below w.heap.size w w1 → w1.cell? ⟨b, off + j * 2 + 1, none⟩ = some (.int .u64 n)) := fun w1 hb => by rw [hb.cell (p := ⟨b, off + j * 2 + 1, none⟩) hlt]; exact c1
  have hvz : ((vl : Int) == 0) = false := beq_eq_false_iff_ne.2 (by omega)
  have GN : Hid (∀ w1 : World, Calls Tryd.prog 145 #[.int .i64 op] w1 fun e w' => e = .returned (.tuple #[.int .i64 0, .int .i64 (partOf op), .int .i64 (ownOf op)]) ∧ w' = w1) := fun w1 => by
    have g := l2Need_any op w1
    rw [hm] at g
    exact g
  clear hm
  generalize partOf op = q at *
  generalize ownOf op = o at *
  go_enter Tryd.func87, Tryd.ntmps87
  go_wp2_with fail
  refine g1.mono ?_
  rintro e w1 ⟨rfl, rfl⟩
  clear g1
  go_wp2_with fail
  refine g2.mono ?_
  rintro e w2 ⟨va, vc, rfl, hb2⟩
  clear g2
  have d0 := C0.out w2 hb2
  have d1 := C1.out w2 hb2
  go_wp2_with fail
  refine (GN.out _).mono ?_
  rintro e w3 ⟨rfl, rfl⟩
  have HO : Hid _ := own_single w3 w1.heap.size op n hb2.size
  have HB : Hid _ := hb2.alloc hb2.size (.cells #[.int .i64 op, .int .u64 n] 112)
  clear hb2 GN C0 C1
  go_wp2_with fail
  go_ret
  exact ⟨_, rfl, HO.out, HB.out⟩
end Go.Proofs.YtjbfembblgkakaaDoor
