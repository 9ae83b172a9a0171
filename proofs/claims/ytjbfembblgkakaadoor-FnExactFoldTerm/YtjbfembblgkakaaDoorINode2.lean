/-
  A node over parts of which one is none or of another kind: the program's nodeOver answers none.
-/
import Derived.Test.YtjbfembblgkakaaDoorINode
namespace Go.Proofs.YtjbfembblgkakaaDoor
open Go Go.RowKit
open M
set_option linter.unusedVariables false

/-- a part that may be none -/
abbrev pv (q : Option (Nat × Tr)) : Value := .pointer (q.map fun b => ⟨b.1, 0, none⟩)
set_option maxRecDepth 100000 in
set_option maxHeartbeats 2000000 in
theorem nodeOver_bad (op n : Int) (qs : List (Option (Nat × Tr))) (ad : Option Addr) (cap : Nat) (w : World) (hown : ¬ ownOf op = 0) (hm : manyOf op = qs.length)
    (hc : ∀ (i : Nat) (q : Option (Nat × Tr)), qs[i]? = some q → ∃ g off : Nat, ad = some ⟨g, off, none⟩ ∧ g < w.heap.size ∧ w.cell? ⟨g, off + i, none⟩ = some (pv q))
    (ht : ∀ (b : Nat) (a : Tr), some (b, a) ∈ qs → TrAt w (Old w) a b ∧ a.size ≤ 1000000)
    (hbad : ¬ ∀ q ∈ qs, ∃ b a, q = some (b, a) ∧ a.kind = partOf op) :
    Calls Tryd.prog 139 #[.agg #[.int .i64 op, .int .u64 n], .slice ad qs.length cap] w fun e w' => e = .returned (.pointer none) ∧ Below w.heap.size w w' := by
  have g0 := fun w1 => shapeOf_any op w1
  have hm2 := manyOf_le op
  have e0 : (ownOf op == 0) = false := beq_eq_false_iff_ne.2 hown
  have hlm : qs.length = manyOf op := by omega
  have HW : Hid (manyOf op ≠ 0 → wantOf op = partOf op) := fun h => wantOf_part h
  have HC : Hid _ := hc
  have HT : Hid _ := ht
  have HBAD : Hid _ := hbad
  obtain ⟨i0, hi, hz0, hz1, hz2⟩ := info_parts infoPtr
  clear hc ht hbad hown
  generalize hmm : manyOf op = mm at *
  generalize hww : wantOf op = ww at *
  generalize hpp : partOf op = pp at *
  generalize hoo : ownOf op = oo at *
  clear hmm hww hpp hoo hm
  subst hlm
  go_enter Tryd.func139, Tryd.ntmps139
  go_wp2_with fail
  refine (g0 _).mono ?_
  rintro e w' ⟨rfl, rfl⟩
  clear g0
  go_wp2_with fail
  go_loopw [32] (fun i wr => ∃ (j : Nat) (sv : Value) (y : Nat) (xs : List Value), j ≤ qs.length ∧ i = .int .i64 j ∧ Hid (wr.heap[w.heap.size + 1]? = some (.cells #[.int .i64 op, .int .u64 n, .int .i64 oo, .int .i64 (y : Int), sv] 120 (0, 0))) ∧ y ≤ 1 + j * 1000000 ∧ Hid (wr.ownsRow (w.heap.size + 2) 101 1 sv j xs) ∧ Hid (Below w.heap.size w wr) ∧ Hid (∀ (i : Nat) (q : Option (Nat × Tr)), i < j → qs[i]? = some q → ∃ b a, q = some (b, a) ∧ a.kind = pp)) (fun i _ => qs.length - (intOf i).toNat)
  case atStart =>
    refine ⟨0, .slice none 0 0, 1, [], by omega, rfl, ?_, by omega, World.ownsRow_nil _ _ _ _, ?_, (fun i q hi _ => absurd hi (by omega) : ∀ (i : Nat) (q : Option (Nat × Tr)), i < 0 → qs[i]? = some q → ∃ b a, q = some (b, a) ∧ a.kind = pp)⟩
    · have e : (w.alloc (.cells #[.int .i64 op, .int .u64 n] 112)).heap.size = w.heap.size + 1 := by simp
      show ((w.alloc (.cells #[.int .i64 op, .int .u64 n] 112)).heap.push _)[w.heap.size + 1]? = _
      rw [← e, Array.getElem?_push_size]
      simp
    · exact ((Below.refl _ _).alloc (Nat.le_refl _) _).alloc (by simp) _
  case round =>
    obtain ⟨j, sv, y, xs, hj, rfl, HH, hy, HO, HB, HG⟩ := hrel
    by_cases hlt' : j < qs.length
    · obtain ⟨q, hq⟩ : ∃ q, qs[j]? = some q := ⟨qs[j], List.getElem?_eq_getElem hlt'⟩
      obtain ⟨g, off, rfl, hg, c0⟩ := HC.out j q hq
      rw [← HB.out.cell (p := ⟨g, off + j, none⟩) hg] at c0
      rcases q with _ | ⟨p, a⟩
      · have c0' : wr.cell? ⟨g, off + j, none⟩ = some (.pointer none) := c0
        clear c0 hq HG HH HO HC HT HBAD
        go_wp2_with fail
        go_ret
        exact ⟨rfl, HB.out⟩
      · have c0' : wr.cell? ⟨g, off + j, none⟩ = some (ptr p) := c0
        obtain ⟨htr, hsa⟩ := HT.out p a (List.mem_of_getElem? hq)
        obtain ⟨rs, hn, _⟩ := trAt_open (htr.below HB.out)
        obtain ⟨_, _, _, n2, n3, _⟩ := hn
        have HP0 : Hid (p < w.heap.size) := (trAt_open htr).choose_spec.1.1
        have hww := HW.out (by omega)
        clear c0
        by_cases hk : a.kind = pp
        · rw [hk, ← hww] at n2
          have HG2 : Hid (∀ (i : Nat) (q : Option (Nat × Tr)), i < j + 1 → qs[i]? = some q → ∃ b a, q = some (b, a) ∧ a.kind = pp) := by
            intro i q hi hq'
            by_cases e : i = j
            · subst e
              rw [hq] at hq'
              obtain rfl := Option.some.inj hq'
              exact ⟨p, a, rfl, hk⟩
            · exact HG.out i q (by omega) hq'
          have d3 := cell_heap (o := 3) HH.out
          have d4 := cell_heap (o := 4) HH.out
          simp only [List.getElem?_toArray, List.getElem?_cons_succ, List.getElem?_cons_zero] at d3 d4
          have hmlt : w.heap.size + 1 < wr.heap.size := (Array.getElem?_eq_some_iff.1 HH.out).1
          have own0 := HO.out
          have own1 := own0.alloc (.cells #[ptr p] 101)
          have HB1 : Hid (Below w.heap.size w (wr.alloc (.cells #[ptr p] 101))) := HB.out.alloc HB.out.size _
          have cellsN := onePtr_cells wr p
          have HH1 : Hid ((wr.alloc (.cells #[ptr p] 101)).heap[w.heap.size + 1]? = some (.cells #[.int .i64 op, .int .u64 n, .int .i64 oo, .int .i64 (y : Int), sv] 120 (0, 0))) := by
            show (wr.alloc (.cells #[ptr p] 101)).heap[w.heap.size + 1]? = _
            rw [Below.heap_alloc _ _ _ hmlt]
            exact HH.out
          have n3a : (wr.alloc (.cells #[ptr p] 101)).cell? ⟨p, 3, none⟩ = some (.int .i64 (a.size : Int)) := by
            rw [← n3]
            exact World.cell?_of_block (w := wr) (a := ⟨p, 3, none⟩) (Below.heap_alloc _ _ _ (World.block_lt_of_cell? wr ⟨p, 3, none⟩ n3))
          have HML : Hid (w.heap.size + 1 < wr.heap.size) := hmlt
          clear hmlt hq htr hk hww
          go_wp2_with (at_builtin; refine wpList_append_own _ rfl _ _ 118 rfl (w.heap.size + 2) 101 i0 (.pointer none) 1 8 Tryd.underlying118 hi hz0 hz1 hz2 rfl (by decide) _ _ _ rfl own1 ⟨wr.heap.size, 0, none⟩ 1 1 [ptr p] rfl rfl cellsN (by intro u hu; simp at hu; subst hu; rfl) (by unfold maxLen; omega) (by omega) (by have h := HML.out; simp; omega) ?_)
          intro v7 w7 own7 grow7 _
          obtain ⟨ad7, cap7, rfl⟩ := own_shape own7
          have hne : some (w.heap.size + 1) ≠ sv.ownBlock := fun e => by
            have := (own0.lt _ e.symm).1
            omega
          have hne2 : some p ≠ sv.ownBlock := fun e => by
            have := (own0.lt _ e.symm).1
            have := HP0.out
            omega
          have HH7 : Hid (w7.heap[w.heap.size + 1]? = some (.cells #[.int .i64 op, .int .u64 n, .int .i64 oo, .int .i64 (y : Int), sv] 120 (0, 0))) := by
            show w7.heap[w.heap.size + 1]? = _
            rw [grow7.block _ (by have h := HML.out; simp; omega) hne]
            exact HH1.out
          have HB7 : Hid (Below w.heap.size w w7) := HB1.out.grown grow7 (by have h := HML.out; simp; omega) (fun k hk => by have := (own0.lt _ hk).1; omega)
          have HH8 : Hid ((w7.setCell ⟨w.heap.size + 1, 4, none⟩ (.slice ad7 (j + 1) cap7)).heap[w.heap.size + 1]? = some (.cells #[.int .i64 op, .int .u64 n, .int .i64 oo, .int .i64 (y : Int), (.slice ad7 (j + 1) cap7)] 120 (0, 0))) := heap_set HH7.out
          have d7 := cell_heap (o := 4) HH7.out
          have f7 := frozen_heap (o := 4) HH7.out
          have d8 := cell_heap (o := 3) HH8.out
          have f8 := frozen_heap (o := 3) HH8.out
          simp only [List.getElem?_toArray, List.getElem?_cons_succ, List.getElem?_cons_zero] at d7 d8
          have n8 : (w7.setCell ⟨w.heap.size + 1, 4, none⟩ (.slice ad7 (j + 1) cap7)).cell? ⟨p, 3, none⟩ = some (.int .i64 (a.size : Int)) := by
            rw [cell_otherBlock (by have := HP0.out; omega)]
            exact grow7.cell n3a hne2
          have own8 : Hid (((w7.setCell ⟨w.heap.size + 1, 4, none⟩ (.slice ad7 (j + 1) cap7)).setCell ⟨w.heap.size + 1, 3, none⟩ (.int .i64 ((y + a.size : Nat) : Int))).drew.ownsRow (w.heap.size + 2) 101 1 (.slice ad7 (j + 1) cap7) (j + 1) (xs ++ [ptr p])) := by
            show World.ownsRow _ _ _ _ _ _ _
            have h1 := ownsRow_setCell_below own7 (a := ⟨w.heap.size + 1, 4, none⟩) (by simp) (.slice ad7 (j + 1) cap7)
            exact ownsRow_setCell_below h1 (a := ⟨w.heap.size + 1, 3, none⟩) (by simp) _
          have HH9 : Hid (((w7.setCell ⟨w.heap.size + 1, 4, none⟩ (.slice ad7 (j + 1) cap7)).setCell ⟨w.heap.size + 1, 3, none⟩ (.int .i64 ((y + a.size : Nat) : Int))).drew.heap[w.heap.size + 1]? = some (.cells #[.int .i64 op, .int .u64 n, .int .i64 oo, .int .i64 ((y + a.size : Nat) : Int), (.slice ad7 (j + 1) cap7)] 120 (0, 0))) := heap_set HH8.out
          have HB9 : Hid (Below w.heap.size w ((w7.setCell ⟨w.heap.size + 1, 4, none⟩ (.slice ad7 (j + 1) cap7)).setCell ⟨w.heap.size + 1, 3, none⟩ (.int .i64 ((y + a.size : Nat) : Int))).drew) := ((HB7.out.setCell (p := ⟨w.heap.size + 1, 4, none⟩) (by simp) _).setCell (p := ⟨w.heap.size + 1, 3, none⟩) (by simp) _).drew
          clear own0 own1 own7 grow7 hne hne2 cellsN c0' n2 n3 n3a d3 d4
          go_wp2_with fail
          go_region
          all_goals
            go_wp2_with fail
            go_roundw
            case rel =>
              exact ⟨j + 1, .slice ad7 (j + 1) cap7, y + a.size, xs ++ [ptr p], by omega, by go_num, HH9, by omega, own8, HB9, HG2⟩
            case measure => simp [intOf]; omega
        · have hne : (a.kind != ww) = true := bne_iff_ne.2 (by rw [hww]; exact hk)
          generalize a.kind = kk at *
          clear hk hww hq HG HH HO HC HT HBAD htr
          go_wp2_with fail
          go_ret
          exact ⟨rfl, HB.out⟩
    · exfalso
      obtain rfl : j = qs.length := by omega
      refine HBAD.out (fun q hq => ?_)
      obtain ⟨i, hi, rfl⟩ := List.mem_iff_getElem.1 hq
      exact HG.out i _ hi (List.getElem?_eq_getElem hi)
end Go.Proofs.YtjbfembblgkakaaDoor
