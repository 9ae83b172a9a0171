/-
  A node over its parts: the program's nodeOver.
-/
import Derived.Test.YtjbfembblgkakaaDoorIShape
import Derived.Test.YtjbfembblgkakaaDoorNodes
import Derived.Handy
namespace Go.Proofs.YtjbfembblgkakaaDoor
open Go Go.RowKit
open M
set_option linter.unusedVariables false

theorem infoPtr : (Tryd.prog.info? 101).map (fun i => (i.zero, i.size, i.bytes)) = some (some (.pointer none), 1, 8) := by kernel_rfl
set_option maxRecDepth 100000 in
theorem nodeOver_shape (op n : Int) (a : Option Addr) (len cap : Nat) (hl : len ≤ 9223372036854775807) (h : ownOf op = 0 ∨ len ≠ manyOf op) (w : World) :
    Calls Tryd.prog 139 #[.agg #[.int .i64 op, .int .u64 n], .slice a len cap] w fun e w' => e = .returned (.pointer none) ∧ Below w.heap.size w w' := by
  have g := fun w1 => shapeOf_any op w1
  have HB : Hid (Below w.heap.size w (w.alloc (.cells #[.int .i64 op, .int .u64 n] 112))) := (Below.refl _ _).alloc (Nat.le_refl _) _
  by_cases h0 : ownOf op = 0
  · rw [h0] at g
    clear h h0
    generalize manyOf op = mm at *
    generalize wantOf op = ww at *
    go_enter Tryd.func139, Tryd.ntmps139
    go_wp2_with fail
    refine (g _).mono ?_
    rintro e w' ⟨rfl, rfl⟩
    clear g
    go_wp2_with fail
    go_ret
    exact ⟨rfl, HB.out⟩
  · have e0 : (ownOf op == 0) = false := beq_eq_false_iff_ne.2 h0
    have hne : ((len : Int) != ((manyOf op : Nat) : Int)) = true := bne_iff_ne.2 (by rcases h with h | h; exact absurd h h0; omega)
    have hm := manyOf_le op
    clear h h0
    generalize manyOf op = mm at *
    generalize wantOf op = ww at *
    generalize ownOf op = oo at *
    go_enter Tryd.func139, Tryd.ntmps139
    go_wp2_with fail
    refine (g _).mono ?_
    rintro e w' ⟨rfl, rfl⟩
    clear g
    go_wp2_with fail
    go_ret
    exact ⟨rfl, HB.out⟩
theorem onePtr_cells (w : World) (p : Nat) : ∀ (j : Nat) (u : Value), ([ptr p] : List Value)[j]? = some u → (w.alloc (.cells #[ptr p] 101)).cell? ((⟨w.heap.size, 0, none⟩ : Addr).add j) = some u := by
  intro j u hu
  match j, hu with
  | 0, hu => simp at hu; subst hu; simp [Addr.add]
theorem cell_otherBlock {w : World} {b o b' o' : Nat} {v : Value} (h : b ≠ b') : (w.setCell ⟨b, o, none⟩ v).cell? ⟨b', o', none⟩ = w.cell? ⟨b', o', none⟩ :=
  World.cell?_of_block (w := w) (a := ⟨b', o', none⟩) (Below.heap_setCell _ _ _ _ (fun e => h e.symm))
theorem own_shape {w : World} {B : Nat} {e : TypeId} {s : Nat} {v : Value} {n : Nat} {xs : List Value} (h : w.ownsRow B e s v n xs) : ∃ (a : Option Addr) (cap : Nat), v = .slice a n cap := by
  rcases h.2 with ⟨h1, h2⟩ | ⟨g, cap, cur, h1, _⟩
  · exact ⟨none, 0, by rw [h1, h2]⟩
  · exact ⟨_, cap, h1⟩
theorem frozen_heap {w : World} {b o : Nat} {c : Array Value} {e : TypeId} (h : w.heap[b]? = some (.cells c e (0, 0))) : w.frozen? ⟨b, o, none⟩ = false := by
  simp [World.frozen?, h]
theorem sizes_take {l : List Tr} {j : Nat} {a : Tr} (h : l[j]? = some a) : sizes (l.take (j + 1)) = sizes (l.take j) + a.size := by
  rw [List.take_add_one, h, sizes_append]
  simp [sizes]
theorem sizes_le (l : List Tr) (j : Nat) : sizes (l.take j) ≤ sizes l := by
  have h := sizes_append (l.take j) (l.drop j)
  rw [List.take_append_drop] at h
  omega
set_option maxRecDepth 100000 in
set_option maxHeartbeats 2000000 in
theorem nodeOver_yes (op n : Int) (l : List Tr) (ps : List Nat) (ad : Option Addr) (cap : Nat) (w : World) (S : Nat → Prop) (hS : ∀ k, S k → k < w.heap.size)
    (hc : ∀ (i b : Nat), ps[i]? = some b → ∃ g off : Nat, ad = some ⟨g, off, none⟩ ∧ g < w.heap.size ∧ w.cell? ⟨g, off + i, none⟩ = some (ptr b)) (ht : TrsAt w S l ps) (hown : ¬ ownOf op = 0) (hm : manyOf op = l.length) (hk : ∀ q ∈ l, q.kind = partOf op) (hsz : sizes l ≤ 1000000) :
    Calls Tryd.prog 139 #[.agg #[.int .i64 op, .int .u64 n], .slice ad ps.length cap] w fun e w' => ∃ b, e = .returned (ptr b) ∧ TrAt w' (fun k => S k ∨ (w.heap.size ≤ k ∧ k < w'.heap.size)) (Tr.over (op, n) l) b ∧ Below w.heap.size w w' := by
  have g0 := fun w1 => shapeOf_any op w1
  have hm2 := manyOf_le op
  have hl := ht.1
  have e0 : (ownOf op == 0) = false := beq_eq_false_iff_ne.2 hown
  have hlm : ps.length = manyOf op := by omega
  have HW : Hid (manyOf op ≠ 0 → wantOf op = partOf op) := fun h => wantOf_part h
  have HC : Hid _ := hc
  have HT : Hid _ := ht
  have HS : Hid _ := hS
  have HK : Hid _ := hk
  obtain ⟨i0, hi, hz0, hz1, hz2⟩ := info_parts infoPtr
  clear hc ht hS hk hown
  generalize hmm : manyOf op = mm at *
  generalize hww : wantOf op = ww at *
  generalize hpp : partOf op = pp at *
  generalize hoo : ownOf op = oo at *
  have HOO : Hid (ownOf op = oo) := hoo
  have HLL : Hid (l.length ≤ 2) := (by omega : l.length ≤ 2)
  clear hmm hww hpp hoo hl hm
  subst hlm
  go_enter Tryd.func139, Tryd.ntmps139
  go_wp2_with fail
  refine (g0 _).mono ?_
  rintro e w' ⟨rfl, rfl⟩
  clear g0
  go_wp2_with fail
  go_loopw [32] (fun i wr => ∃ (j : Nat) (sv : Value), j ≤ ps.length ∧ i = .int .i64 j ∧ Hid (wr.heap[w.heap.size + 1]? = some (.cells #[.int .i64 op, .int .u64 n, .int .i64 oo, .int .i64 ((1 + sizes (l.take j) : Nat) : Int), sv] 120 (0, 0))) ∧ Hid (wr.ownsRow (w.heap.size + 2) 101 1 sv j (ptrs (ps.take j))) ∧ Hid (Below w.heap.size w wr)) (fun i _ => ps.length - (intOf i).toNat)
  case atStart =>
    refine ⟨0, .slice none 0 0, by omega, rfl, ?_, World.ownsRow_nil _ _ _ _, ?_⟩
    · have e : (w.alloc (.cells #[.int .i64 op, .int .u64 n] 112)).heap.size = w.heap.size + 1 := by simp
      show ((w.alloc (.cells #[.int .i64 op, .int .u64 n] 112)).heap.push _)[w.heap.size + 1]? = _
      rw [← e, Array.getElem?_push_size]
      simp [sizes]
    · exact ((Below.refl _ _).alloc (Nat.le_refl _) _).alloc (by simp) _
  case round =>
    obtain ⟨j, sv, hj, rfl, HH, HO, HB⟩ := hrel
    by_cases hlt' : j < ps.length
    · obtain ⟨p, hp⟩ : ∃ p, ps[j]? = some p := ⟨ps[j], List.getElem?_eq_getElem hlt'⟩
      obtain ⟨a, ha⟩ : ∃ a, l[j]? = some a := ⟨l[j]'(by have := HT.out.1; omega), List.getElem?_eq_getElem _⟩
      obtain ⟨g, off, rfl, hlt, c0⟩ := HC.out j p hp
      rw [← HB.out.cell (p := ⟨g, off + j, none⟩) hlt] at c0
      have htr := HT.out.2 j a p ha hp
      obtain ⟨qs, hn, _⟩ := trAt_open (TrAt.frame (S' := S) (fun k hk => hk) (fun k hk => HB.out.block k (HS.out k hk)) htr)
      obtain ⟨hSp, _, _, n2, n3, _⟩ := hn
      have hkq := HK.out a (List.mem_of_getElem? ha)
      have hww := HW.out (by omega)
      rw [hkq, ← hww] at n2
      have hsa : 1 + sizes (l.take j) + a.size ≤ 1000001 := by
        have h1 := sizes_take ha
        have h2 := sizes_le l (j + 1)
        omega
      have HE : Hid (1 + sizes (l.take (j + 1)) = 1 + sizes (l.take j) + a.size) := by
        show 1 + sizes (l.take (j + 1)) = 1 + sizes (l.take j) + a.size
        rw [sizes_take ha]
        omega
      have HP : Hid (ptrs (ps.take (j + 1)) = ptrs (ps.take j) ++ [ptr p]) := by
        show ptrs (ps.take (j + 1)) = ptrs (ps.take j) ++ [ptr p]
        rw [List.take_add_one, hp]
        simp [ptrs]
      have d3 := cell_heap (o := 3) HH.out
      have d4 := cell_heap (o := 4) HH.out
      simp only [List.getElem?_toArray, List.getElem?_cons_succ, List.getElem?_cons_zero] at d3 d4
      have hmlt : w.heap.size + 1 < wr.heap.size := (Array.getElem?_eq_some_iff.1 HH.out).1
      clear hp ha htr hkq hww
      generalize 1 + sizes (l.take j) = y at *
      generalize hxs : ptrs (ps.take j) = xs at *
      clear hxs
      have own0 := HO.out
      have own1 := own0.alloc (.cells #[ptr p] 101)
      have HB1 : Hid (Below w.heap.size w (wr.alloc (.cells #[ptr p] 101))) := HB.out.alloc HB.out.size _
      have cellsN := onePtr_cells wr p
      have HH1 : Hid ((wr.alloc (.cells #[ptr p] 101)).heap[w.heap.size + 1]? = some (.cells #[.int .i64 op, .int .u64 n, .int .i64 oo, .int .i64 (y : Int), sv] 120 (0, 0))) := by
        show (wr.alloc (.cells #[ptr p] 101)).heap[w.heap.size + 1]? = _
        rw [Below.heap_alloc _ _ _ hmlt]
        exact HH.out
      have n3a : (wr.alloc (.cells #[ptr p] 101)).cell? ⟨p, 3, none⟩ = some (.int .i64 (a.size : Int)) := by
        rw [← n3]
        exact World.cell?_of_block (w := wr) (a := ⟨p, 3, none⟩) (Below.heap_alloc _ _ _ (World.block_lt_of_cell? wr ⟨p, 3, none⟩ n3))
      have HP0 : Hid (p < w.heap.size) := HS.out p hSp
      have HML : Hid (w.heap.size + 1 < wr.heap.size) := hmlt
      clear hmlt
      go_wp2_with (at_builtin; refine wpList_append_own _ rfl _ _ 118 rfl (w.heap.size + 2) 101 i0 (.pointer none) 1 8 Tryd.underlying118 hi hz0 hz1 hz2 rfl (by decide) _ _ _ rfl own1 ⟨wr.heap.size, 0, none⟩ 1 1 [ptr p] rfl rfl cellsN (by intro u hu; simp at hu; subst hu; rfl) (by unfold maxLen; omega) (by omega) (by have h := HML.out; simp; omega) ?_)
      intro v7 w7 own7 grow7 _
      obtain ⟨ad7, cap7, rfl⟩ := own_shape own7
      have hne : some (w.heap.size + 1) ≠ sv.ownBlock := fun e => by
        have := (own0.lt _ e.symm).1
        omega
      have hne2 : some p ≠ sv.ownBlock := fun e => by
        have := (own0.lt _ e.symm).1
        have := HP0.out
        omega
      have HH7 : Hid (w7.heap[w.heap.size + 1]? = some (.cells #[.int .i64 op, .int .u64 n, .int .i64 oo, .int .i64 (y : Int), sv] 120 (0, 0))) := by
        show w7.heap[w.heap.size + 1]? = _
        rw [grow7.block _ (by have h := HML.out; simp; omega) hne]
        exact HH1.out
      have HB7 : Hid (Below w.heap.size w w7) := HB1.out.grown grow7 (by have h := HML.out; simp; omega) (fun k hk => by have := (own0.lt _ hk).1; omega)
      have HH8 : Hid ((w7.setCell ⟨w.heap.size + 1, 4, none⟩ (.slice ad7 (j + 1) cap7)).heap[w.heap.size + 1]? = some (.cells #[.int .i64 op, .int .u64 n, .int .i64 oo, .int .i64 (y : Int), (.slice ad7 (j + 1) cap7)] 120 (0, 0))) := heap_set HH7.out
      have d7 := cell_heap (o := 4) HH7.out
      have f7 := frozen_heap (o := 4) HH7.out
      have d8 := cell_heap (o := 3) HH8.out
      have f8 := frozen_heap (o := 3) HH8.out
      simp only [List.getElem?_toArray, List.getElem?_cons_succ, List.getElem?_cons_zero] at d7 d8
      have n8 : (w7.setCell ⟨w.heap.size + 1, 4, none⟩ (.slice ad7 (j + 1) cap7)).cell? ⟨p, 3, none⟩ = some (.int .i64 (a.size : Int)) := by
        rw [cell_otherBlock (by have := HP0.out; omega)]
        exact grow7.cell n3a hne2
      have own8 : Hid (((w7.setCell ⟨w.heap.size + 1, 4, none⟩ (.slice ad7 (j + 1) cap7)).setCell ⟨w.heap.size + 1, 3, none⟩ (.int .i64 ((y + a.size : Nat) : Int))).drew.ownsRow (w.heap.size + 2) 101 1 (.slice ad7 (j + 1) cap7) (j + 1) (ptrs (ps.take (j + 1)))) := by
        show World.ownsRow _ _ _ _ _ _ _
        rw [HP.out]
        have h1 := ownsRow_setCell_below own7 (a := ⟨w.heap.size + 1, 4, none⟩) (by simp) (.slice ad7 (j + 1) cap7)
        exact ownsRow_setCell_below h1 (a := ⟨w.heap.size + 1, 3, none⟩) (by simp) _
      have HH9 : Hid (((w7.setCell ⟨w.heap.size + 1, 4, none⟩ (.slice ad7 (j + 1) cap7)).setCell ⟨w.heap.size + 1, 3, none⟩ (.int .i64 ((y + a.size : Nat) : Int))).drew.heap[w.heap.size + 1]? = some (.cells #[.int .i64 op, .int .u64 n, .int .i64 oo, .int .i64 ((y + a.size : Nat) : Int), (.slice ad7 (j + 1) cap7)] 120 (0, 0))) := heap_set HH8.out
      have HB9 : Hid (Below w.heap.size w ((w7.setCell ⟨w.heap.size + 1, 4, none⟩ (.slice ad7 (j + 1) cap7)).setCell ⟨w.heap.size + 1, 3, none⟩ (.int .i64 ((y + a.size : Nat) : Int))).drew) := ((HB7.out.setCell (p := ⟨w.heap.size + 1, 4, none⟩) (by simp) _).setCell (p := ⟨w.heap.size + 1, 3, none⟩) (by simp) _).drew
      clear own0 own1 own7 grow7 hne hne2 cellsN c0 n2 n3 n3a d3 d4
      go_wp2_with fail
      go_region
      all_goals
        go_wp2_with fail
        go_roundw
        case rel =>
          refine ⟨j + 1, .slice ad7 (j + 1) cap7, by omega, by go_num, ?_, own8, HB9⟩
          show Hid _
          rw [HE.out]
          exact HH9
        case measure => simp [intOf]; omega
    · obtain rfl : j = ps.length := by omega
      have HE : Hid (∃ b, (w.heap.size + 1) = b ∧ TrAt wr (fun k => S k ∨ (w.heap.size ≤ k ∧ k < wr.heap.size)) (Tr.over (op, n) l) b ∧ Below w.heap.size w wr) := by
        refine ⟨_, rfl, trAt_shut (ps := ps) HLL.out ?_ ?_, HB.out⟩
        · have hh := HH.out
          have hle : l.length = ps.length := HT.out.1
          rw [← hle, List.take_length] at hh
          have own := HO.out
          rw [List.take_length] at own
          have hlt2 := (Array.getElem?_eq_some_iff.1 hh).1
          refine ⟨Or.inr ⟨by omega, hlt2⟩, cell_heap (o := 0) hh, cell_heap (o := 1) hh, ?_, cell_heap (o := 3) hh, sv, cell_heap (o := 4) hh, ?_⟩
          · rw [HOO.out]
            exact cell_heap (o := 2) hh
          · have hp := ptrs_of_own own (by omega)
            refine ⟨hp.1, ?_⟩
            rcases hp.2 with h | ⟨g1, off1, cap1, hv, hg1, hc1⟩
            · exact Or.inl h
            · refine Or.inr ⟨g1, off1, cap1, hv, Or.inr ⟨?_, hg1⟩, hc1⟩
              have := (own.lt g1 (by rw [hv]; rfl)).1
              omega
        · exact TrsAt.frame (fun k hk => Or.inl hk) (fun k hk => HB.out.block k (HS.out k hk)) HT.out
      clear HH HO HB HT HC
      go_wp2_with fail
      go_ret
      obtain ⟨b, rfl, h1, h2⟩ := HE.out
      exact ⟨_, rfl, h1, h2⟩
theorem nodeOver_made (op n : Int) (l : List Tr) (ps : List Nat) (v : Value) (w : World) (S : Nat → Prop) (hS : ∀ k, S k → k < w.heap.size) (hv : PtrsAt w (Old w) v ps)
    (ht : TrsAt w S l ps) (hown : ¬ ownOf op = 0) (hm : manyOf op = l.length) (hk : ∀ q ∈ l, q.kind = partOf op) (hsz : sizes l ≤ 1000000) :
    Calls Tryd.prog 139 #[.agg #[.int .i64 op, .int .u64 n], v] w fun e w' => ∃ b, e = .returned (ptr b) ∧ TrAt w' (fun k => S k ∨ (w.heap.size ≤ k ∧ k < w'.heap.size)) (Tr.over (op, n) l) b ∧ Below w.heap.size w w' := by
  rcases hv.2 with ⟨rfl, a, cap, rfl⟩ | ⟨g, off, cap, rfl, hg, hc⟩
  · exact nodeOver_yes op n l [] a cap w S hS (fun i b hb => by simp at hb) ht hown hm hk hsz
  · exact nodeOver_yes op n l ps _ cap w S hS (fun i b hb => ⟨g, off, rfl, hg, hc i b hb⟩) ht hown hm hk hsz
end Go.Proofs.YtjbfembblgkakaaDoor
