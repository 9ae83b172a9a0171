/-
  A circuit and a list of numbers that one call answers: marks of the one leave the other.
-/
import Derived.Test.YtnagaanagcmdgaaShapes
namespace Go.Proofs.Ytnagaanagcmdgaa
open Go Go.RowKit
open M
set_option linter.unusedVariables false

/-- the outs of a circuit and a list lie apart -/
def Apart2 (r0 r1 : Value) : Prop := ∀ (i g o : Value) (k : Nat), r0 = .agg #[i, g, o] → r1.ownBlock = some k → o.ownBlock ≠ some k
theorem RowIn.keepB {w w' : World} {lo hi : Nat} {e : TypeId} {size : Nat} {v : Value} {n : Nat} {xs : List Value} {row : Option Nat} (h : RowIn w lo hi e size v n xs) (hg : w.grownBy w' row) (hr : ∀ k, v.ownBlock = some k → row ≠ some k) : RowIn w' lo hi e size v n xs := by
  obtain ⟨⟨h1, h2⟩, h3, h4⟩ := h
  refine ⟨⟨h1, ?_⟩, h3, Nat.le_trans h4 hg.size⟩
  rcases h2 with h2 | ⟨g, cap, cur, hv, hB, hh, r⟩
  · exact Or.inl h2
  · refine Or.inr ⟨g, cap, cur, hv, hB, ?_, r⟩
    have hlt : g < w.heap.size := by
      by_cases hg' : g < w.heap.size
      · exact hg'
      · rw [Array.getElem?_eq_none (by omega)] at hh
        cases hh
    rw [hg.block g hlt (fun e => hr g (by rw [hv]; rfl) e.symm)]
    exact hh
set_option maxRecDepth 100000 in
theorem markCircuit_two (v v1 : Value) (c : Ci) (t : List Int) (lo hi : Nat) (k : Int) (h1 : c.2.1.length ≤ 1048576) (h2 : c.2.2.length ≤ 1048576) (hk0 : 0 ≤ k) (hk : k ≤ 100000000000) (w : World) (h : OwnCirc w lo hi v c) (ht : OwnIS w lo hi v1 t) (hap : Apart2 v v1) :
    Calls Try.prog 46 #[v, .int .i64 k] w fun e w' => e = .returned (.int .i64 (k + lenCirc c)) ∧ MarkCirc w' lo hi v c k ∧ OwnIS w' lo hi v1 t ∧ Touch lo hi w w' := by
  obtain ⟨g, o, rfl, r1, r2⟩ := h
  obtain ⟨ins, gs, os⟩ := c
  simp only at *
  have hne : ∀ k', v1.ownBlock = some k' → o.ownBlock ≠ some k' := fun k' hk' => hap _ _ _ k' rfl hk'
  have ht' := RowIn.belowR ht ((Below.refl w.heap.size w).alloc (Nat.le_refl _) (.cells #[.int .i64 ins, g, o] 27)) ht.2.2
  have r1' := r1.belowR ((Below.refl w.heap.size w).alloc (Nat.le_refl _) (.cells #[.int .i64 ins, g, o] 27)) r1.2.2
  have r2' := r2.belowR ((Below.refl w.heap.size w).alloc (Nat.le_refl _) (.cells #[.int .i64 ins, g, o] 27)) r2.2.2
  have x0 := box3_alloc w 27 (.int .i64 ins) g o
  have t0 : Touch lo hi w (w.alloc (.cells #[.int .i64 ins, g, o] 27)) := ⟨rfl, rfl, rfl, by simp, fun i hi' _ => by
    show (w.heap.push _)[i]? = _
    rw [Array.getElem?_push_lt hi']
    simp [hi']⟩
  have g1 := markGateS_any g _ _ _ _ k (by omega) hk0 (by omega) _ r1'.1
  have hhi := r1.2.2
  have HNE : Hid _ := hne
  clear hap hne ht
  go_enter Try.func46, Try.ntmps46
  go_wp2_with fail
  refine g1.mono ?_
  have hsz : (w.alloc (.cells #[.int .i64 ins, g, o] 27)).heap.size = w.heap.size + 1 := by simp only [World.size_alloc]
  generalize (w.alloc (.cells #[.int .i64 ins, g, o] 27)) = wa at *
  rintro e w1 ⟨rfl, m1, gr1⟩
  have q1 := r1'.marked m1 gr1
  have q2 := r2'.apart r1' (by decide) gr1
  have q3 := ht'.apart r1' (by decide) gr1
  have x1 := x0.grown gr1 (fun e => by have := r1'.2.1 _ e; omega)
  have t1 := t0.trans (touch_of_grown gr1 (fun k hk => ⟨(own_block r1'.1 hk).1, r1'.2.1 k hk⟩))
  have g2 := markIntS_any o _ _ _ _ (k + 3 * gs.length) (by omega) (by omega) (by omega) _ q2.1
  obtain ⟨c0, c1, c2⟩ := x1.cells
  clear g1 m1 gr1 x0 x1 r1 r2 r1' r2' t0 ht'
  go_wp2_with fail
  refine g2.mono ?_
  rintro e w2 ⟨rfl, m2, gr2⟩
  have HM : Hid (MarkCirc w2 lo hi (.agg #[.int .i64 ins, g, o]) (ins, gs, os) k) := ⟨g, o, rfl, q1.apart q2 (by decide) gr2, q2.marked m2 gr2⟩
  have HT : Hid (Touch lo hi w w2) := t1.trans (touch_of_grown gr2 (fun k hk => ⟨(own_block q2.1 hk).1, q2.2.1 k hk⟩))
  have HI : Hid (OwnIS w2 lo hi v1 t) := q3.keepB gr2 HNE.out
  clear g2 m2 gr2 q1 q2 q3 t1 HNE
  go_wp2_with fail
  go_ret
  exact ⟨ret_int (by unfold lenCirc; simp only; omega), HM.out, HI.out, HT.out⟩
theorem markIS_two (v v1 : Value) (c : Ci) (t : List Int) (lo hi : Nat) (k k0 : Int) (h1 : t.length ≤ 1048576) (hk0 : 0 ≤ k) (hk : k ≤ 100000000000) (w : World) (h : MarkCirc w lo hi v c k0) (ht : OwnIS w lo hi v1 t) (hap : Apart2 v v1) :
    Calls Try.prog 50 #[v1, .int .i64 k] w fun e w' => e = .returned (.int .i64 (k + t.length)) ∧ MarkIS w' lo hi v1 t k ∧ MarkCirc w' lo hi v c k0 ∧ Touch lo hi w w' := by
  refine (markIntS_any v1 _ _ _ _ k (by omega) hk0 (by omega) w ht.1).mono ?_
  rintro e w' ⟨he, m, gr⟩
  obtain ⟨g, o, rfl, r1, r2⟩ := h
  refine ⟨he, RowIn.marked ht m gr, ⟨g, o, rfl, r1.apart ht (by decide) gr, r2.keepB gr (fun k' hk' e => hap _ _ _ k' rfl e hk')⟩, touch_of_grown gr (fun k hk => ⟨(own_block ht.1 hk).1, ht.2.1 k hk⟩)⟩
end Go.Proofs.Ytnagaanagcmdgaa
