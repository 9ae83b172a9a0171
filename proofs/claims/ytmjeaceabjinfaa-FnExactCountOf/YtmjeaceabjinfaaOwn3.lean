/-
  The laws' comparisons and marks of circuits.
-/
import Derived.Test.YtmjeaceabjinfaaOwn2
namespace Go.Proofs.Ytmjeaceabjinfaa
open Go Go.RowKit
open M
set_option linter.unusedVariables false

theorem Box3.grown {w w' : World} {b : Nat} {e : TypeId} {x y z : Value} {row : Option Nat} (h : Box3 w b e x y z) (hg : w.grownBy w' row) (hr : row ≠ some b) : Box3 w' b e x y z := ⟨by rw [hg.block b h.lt (fun e => hr e.symm)]; exact h.heap⟩
set_option maxRecDepth 100000 in
theorem eqCircuit_same (u v : Value) (c : Ci) (w : World) (h : AtCirc w u c) (h' : AtCirc w v c) :
    Calls Try.prog 72 #[u, v] w fun e w' => e = .returned (.bool true) ∧ Below w.heap.size w w' := by
  obtain ⟨h0, g, o, rfl, h1, h2⟩ := h
  obtain ⟨_, g', o', rfl, h1', h2'⟩ := h'
  have G1 : Hid (∀ w1 : World, Below w.heap.size w w1 → _) := fun w1 hb => eqGateS_any g g' c.2.1 c.2.1 w1 (h1.below hb) (h1'.below hb)
  have G2 : Hid (∀ w1 : World, Below w.heap.size w w1 → _) := fun w1 hb => eqIntS_any o o' c.2.2 c.2.2 w1 (h2.below hb) (h2'.below hb)
  simp only [decide_true] at G1 G2
  obtain ⟨ins, gs, os⟩ := c
  simp only at *
  clear h1 h2 h0 h1' h2'
  go_enter Try.func72, Try.ntmps72
  go_wp2_with fail
  have hb0 : Below w.heap.size w ((w.alloc (.cells #[.int .i64 ins, g, o] 27)).alloc (.cells #[.int .i64 ins, g', o'] 27)) := ((Below.refl _ _).alloc (Nat.le_refl _) _).alloc (by simp) _
  have x0 := (box3_alloc w 27 (.int .i64 ins) g o).alloc (.cells #[.int .i64 ins, g', o'] 27)
  have x1 := box3_alloc (w.alloc (.cells #[.int .i64 ins, g, o] 27)) 27 (.int .i64 ins) g' o'
  simp only [World.size_alloc] at x1
  have hsz : ((w.alloc (.cells #[.int .i64 ins, g, o] 27)).alloc (.cells #[.int .i64 ins, g', o'] 27)).heap.size = w.heap.size + 1 + 1 := by simp only [World.size_alloc]
  have g1 := G1.out _ hb0
  refine g1.mono ?_
  generalize ((w.alloc (.cells #[.int .i64 ins, g, o] 27)).alloc (.cells #[.int .i64 ins, g', o'] 27)) = wa at *
  rintro e w1 ⟨rfl, hs⟩
  have hb1 := hb0.trans (hs.mono hb0.size)
  obtain ⟨c0, c1, c2⟩ := (x0.below hs (by omega)).cells
  obtain ⟨d0, d1, d2⟩ := (x1.below hs (by omega)).cells
  have g2 := G2.out _ hb1
  clear x0 x1 g1 G1 G2
  go_wp2_with fail
  refine g2.mono ?_
  rintro e w2 ⟨rfl, hs2⟩
  have HB : Hid (Below w.heap.size w w2) := hb1.trans (hs2.mono hb1.size)
  clear g2 hs2 hb1 hb0 hs
  go_wp2_with fail
  go_ret
  exact ⟨rfl, HB.out⟩
set_option maxRecDepth 100000 in
theorem markCircuit_any (v : Value) (c : Ci) (lo hi : Nat) (k : Int) (h1 : c.2.1.length ≤ 1048576) (h2 : c.2.2.length ≤ 1048576) (hk0 : 0 ≤ k) (hk : k ≤ 100000000000) (w : World) (h : OwnCirc w lo hi v c) :
    Calls Try.prog 73 #[v, .int .i64 k] w fun e w' => e = .returned (.int .i64 (k + lenCirc c)) ∧ MarkCirc w' lo hi v c k ∧ Touch lo hi w w' := by
  obtain ⟨g, o, rfl, r1, r2⟩ := h
  obtain ⟨ins, gs, os⟩ := c
  simp only at *
  have r1' := r1.belowR ((Below.refl w.heap.size w).alloc (Nat.le_refl _) (.cells #[.int .i64 ins, g, o] 27)) r1.2.2
  have r2' := r2.belowR ((Below.refl w.heap.size w).alloc (Nat.le_refl _) (.cells #[.int .i64 ins, g, o] 27)) r2.2.2
  have x0 := box3_alloc w 27 (.int .i64 ins) g o
  have t0 : Touch lo hi w (w.alloc (.cells #[.int .i64 ins, g, o] 27)) := ⟨rfl, rfl, rfl, by simp, fun i hi' _ => by
    show (w.heap.push _)[i]? = _
    rw [Array.getElem?_push_lt hi']
    simp [hi']⟩
  have g1 := markGateS_any g _ _ _ _ k (by omega) hk0 (by omega) _ r1'.1
  have hhi := r1.2.2
  go_enter Try.func73, Try.ntmps73
  go_wp2_with fail
  refine g1.mono ?_
  have hsz : (w.alloc (.cells #[.int .i64 ins, g, o] 27)).heap.size = w.heap.size + 1 := by simp only [World.size_alloc]
  generalize (w.alloc (.cells #[.int .i64 ins, g, o] 27)) = wa at *
  rintro e w1 ⟨rfl, m1, gr1⟩
  have q1 := r1'.marked m1 gr1
  have q2 := r2'.apart r1' (by decide) gr1
  have x1 := x0.grown gr1 (fun e => by have := r1'.2.1 _ e; omega)
  have t1 := t0.trans (touch_of_grown gr1 (fun k hk => ⟨(own_block r1'.1 hk).1, r1'.2.1 k hk⟩))
  have g2 := markIntS_any o _ _ _ _ (k + 3 * gs.length) (by omega) (by omega) (by omega) _ q2.1
  obtain ⟨c0, c1, c2⟩ := x1.cells
  clear g1 m1 gr1 x0 x1 r1 r2 r1' r2' t0
  go_wp2_with fail
  refine g2.mono ?_
  rintro e w2 ⟨rfl, m2, gr2⟩
  have HM : Hid (MarkCirc w2 lo hi (.agg #[.int .i64 ins, g, o]) (ins, gs, os) k) := ⟨g, o, rfl, q1.apart q2 (by decide) gr2, q2.marked m2 gr2⟩
  have HT : Hid (Touch lo hi w w2) := t1.trans (touch_of_grown gr2 (fun k hk => ⟨(own_block q2.1 hk).1, q2.2.1 k hk⟩))
  clear g2 m2 gr2 q1 q2 t1
  go_wp2_with fail
  go_ret
  exact ⟨ret_int (by unfold lenCirc; simp only; omega), HM.out, HT.out⟩
theorem markIS_any (v : Value) (c : List Int) (lo hi : Nat) (k : Int) (h1 : c.length ≤ 1048576) (hk0 : 0 ≤ k) (hk : k ≤ 100000000000) (w : World) (h : OwnIS w lo hi v c) :
    Calls Try.prog 66 #[v, .int .i64 k] w fun e w' => e = .returned (.int .i64 (k + c.length)) ∧ MarkIS w' lo hi v c k ∧ Touch lo hi w w' := by
  refine (markIntS_any v _ _ _ _ k (by omega) hk0 (by omega) w h.1).mono ?_
  rintro e w' ⟨he, m, gr⟩
  exact ⟨he, RowIn.marked h m gr, touch_of_grown gr (fun k hk => ⟨(own_block h.1 hk).1, h.2.1 k hk⟩)⟩
theorem heldIS_any (v : Value) (c : List Int) (lo hi : Nat) (k : Int) (h1 : c.length ≤ 1048576) (hk0 : 0 ≤ k) (hk : k ≤ 100000000000) (w : World) (h : MarkIS w lo hi v c k) :
    Calls Try.prog 67 #[v, .int .i64 k] w fun e w' => e = .returned (.int .i64 (k + c.length)) ∧ Below w.heap.size w w' := by
  refine (heldIntS_any v _ _ _ k (by omega) hk0 (by omega) w h.1).mono ?_
  rintro e w' ⟨he, rfl⟩
  exact ⟨he, Below.refl _ _⟩
theorem markBS_any (v : Value) (c : List Bool) (lo hi : Nat) (k : Int) (h1 : c.length ≤ 1048576) (hk0 : 0 ≤ k) (hk : k ≤ 100000000000) (w : World) (h : OwnBS w lo hi v c) :
    Calls Try.prog 68 #[v, .int .i64 k] w fun e w' => e = .returned (.int .i64 (k + c.length)) ∧ MarkBS w' lo hi v c k ∧ Touch lo hi w w' := by
  refine (markBoolS_any v _ _ _ _ k (by omega) hk0 (by omega) w h.1).mono ?_
  rintro e w' ⟨he, m, gr⟩
  exact ⟨he, RowIn.marked h m gr, touch_of_grown gr (fun k hk => ⟨(own_block h.1 hk).1, h.2.1 k hk⟩)⟩
theorem heldBS_any (v : Value) (c : List Bool) (lo hi : Nat) (k : Int) (h1 : c.length ≤ 1048576) (hk0 : 0 ≤ k) (hk : k ≤ 100000000000) (w : World) (h : MarkBS w lo hi v c k) :
    Calls Try.prog 69 #[v, .int .i64 k] w fun e w' => e = .returned (.int .i64 (k + c.length)) ∧ Below w.heap.size w w' := by
  refine (heldBoolS_any v _ _ _ k (by omega) hk0 (by omega) w h.1).mono ?_
  rintro e w' ⟨he, rfl⟩
  exact ⟨he, Below.refl _ _⟩
theorem toIS_any (v : Value) (t : List Int) (hl : t.length ≤ 1048576) (w : World) (h : IntsAt w v t) :
    Calls Try.prog 63 #[v] w fun e w' => ∃ v', e = .returned v' ∧ OwnIS w' w.heap.size w'.heap.size v' t ∧ Below w.heap.size w w' := by
  refine (toIntS_any v t hl w h).mono ?_
  rintro e w' ⟨v', he, ho, hb⟩
  exact ⟨v', he, rowIn_of ho, hb⟩
theorem toBS_any (v : Value) (t : List Bool) (hl : t.length ≤ 1048576) (w : World) (h : BoolsAt w v t) :
    Calls Try.prog 61 #[v] w fun e w' => ∃ v', e = .returned v' ∧ OwnBS w' w.heap.size w'.heap.size v' t ∧ Below w.heap.size w w' := by
  refine (toBoolS_any v t hl w h).mono ?_
  rintro e w' ⟨v', he, ho, hb⟩
  exact ⟨v', he, rowIn_of ho, hb⟩
end Go.Proofs.Ytmjeaceabjinfaa
