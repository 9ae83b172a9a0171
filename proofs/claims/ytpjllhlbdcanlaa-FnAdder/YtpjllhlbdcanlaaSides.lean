/-
  Whether two lists of wires can be reckoned with: goodSides of the program, l4Lists of the model.
-/
import Derived.Test.YtpjllhlbdcanlaaLays
namespace Go.Proofs.Ytpjllhlbdcanlaa
open Go Go.RowKit
open M
set_option linter.unusedVariables false
set_option linter.unusedSimpArgs false

/-- how many wires a circuit has -/
def wiresN (c : Ci) : Int := c.1 + c.2.1.length
def sidesB (c : Ci) (a b : List Int) : Bool := goodC c && (decide (a.length = b.length) && (decide (a.length ≤ 16) && (a.all (inB (wiresN c)) && b.all (inB (wiresN c)))))
set_option maxRecDepth 100000 in
set_option maxHeartbeats 4000000 in
theorem iSides_any (v av bv : Value) (c : Ci) (a b : List Int) (w : World) (h : AtCirc w v c) (ha : IntsAt w av a) (hb : IntsAt w bv b) :
    Calls Try.prog 94 #[v, av, bv] w fun e w' => e = .returned (.bool (sidesB c a b)) ∧ Below w.heap.size w w' := by
  obtain ⟨_, gw, ov, hv, h1, h2⟩ := id h
  obtain ⟨ga, gc, hgw⟩ := h1.shape
  obtain ⟨oa, oc, ho⟩ := h2.shape
  subst hgw ho hv
  obtain ⟨aa, ac, hav⟩ := ha.shape
  obtain ⟨ba, bc, hbv⟩ := hb.shape
  have hal := ha.1
  have hbl := hb.1
  have x0 := box3_alloc w 27 (.int .i64 c.1) (.slice ga c.2.1.length gc) (.slice oa c.2.2.length oc)
  have hb0 : Below w.heap.size w (w.alloc (.cells #[.int .i64 c.1, .slice ga c.2.1.length gc, .slice oa c.2.2.length oc] 27)) := (Below.refl _ _).alloc (Nat.le_refl _) _
  have hsz : (w.alloc (.cells #[.int .i64 c.1, .slice ga c.2.1.length gc, .slice oa c.2.2.length oc] 27)).heap.size = w.heap.size + 1 := by simp only [World.size_alloc]
  have g1 := iGood_any _ c _ (h.below hb0)
  unfold sidesB
  cases hgd : goodC c with
  | false =>
    rw [hgd] at g1
    rw [Bool.false_and]
    subst hav hbv
    go_enter Try.func94, Try.ntmps94
    go_wp2_with fail
    refine g1.mono ?_
    rintro e w1 ⟨rfl, hs⟩
    have HB : Hid (Below w.heap.size w w1) := Below.step hb0 hb0.size hs
    clear g1 h ha hb h1 h2
    go_wp2_with fail
    go_ret
    exact ⟨rfl, HB.out⟩
  | true =>
    rw [hgd] at g1
    rw [Bool.true_and]
    obtain ⟨hI0, hI1, hG, hO, _, _⟩ := goodC_ins hgd
    obtain ⟨n0, hn0⟩ : ∃ n0 : Int, wiresN c = n0 := ⟨_, rfl⟩
    rw [hn0]
    have hn0' : c.1 + (c.2.1.length : Int) = n0 := hn0
    have hn1 : 0 ≤ n0 := by omega
    have hn2 : n0 ≤ 1000 := by omega
    have GW : Hid (∀ w1 : World, Calls Try.prog 96 #[.agg #[.int .i64 c.1, .slice ga c.2.1.length gc, .slice oa c.2.2.length oc]] w1 fun e w' => e = .returned (.int .i64 n0) ∧ Below w1.heap.size w1 w') := fun w1 => by
      have g := size_raw c.1 ga c.2.1.length gc (.slice oa c.2.2.length oc) (by omega) (by omega) (by omega) w1
      rw [hn0'] at g
      refine g.mono ?_
      rintro e w' ⟨he, hw⟩
      exact ⟨he, by rw [hw]; exact (Below.refl _ _).alloc (Nat.le_refl _) _⟩
    have Ga : Hid (∀ w1 : World, Below w.heap.size w w1 → Calls Try.prog 95 #[.int .i64 n0, av] w1 fun e w' => e = .returned (.bool (a.all (inB n0))) ∧ w' = w1) := fun w1 hw => goodWires_any av a n0 w1 (ha.below hw)
    have Gb : Hid (∀ w1 : World, Below w.heap.size w w1 → Calls Try.prog 95 #[.int .i64 n0, bv] w1 fun e w' => e = .returned (.bool (b.all (inB n0))) ∧ w' = w1) := fun w1 hw => goodWires_any bv b n0 w1 (hb.below hw)
    rw [hav] at Ga
    rw [hbv] at Gb
    subst hav hbv
    clear ha hb h1 h2 h hn0'
    obtain ⟨za, hza⟩ : ∃ za, a.all (inB n0) = za := ⟨_, rfl⟩
    obtain ⟨zb, hzb⟩ : ∃ zb, b.all (inB n0) = zb := ⟨_, rfl⟩
    rw [hza] at Ga ⊢
    rw [hzb] at Gb ⊢
    clear hza hzb
    by_cases hlen : a.length = b.length
    · rw [decide_eq_true hlen, Bool.true_and]
      by_cases h16 : a.length ≤ 16
      · rw [decide_eq_true h16, Bool.true_and]
        rw [← hlen] at Gb ⊢
        generalize a.length = an at *
        have han : (an : Int) ≤ 16 := by omega
        clear hlen hbl
        cases za with
        | false =>
          rw [Bool.false_and]
          go_enter Try.func94, Try.ntmps94
          go_wp2_with fail
          refine g1.mono ?_
          rintro e w1 ⟨rfl, hs⟩
          have hb1 := Below.step hb0 hb0.size hs
          have x1 := x0.below hs (by omega)
          obtain ⟨c0, c1, c2⟩ := x1.cells
          have hh := x1.heap
          have hlt1 := x1.lt
          clear g1 hs
          go_wp2_with fail
          refine (GW.out _).mono ?_
          rintro e w2 ⟨rfl, hs2⟩
          have hb2 := hb1.trans (hs2.mono hb1.size)
          have x2 := x1.below hs2 x1.lt
          clear c0 c1 c2 hh hlt1 x1 hb1 hs2
          obtain ⟨c0, c1, c2⟩ := x2.cells
          have hh := x2.heap
          have hlt2 := x2.lt
          have g3 := Ga.out w2 hb2
          go_wp2_with fail
          refine g3.mono ?_
          rintro e w3 ⟨rfl, rfl⟩
          clear g3
          go_wp2_with fail
          go_ret
          exact ⟨rfl, hb2⟩
        | true =>
          rw [Bool.true_and]
          go_enter Try.func94, Try.ntmps94
          go_wp2_with fail
          refine g1.mono ?_
          rintro e w1 ⟨rfl, hs⟩
          have hb1 := Below.step hb0 hb0.size hs
          have x1 := x0.below hs (by omega)
          obtain ⟨c0, c1, c2⟩ := x1.cells
          have hh := x1.heap
          have hlt1 := x1.lt
          clear g1 hs
          go_wp2_with fail
          refine (GW.out _).mono ?_
          rintro e w2 ⟨rfl, hs2⟩
          have hb2 := hb1.trans (hs2.mono hb1.size)
          have x2 := x1.below hs2 x1.lt
          clear c0 c1 c2 hh hlt1 x1 hb1 hs2
          obtain ⟨c0, c1, c2⟩ := x2.cells
          have hh := x2.heap
          have hlt2 := x2.lt
          have g3 := Ga.out w2 hb2
          go_wp2_with fail
          refine g3.mono ?_
          rintro e w3 ⟨rfl, rfl⟩
          clear g3
          go_wp2_with fail
          refine (GW.out _).mono ?_
          rintro e w4 ⟨rfl, hs4⟩
          have hb4 := hb2.trans (hs4.mono hb2.size)
          clear c0 c1 c2 hh hlt2 x2 hs4 hb2
          have g5 := Gb.out w4 hb4
          go_wp2_with fail
          refine g5.mono ?_
          rintro e w5 ⟨rfl, rfl⟩
          clear g5
          go_wp2_with fail
          go_ret
          exact ⟨rfl, hb4⟩
      · rw [decide_eq_false h16, Bool.false_and]
        rw [← hlen]
        have h16' : decide ((a.length : Int) ≤ 16) = false := decide_eq_false (by omega)
        generalize a.length = an at *
        go_enter Try.func94, Try.ntmps94
        go_wp2_with fail
        refine g1.mono ?_
        rintro e w1 ⟨rfl, hs⟩
        have hb1 := Below.step hb0 hb0.size hs
        have x1 := x0.below hs (by omega)
        obtain ⟨c0, c1, c2⟩ := x1.cells
        have hh := x1.heap
        have hlt1 := x1.lt
        clear g1 hs
        clear hlen hbl
        go_wp2_with fail
        go_ret
        exact ⟨rfl, hb1⟩
    · rw [decide_eq_false hlen, Bool.false_and]
      have hle : ((a.length : Int) == (b.length : Int)) = false := beq_eq_false_iff_ne.2 (by omega)
      generalize a.length = an at *
      generalize b.length = bn at *
      go_enter Try.func94, Try.ntmps94
      go_wp2_with fail
      refine g1.mono ?_
      rintro e w1 ⟨rfl, hs⟩
      have hb1 := Below.step hb0 hb0.size hs
      have x1 := x0.below hs (by omega)
      obtain ⟨c0, c1, c2⟩ := x1.cells
      have hh := x1.heap
      have hlt1 := x1.lt
      clear g1 hs
      clear hlen
      go_wp2_with fail
      go_ret
      exact ⟨rfl, hb1⟩
set_option maxRecDepth 100000 in
set_option maxHeartbeats 4000000 in
theorem sSides_any (v av bv : Value) (c : Ci) (a b : List Int) (w : World) (h : AtCirc w v c) (ha : IntsAt w av a) (hb : IntsAt w bv b) :
    Calls Try.prog 99 #[v, av, bv] w fun e w' => e = .returned (.bool (sidesB c a b)) ∧ Below w.heap.size w w' := by
  obtain ⟨_, gw, ov, hv, h1, h2⟩ := id h
  obtain ⟨ga, gc, hgw⟩ := h1.shape
  obtain ⟨oa, oc, ho⟩ := h2.shape
  subst hgw ho hv
  obtain ⟨aa, ac, hav⟩ := ha.shape
  obtain ⟨ba, bc, hbv⟩ := hb.shape
  have hal := ha.1
  have hbl := hb.1
  have x0 := box3_alloc w 27 (.int .i64 c.1) (.slice ga c.2.1.length gc) (.slice oa c.2.2.length oc)
  have hb0 : Below w.heap.size w (w.alloc (.cells #[.int .i64 c.1, .slice ga c.2.1.length gc, .slice oa c.2.2.length oc] 27)) := (Below.refl _ _).alloc (Nat.le_refl _) _
  have hsz : (w.alloc (.cells #[.int .i64 c.1, .slice ga c.2.1.length gc, .slice oa c.2.2.length oc] 27)).heap.size = w.heap.size + 1 := by simp only [World.size_alloc]
  have g1 := sGood_any _ c _ (h.below hb0)
  unfold sidesB
  cases hgd : goodC c with
  | false =>
    rw [hgd] at g1
    rw [Bool.false_and]
    subst hav hbv
    go_enter Try.func99, Try.ntmps99
    go_wp2_with fail
    refine g1.mono ?_
    rintro e w1 ⟨rfl, hs⟩
    have HB : Hid (Below w.heap.size w w1) := Below.step hb0 hb0.size hs
    clear g1 h ha hb h1 h2
    go_wp2_with fail
    go_ret
    exact ⟨rfl, HB.out⟩
  | true =>
    rw [hgd] at g1
    rw [Bool.true_and]
    obtain ⟨hI0, hI1, hG, hO, _, _⟩ := goodC_ins hgd
    obtain ⟨n0, hn0⟩ : ∃ n0 : Int, wiresN c = n0 := ⟨_, rfl⟩
    rw [hn0]
    have hn0' : c.1 + (c.2.1.length : Int) = n0 := hn0
    have hn1 : 0 ≤ n0 := by omega
    have hn2 : n0 ≤ 1000 := by omega
    have GW : Hid (∀ w1 : World, Calls Try.prog 93 #[.agg #[.int .i64 c.1, .slice ga c.2.1.length gc, .slice oa c.2.2.length oc]] w1 fun e w' => e = .returned (.int .i64 n0) ∧ Below w1.heap.size w1 w') := fun w1 => by
      have g := l4Wires_raw c.1 ga c.2.1.length gc (.slice oa c.2.2.length oc) (by omega) (by omega) (by omega) w1
      rw [hn0'] at g
      refine g.mono ?_
      rintro e w' ⟨he, hw⟩
      exact ⟨he, by rw [hw]; exact (Below.refl _ _).alloc (Nat.le_refl _) _⟩
    have Ga : Hid (∀ w1 : World, Below w.heap.size w w1 → Calls Try.prog 105 #[av, .int .i64 0, .int .i64 (n0 - 1)] w1 fun e w' => e = .returned (.bool (a.all (inB n0))) ∧ w' = w1) := fun w1 hw => by
      have g := l1All_any av a 0 (n0 - 1) w1 (ha.below hw)
      rw [all_btw] at g
      exact g
    have Gb : Hid (∀ w1 : World, Below w.heap.size w w1 → Calls Try.prog 105 #[bv, .int .i64 0, .int .i64 (n0 - 1)] w1 fun e w' => e = .returned (.bool (b.all (inB n0))) ∧ w' = w1) := fun w1 hw => by
      have g := l1All_any bv b 0 (n0 - 1) w1 (hb.below hw)
      rw [all_btw] at g
      exact g
    rw [hav] at Ga
    rw [hbv] at Gb
    subst hav hbv
    clear ha hb h1 h2 h hn0'
    obtain ⟨za, hza⟩ : ∃ za, a.all (inB n0) = za := ⟨_, rfl⟩
    obtain ⟨zb, hzb⟩ : ∃ zb, b.all (inB n0) = zb := ⟨_, rfl⟩
    rw [hza] at Ga ⊢
    rw [hzb] at Gb ⊢
    clear hza hzb
    by_cases hlen : a.length = b.length
    · rw [decide_eq_true hlen, Bool.true_and]
      by_cases h16 : a.length ≤ 16
      · rw [decide_eq_true h16, Bool.true_and]
        rw [← hlen] at Gb ⊢
        generalize a.length = an at *
        have han : (an : Int) ≤ 16 := by omega
        clear hlen hbl
        cases za with
        | false =>
          rw [Bool.false_and]
          go_enter Try.func99, Try.ntmps99
          go_wp2_with fail
          refine g1.mono ?_
          rintro e w1 ⟨rfl, hs⟩
          have hb1 := Below.step hb0 hb0.size hs
          have x1 := x0.below hs (by omega)
          obtain ⟨c0, c1, c2⟩ := x1.cells
          have hh := x1.heap
          have hlt1 := x1.lt
          clear g1 hs
          go_wp2_with fail
          refine (GW.out _).mono ?_
          rintro e w2 ⟨rfl, hs2⟩
          have hb2 := hb1.trans (hs2.mono hb1.size)
          have x2 := x1.below hs2 x1.lt
          clear c0 c1 c2 hh hlt1 x1 hb1 hs2
          obtain ⟨c0, c1, c2⟩ := x2.cells
          have hh := x2.heap
          have hlt2 := x2.lt
          have g3 := Ga.out w2 hb2
          go_wp2_with fail
          refine g3.mono ?_
          rintro e w3 ⟨rfl, rfl⟩
          clear g3
          go_wp2_with fail
          go_ret
          exact ⟨rfl, hb2⟩
        | true =>
          rw [Bool.true_and]
          go_enter Try.func99, Try.ntmps99
          go_wp2_with fail
          refine g1.mono ?_
          rintro e w1 ⟨rfl, hs⟩
          have hb1 := Below.step hb0 hb0.size hs
          have x1 := x0.below hs (by omega)
          obtain ⟨c0, c1, c2⟩ := x1.cells
          have hh := x1.heap
          have hlt1 := x1.lt
          clear g1 hs
          go_wp2_with fail
          refine (GW.out _).mono ?_
          rintro e w2 ⟨rfl, hs2⟩
          have hb2 := hb1.trans (hs2.mono hb1.size)
          have x2 := x1.below hs2 x1.lt
          clear c0 c1 c2 hh hlt1 x1 hb1 hs2
          obtain ⟨c0, c1, c2⟩ := x2.cells
          have hh := x2.heap
          have hlt2 := x2.lt
          have g3 := Ga.out w2 hb2
          go_wp2_with fail
          refine g3.mono ?_
          rintro e w3 ⟨rfl, rfl⟩
          clear g3
          go_wp2_with fail
          refine (GW.out _).mono ?_
          rintro e w4 ⟨rfl, hs4⟩
          have hb4 := hb2.trans (hs4.mono hb2.size)
          clear c0 c1 c2 hh hlt2 x2 hs4 hb2
          have g5 := Gb.out w4 hb4
          go_wp2_with fail
          refine g5.mono ?_
          rintro e w5 ⟨rfl, rfl⟩
          clear g5
          go_wp2_with fail
          go_ret
          exact ⟨rfl, hb4⟩
      · rw [decide_eq_false h16, Bool.false_and]
        rw [← hlen]
        have h16' : decide ((a.length : Int) ≤ 16) = false := decide_eq_false (by omega)
        generalize a.length = an at *
        go_enter Try.func99, Try.ntmps99
        go_wp2_with fail
        refine g1.mono ?_
        rintro e w1 ⟨rfl, hs⟩
        have hb1 := Below.step hb0 hb0.size hs
        have x1 := x0.below hs (by omega)
        obtain ⟨c0, c1, c2⟩ := x1.cells
        have hh := x1.heap
        have hlt1 := x1.lt
        clear g1 hs
        clear hlen hbl
        go_wp2_with fail
        go_ret
        exact ⟨rfl, hb1⟩
    · rw [decide_eq_false hlen, Bool.false_and]
      have hle : ((a.length : Int) == (b.length : Int)) = false := beq_eq_false_iff_ne.2 (by omega)
      generalize a.length = an at *
      generalize b.length = bn at *
      go_enter Try.func99, Try.ntmps99
      go_wp2_with fail
      refine g1.mono ?_
      rintro e w1 ⟨rfl, hs⟩
      have hb1 := Below.step hb0 hb0.size hs
      have x1 := x0.below hs (by omega)
      obtain ⟨c0, c1, c2⟩ := x1.cells
      have hh := x1.heap
      have hlt1 := x1.lt
      clear g1 hs
      clear hlen
      go_wp2_with fail
      go_ret
      exact ⟨rfl, hb1⟩
end Go.Proofs.Ytpjllhlbdcanlaa
