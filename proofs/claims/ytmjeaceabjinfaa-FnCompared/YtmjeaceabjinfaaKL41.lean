/-
  Whether two lists of wires can be reckoned with: goodSides of the program, l4Lists of the model.
  A copy behind which gates can be laid: grown of the program, l4Own of the model.
  Draws of chapter 4: a number among none, wires, bools.
  A circuit that is drawn.
  What AddGates is asked of, as it is drawn.
  What AddGates, LessGates and EqGates answer.
  What wires carry: the program's carried and AllWires.
  What the gates of less and of equal carry, one laid behind the other: what the law of comparing asks of them; and how its circuits are drawn.
  AllWires of the model and of the program, as the law's walk takes them.
  What outs carry: RunCircuit of the model and of the program.
  The laws' comparisons of chapter 4 where both are the same: sameInts, sameBools, sameCircuit; the number that wires carry.
  The laws' sameCircuit where both are the same; the number that wires carry.
  The number that some wires carry, as the laws read it.
  The model's copy of a circuit: l1Own, l4Own.
-/
import Derived.Test.YtmjeaceabjinfaaLays
import Derived.Test.YtmjeaceabjinfaaDraw2
import Derived.Handy
import Derived.Deep.RegionHeld
import Derived.Test.YtmjeaceabjinfaaRun
import Derived.Test.YtmjeaceabjinfaaIGood4
import Derived.Test.YtmjeaceabjinfaaBuildM
import Derived.BigQuiet
import Derived.Deep.RegionHeldLaw
namespace Go.Proofs.Ytmjeaceabjinfaa
open Go Go.RowKit
open M
set_option linter.unusedVariables false
set_option linter.unusedSimpArgs false

/-- how many wires a circuit has -/
def wiresN (c : Ci) : Int := c.1 + c.2.1.length
def sidesB (c : Ci) (a b : List Int) : Bool := goodC c && (decide (a.length = b.length) && (decide (a.length ≤ 16) && (a.all (inB (wiresN c)) && b.all (inB (wiresN c)))))
set_option maxRecDepth 100000 in
set_option maxHeartbeats 4000000 in
theorem iSides_any (v av bv : Value) (c : Ci) (a b : List Int) (w : World) (h : AtCirc w v c) (ha : IntsAt w av a) (hb : IntsAt w bv b) :
    Calls Try.prog 137 #[v, av, bv] w fun e w' => e = .returned (.bool (sidesB c a b)) ∧ Below w.heap.size w w' := by
  obtain ⟨_, gw, ov, hv, h1, h2⟩ := id h
  obtain ⟨ga, gc, hgw⟩ := h1.shape
  obtain ⟨oa, oc, ho⟩ := h2.shape
  subst hgw ho hv
  obtain ⟨aa, ac, hav⟩ := ha.shape
  obtain ⟨ba, bc, hbv⟩ := hb.shape
  have hal := ha.1
  have hbl := hb.1
  have x0 := box3_alloc w 27 (.int .i64 c.1) (.slice ga c.2.1.length gc) (.slice oa c.2.2.length oc)
  have hb0 : Below w.heap.size w (w.alloc (.cells #[.int .i64 c.1, .slice ga c.2.1.length gc, .slice oa c.2.2.length oc] 27)) := (Below.refl _ _).alloc (Nat.le_refl _) _
  have hsz : (w.alloc (.cells #[.int .i64 c.1, .slice ga c.2.1.length gc, .slice oa c.2.2.length oc] 27)).heap.size = w.heap.size + 1 := by simp only [World.size_alloc]
  have g1 := iGood_any _ c _ (h.below hb0)
  unfold sidesB
  cases hgd : goodC c with
  | false =>
    rw [hgd] at g1
    rw [Bool.false_and]
    subst hav hbv
    go_enter Try.func137, Try.ntmps137
    go_wp2_with fail
    refine g1.mono ?_
    rintro e w1 ⟨rfl, hs⟩
    have HB : Hid (Below w.heap.size w w1) := Below.step hb0 hb0.size hs
    clear g1 h ha hb h1 h2
    go_wp2_with fail
    go_ret
    exact ⟨rfl, HB.out⟩
  | true =>
    rw [hgd] at g1
    rw [Bool.true_and]
    obtain ⟨hI0, hI1, hG, hO, _, _⟩ := goodC_ins hgd
    obtain ⟨n0, hn0⟩ : ∃ n0 : Int, wiresN c = n0 := ⟨_, rfl⟩
    rw [hn0]
    have hn0' : c.1 + (c.2.1.length : Int) = n0 := hn0
    have hn1 : 0 ≤ n0 := by omega
    have hn2 : n0 ≤ 1000 := by omega
    have GW : Hid (∀ w1 : World, Calls Try.prog 85 #[.agg #[.int .i64 c.1, .slice ga c.2.1.length gc, .slice oa c.2.2.length oc]] w1 fun e w' => e = .returned (.int .i64 n0) ∧ Below w1.heap.size w1 w') := fun w1 => by
      have g := size_raw c.1 ga c.2.1.length gc (.slice oa c.2.2.length oc) (by omega) (by omega) (by omega) w1
      rw [hn0'] at g
      refine g.mono ?_
      rintro e w' ⟨he, hw⟩
      exact ⟨he, by rw [hw]; exact (Below.refl _ _).alloc (Nat.le_refl _) _⟩
    have Ga : Hid (∀ w1 : World, Below w.heap.size w w1 → Calls Try.prog 96 #[.int .i64 n0, av] w1 fun e w' => e = .returned (.bool (a.all (inB n0))) ∧ w' = w1) := fun w1 hw => goodWires_any av a n0 w1 (ha.below hw)
    have Gb : Hid (∀ w1 : World, Below w.heap.size w w1 → Calls Try.prog 96 #[.int .i64 n0, bv] w1 fun e w' => e = .returned (.bool (b.all (inB n0))) ∧ w' = w1) := fun w1 hw => goodWires_any bv b n0 w1 (hb.below hw)
    rw [hav] at Ga
    rw [hbv] at Gb
    subst hav hbv
    clear ha hb h1 h2 h hn0'
    obtain ⟨za, hza⟩ : ∃ za, a.all (inB n0) = za := ⟨_, rfl⟩
    obtain ⟨zb, hzb⟩ : ∃ zb, b.all (inB n0) = zb := ⟨_, rfl⟩
    rw [hza] at Ga ⊢
    rw [hzb] at Gb ⊢
    clear hza hzb
    by_cases hlen : a.length = b.length
    · rw [decide_eq_true hlen, Bool.true_and]
      by_cases h16 : a.length ≤ 16
      · rw [decide_eq_true h16, Bool.true_and]
        rw [← hlen] at Gb ⊢
        generalize a.length = an at *
        have han : (an : Int) ≤ 16 := by omega
        clear hlen hbl
        cases za with
        | false =>
          rw [Bool.false_and]
          go_enter Try.func137, Try.ntmps137
          go_wp2_with fail
          refine g1.mono ?_
          rintro e w1 ⟨rfl, hs⟩
          have hb1 := Below.step hb0 hb0.size hs
          have x1 := x0.below hs (by omega)
          obtain ⟨c0, c1, c2⟩ := x1.cells
          have hh := x1.heap
          have hlt1 := x1.lt
          clear g1 hs
          go_wp2_with fail
          refine (GW.out _).mono ?_
          rintro e w2 ⟨rfl, hs2⟩
          have hb2 := hb1.trans (hs2.mono hb1.size)
          have x2 := x1.below hs2 x1.lt
          clear c0 c1 c2 hh hlt1 x1 hb1 hs2
          obtain ⟨c0, c1, c2⟩ := x2.cells
          have hh := x2.heap
          have hlt2 := x2.lt
          have g3 := Ga.out w2 hb2
          go_wp2_with fail
          refine g3.mono ?_
          rintro e w3 ⟨rfl, rfl⟩
          clear g3
          go_wp2_with fail
          go_ret
          exact ⟨rfl, hb2⟩
        | true =>
          rw [Bool.true_and]
          go_enter Try.func137, Try.ntmps137
          go_wp2_with fail
          refine g1.mono ?_
          rintro e w1 ⟨rfl, hs⟩
          have hb1 := Below.step hb0 hb0.size hs
          have x1 := x0.below hs (by omega)
          obtain ⟨c0, c1, c2⟩ := x1.cells
          have hh := x1.heap
          have hlt1 := x1.lt
          clear g1 hs
          go_wp2_with fail
          refine (GW.out _).mono ?_
          rintro e w2 ⟨rfl, hs2⟩
          have hb2 := hb1.trans (hs2.mono hb1.size)
          have x2 := x1.below hs2 x1.lt
          clear c0 c1 c2 hh hlt1 x1 hb1 hs2
          obtain ⟨c0, c1, c2⟩ := x2.cells
          have hh := x2.heap
          have hlt2 := x2.lt
          have g3 := Ga.out w2 hb2
          go_wp2_with fail
          refine g3.mono ?_
          rintro e w3 ⟨rfl, rfl⟩
          clear g3
          go_wp2_with fail
          refine (GW.out _).mono ?_
          rintro e w4 ⟨rfl, hs4⟩
          have hb4 := hb2.trans (hs4.mono hb2.size)
          clear c0 c1 c2 hh hlt2 x2 hs4 hb2
          have g5 := Gb.out w4 hb4
          go_wp2_with fail
          refine g5.mono ?_
          rintro e w5 ⟨rfl, rfl⟩
          clear g5
          go_wp2_with fail
          go_ret
          exact ⟨rfl, hb4⟩
      · rw [decide_eq_false h16, Bool.false_and]
        rw [← hlen]
        have h16' : decide ((a.length : Int) ≤ 16) = false := decide_eq_false (by omega)
        generalize a.length = an at *
        go_enter Try.func137, Try.ntmps137
        go_wp2_with fail
        refine g1.mono ?_
        rintro e w1 ⟨rfl, hs⟩
        have hb1 := Below.step hb0 hb0.size hs
        have x1 := x0.below hs (by omega)
        obtain ⟨c0, c1, c2⟩ := x1.cells
        have hh := x1.heap
        have hlt1 := x1.lt
        clear g1 hs
        clear hlen hbl
        go_wp2_with fail
        go_ret
        exact ⟨rfl, hb1⟩
    · rw [decide_eq_false hlen, Bool.false_and]
      have hle : ((a.length : Int) == (b.length : Int)) = false := beq_eq_false_iff_ne.2 (by omega)
      generalize a.length = an at *
      generalize b.length = bn at *
      go_enter Try.func137, Try.ntmps137
      go_wp2_with fail
      refine g1.mono ?_
      rintro e w1 ⟨rfl, hs⟩
      have hb1 := Below.step hb0 hb0.size hs
      have x1 := x0.below hs (by omega)
      obtain ⟨c0, c1, c2⟩ := x1.cells
      have hh := x1.heap
      have hlt1 := x1.lt
      clear g1 hs
      clear hlen
      go_wp2_with fail
      go_ret
      exact ⟨rfl, hb1⟩
set_option maxRecDepth 100000 in
set_option maxHeartbeats 4000000 in
theorem sSides_any (v av bv : Value) (c : Ci) (a b : List Int) (w : World) (h : AtCirc w v c) (ha : IntsAt w av a) (hb : IntsAt w bv b) :
    Calls Try.prog 78 #[v, av, bv] w fun e w' => e = .returned (.bool (sidesB c a b)) ∧ Below w.heap.size w w' := by
  obtain ⟨_, gw, ov, hv, h1, h2⟩ := id h
  obtain ⟨ga, gc, hgw⟩ := h1.shape
  obtain ⟨oa, oc, ho⟩ := h2.shape
  subst hgw ho hv
  obtain ⟨aa, ac, hav⟩ := ha.shape
  obtain ⟨ba, bc, hbv⟩ := hb.shape
  have hal := ha.1
  have hbl := hb.1
  have x0 := box3_alloc w 27 (.int .i64 c.1) (.slice ga c.2.1.length gc) (.slice oa c.2.2.length oc)
  have hb0 : Below w.heap.size w (w.alloc (.cells #[.int .i64 c.1, .slice ga c.2.1.length gc, .slice oa c.2.2.length oc] 27)) := (Below.refl _ _).alloc (Nat.le_refl _) _
  have hsz : (w.alloc (.cells #[.int .i64 c.1, .slice ga c.2.1.length gc, .slice oa c.2.2.length oc] 27)).heap.size = w.heap.size + 1 := by simp only [World.size_alloc]
  have g1 := sGood_any _ c _ (h.below hb0)
  unfold sidesB
  cases hgd : goodC c with
  | false =>
    rw [hgd] at g1
    rw [Bool.false_and]
    subst hav hbv
    go_enter Try.func78, Try.ntmps78
    go_wp2_with fail
    refine g1.mono ?_
    rintro e w1 ⟨rfl, hs⟩
    have HB : Hid (Below w.heap.size w w1) := Below.step hb0 hb0.size hs
    clear g1 h ha hb h1 h2
    go_wp2_with fail
    go_ret
    exact ⟨rfl, HB.out⟩
  | true =>
    rw [hgd] at g1
    rw [Bool.true_and]
    obtain ⟨hI0, hI1, hG, hO, _, _⟩ := goodC_ins hgd
    obtain ⟨n0, hn0⟩ : ∃ n0 : Int, wiresN c = n0 := ⟨_, rfl⟩
    rw [hn0]
    have hn0' : c.1 + (c.2.1.length : Int) = n0 := hn0
    have hn1 : 0 ≤ n0 := by omega
    have hn2 : n0 ≤ 1000 := by omega
    have GW : Hid (∀ w1 : World, Calls Try.prog 91 #[.agg #[.int .i64 c.1, .slice ga c.2.1.length gc, .slice oa c.2.2.length oc]] w1 fun e w' => e = .returned (.int .i64 n0) ∧ Below w1.heap.size w1 w') := fun w1 => by
      have g := l4Wires_raw c.1 ga c.2.1.length gc (.slice oa c.2.2.length oc) (by omega) (by omega) (by omega) w1
      rw [hn0'] at g
      refine g.mono ?_
      rintro e w' ⟨he, hw⟩
      exact ⟨he, by rw [hw]; exact (Below.refl _ _).alloc (Nat.le_refl _) _⟩
    have Ga : Hid (∀ w1 : World, Below w.heap.size w w1 → Calls Try.prog 140 #[av, .int .i64 0, .int .i64 (n0 - 1)] w1 fun e w' => e = .returned (.bool (a.all (inB n0))) ∧ w' = w1) := fun w1 hw => by
      have g := l1All_any av a 0 (n0 - 1) w1 (ha.below hw)
      rw [all_btw] at g
      exact g
    have Gb : Hid (∀ w1 : World, Below w.heap.size w w1 → Calls Try.prog 140 #[bv, .int .i64 0, .int .i64 (n0 - 1)] w1 fun e w' => e = .returned (.bool (b.all (inB n0))) ∧ w' = w1) := fun w1 hw => by
      have g := l1All_any bv b 0 (n0 - 1) w1 (hb.below hw)
      rw [all_btw] at g
      exact g
    rw [hav] at Ga
    rw [hbv] at Gb
    subst hav hbv
    clear ha hb h1 h2 h hn0'
    obtain ⟨za, hza⟩ : ∃ za, a.all (inB n0) = za := ⟨_, rfl⟩
    obtain ⟨zb, hzb⟩ : ∃ zb, b.all (inB n0) = zb := ⟨_, rfl⟩
    rw [hza] at Ga ⊢
    rw [hzb] at Gb ⊢
    clear hza hzb
    by_cases hlen : a.length = b.length
    · rw [decide_eq_true hlen, Bool.true_and]
      by_cases h16 : a.length ≤ 16
      · rw [decide_eq_true h16, Bool.true_and]
        rw [← hlen] at Gb ⊢
        generalize a.length = an at *
        have han : (an : Int) ≤ 16 := by omega
        clear hlen hbl
        cases za with
        | false =>
          rw [Bool.false_and]
          go_enter Try.func78, Try.ntmps78
          go_wp2_with fail
          refine g1.mono ?_
          rintro e w1 ⟨rfl, hs⟩
          have hb1 := Below.step hb0 hb0.size hs
          have x1 := x0.below hs (by omega)
          obtain ⟨c0, c1, c2⟩ := x1.cells
          have hh := x1.heap
          have hlt1 := x1.lt
          clear g1 hs
          go_wp2_with fail
          refine (GW.out _).mono ?_
          rintro e w2 ⟨rfl, hs2⟩
          have hb2 := hb1.trans (hs2.mono hb1.size)
          have x2 := x1.below hs2 x1.lt
          clear c0 c1 c2 hh hlt1 x1 hb1 hs2
          obtain ⟨c0, c1, c2⟩ := x2.cells
          have hh := x2.heap
          have hlt2 := x2.lt
          have g3 := Ga.out w2 hb2
          go_wp2_with fail
          refine g3.mono ?_
          rintro e w3 ⟨rfl, rfl⟩
          clear g3
          go_wp2_with fail
          go_ret
          exact ⟨rfl, hb2⟩
        | true =>
          rw [Bool.true_and]
          go_enter Try.func78, Try.ntmps78
          go_wp2_with fail
          refine g1.mono ?_
          rintro e w1 ⟨rfl, hs⟩
          have hb1 := Below.step hb0 hb0.size hs
          have x1 := x0.below hs (by omega)
          obtain ⟨c0, c1, c2⟩ := x1.cells
          have hh := x1.heap
          have hlt1 := x1.lt
          clear g1 hs
          go_wp2_with fail
          refine (GW.out _).mono ?_
          rintro e w2 ⟨rfl, hs2⟩
          have hb2 := hb1.trans (hs2.mono hb1.size)
          have x2 := x1.below hs2 x1.lt
          clear c0 c1 c2 hh hlt1 x1 hb1 hs2
          obtain ⟨c0, c1, c2⟩ := x2.cells
          have hh := x2.heap
          have hlt2 := x2.lt
          have g3 := Ga.out w2 hb2
          go_wp2_with fail
          refine g3.mono ?_
          rintro e w3 ⟨rfl, rfl⟩
          clear g3
          go_wp2_with fail
          refine (GW.out _).mono ?_
          rintro e w4 ⟨rfl, hs4⟩
          have hb4 := hb2.trans (hs4.mono hb2.size)
          clear c0 c1 c2 hh hlt2 x2 hs4 hb2
          have g5 := Gb.out w4 hb4
          go_wp2_with fail
          refine g5.mono ?_
          rintro e w5 ⟨rfl, rfl⟩
          clear g5
          go_wp2_with fail
          go_ret
          exact ⟨rfl, hb4⟩
      · rw [decide_eq_false h16, Bool.false_and]
        rw [← hlen]
        have h16' : decide ((a.length : Int) ≤ 16) = false := decide_eq_false (by omega)
        generalize a.length = an at *
        go_enter Try.func78, Try.ntmps78
        go_wp2_with fail
        refine g1.mono ?_
        rintro e w1 ⟨rfl, hs⟩
        have hb1 := Below.step hb0 hb0.size hs
        have x1 := x0.below hs (by omega)
        obtain ⟨c0, c1, c2⟩ := x1.cells
        have hh := x1.heap
        have hlt1 := x1.lt
        clear g1 hs
        clear hlen hbl
        go_wp2_with fail
        go_ret
        exact ⟨rfl, hb1⟩
    · rw [decide_eq_false hlen, Bool.false_and]
      have hle : ((a.length : Int) == (b.length : Int)) = false := beq_eq_false_iff_ne.2 (by omega)
      generalize a.length = an at *
      generalize b.length = bn at *
      go_enter Try.func78, Try.ntmps78
      go_wp2_with fail
      refine g1.mono ?_
      rintro e w1 ⟨rfl, hs⟩
      have hb1 := Below.step hb0 hb0.size hs
      have x1 := x0.below hs (by omega)
      obtain ⟨c0, c1, c2⟩ := x1.cells
      have hh := x1.heap
      have hlt1 := x1.lt
      clear g1 hs
      clear hlen
      go_wp2_with fail
      go_ret
      exact ⟨rfl, hb1⟩
end Go.Proofs.Ytmjeaceabjinfaa

namespace Go.Proofs.Ytmjeaceabjinfaa
open Go Go.RowKit
open M
set_option linter.unusedVariables false
set_option linter.unusedSimpArgs false

theorem gates_from {w : World} {g : Nat} {t : List Gt} (hc : ∀ (i : Nat) (x : Gt), t[i]? = some x → GateAt w g (0 + i * 3) x) : ∀ (j : Nat) (u : Value), (flat3 t)[j]? = some u → w.cell? ((⟨g, 0, none⟩ : Addr).add j) = some u := by
  intro j u hu
  have hj : j < (flat3 t).length := (List.getElem?_eq_some_iff.1 hu).1
  rw [flat3_len] at hj
  have hi : j / 3 < t.length := by omega
  obtain ⟨x, hx⟩ : ∃ x, t[j / 3]? = some x := ⟨t[j / 3], List.getElem?_eq_getElem hi⟩
  obtain ⟨e0, e1, e2⟩ := flat3_at t (j / 3) x hx
  obtain ⟨d0, d1, d2⟩ := hc (j / 3) x hx
  have ea : (⟨g, 0, none⟩ : Addr).add j = ⟨g, j, none⟩ := by
    unfold Addr.add
    by_cases h0 : j = 0
    · subst h0
      simp
    · simp [h0]
  rw [ea]
  rw [Nat.zero_add] at d0 d1 d2
  have hr : j % 3 = 0 ∨ j % 3 = 1 ∨ j % 3 = 2 := by omega
  rcases hr with h | h | h
  · rw [show j / 3 * 3 = j from by omega] at e0 d0
    rw [hu] at e0
    rw [d0, e0]
  · rw [show j / 3 * 3 + 1 = j from by omega] at e1 d1
    rw [hu] at e1
    rw [d1, e1]
  · rw [show j / 3 * 3 + 2 = j from by omega] at e2 d2
    rw [hu] at e2
    rw [d2, e2]
/-- what is appended to a list of one's own: nothing, or a row -/
def Src (w : World) (v : Value) (n : Nat) (xs : List Value) : Prop := (n = 0 ∧ xs = [] ∧ v = .slice none 0 0) ∨ ∃ g cap : Nat, v = .slice (some ⟨g, 0, none⟩) n cap ∧ g < w.heap.size ∧ ∀ (j : Nat) (u : Value), xs[j]? = some u → w.cell? ((⟨g, 0, none⟩ : Addr).add j) = some u
theorem src_gates {w : World} {v : Value} {t : List Gt} (h1 : GatesAt w v t) (h2 : Strong w v t.length) : Src w v t.length (flat3 t) := by
  rcases strong_gates h1 h2 with ⟨e, hv⟩ | ⟨g, cap, hv, hg, _, hc⟩
  · subst e
    exact Or.inl ⟨rfl, rfl, hv⟩
  · exact Or.inr ⟨g, cap, hv, hg, gates_from hc⟩
theorem src_ints {w : World} {v : Value} {t : List Int} (h1 : IntsAt w v t) (h2 : Strong w v t.length) : Src w v t.length (cellsI t) := by
  rcases strong_ints h1 h2 with ⟨e, hv⟩ | ⟨g, cap, hv, hg, _, hc⟩
  · subst e
    exact Or.inl ⟨rfl, rfl, hv⟩
  · exact Or.inr ⟨g, cap, hv, hg, ints_from hc⟩
theorem Src.below {w w' : World} {v : Value} {n : Nat} {xs : List Value} (h : Src w v n xs) (hb : Below w.heap.size w w') : Src w' v n xs := by
  rcases h with h | ⟨g, cap, hv, hg, hc⟩
  · exact Or.inl h
  · refine Or.inr ⟨g, cap, hv, Nat.lt_of_lt_of_le hg hb.size, fun j u hu => ?_⟩
    have h1 := hc j u hu
    have hsp : ((⟨g, 0, none⟩ : Addr).add j).block = g := by unfold Addr.add; split <;> rfl
    rw [hb.cell (p := (⟨g, 0, none⟩ : Addr).add j) (by rw [hsp]; exact hg)]
    exact h1
theorem wp_append_src {P : Program} {o : Oper} {a : Act} {w : World} {K : Act → World → Prop} {Q : Exit → Act → World → Prop} (s x : Operand) (t : TypeId)
    (ho : o.op = .call { callee := .builtin .append, args := #[s, x], argTypes := #[t, t] })
    (base : Nat) (e : TypeId) (i : TypeInfo) (z : Value) (size bytes : Nat) (ht : P.underlying t = some (.slice e)) (hi : P.info? e = some i) (hz : i.zero = some z)
    (hsize : i.size = size) (hby : i.bytes = bytes) (hzs : z.cells.size = size) (hsz : 0 < size)
    (v : Value) (n : Nat) (xs : List Value) (hs : a.eval s = v) (hown : w.ownsRow base e size v n xs)
    (u : Value) (m : Nat) (news : List Value) (hx : a.eval x = u) (hsrc : Src w u m news) (hl : news.length = m * size) (h1 : ∀ u ∈ news, u.oneCell' = true)
    (h63 : n + m ≤ maxLen) (hbytes : (n + m) * bytes ≤ 140737488355328) (hbase : base ≤ w.heap.size)
    (h : ∀ v' w', w'.ownsRow base e size v' (n + m) (xs ++ news) → w.grownBy w' v.ownBlock → K (a.put o.dst v') w') : o.wp P a w K Q := by
  rcases hsrc with ⟨rfl, rfl, rfl⟩ | ⟨g, cap, rfl, _, hc⟩
  · have hrun := run_append_owned_none (P := P) (w := w) base t o.type e i size ht hi v n xs hown
    unfold Oper.wp
    simp [execOp, ho, resolve, invoke, builtin, hs, hx, hrun, Result.andThen]
    refine h v w ?_ (grown_refl _ _)
    rw [List.append_nil]
    exact hown
  · exact wp_append_own w s x t ho base e i z size bytes ht hi hz hsize hby hzs hsz v n xs hs hown ⟨g, 0, none⟩ m cap news hx hl hc h1 h63 hbytes hbase (fun v' w' h2 h3 _ => h v' w' h2 h3)
theorem step_append_src {P : Program} {ops : Array Oper} {o : Oper} {a : Act} {w : World} {K : Act → World → Prop} {Q : Exit → Act → World → Prop} {E : Prop} (hgd : o.guard = none) (s x : Operand) (t : TypeId)
    (ho : o.op = .call { callee := .builtin .append, args := #[s, x], argTypes := #[t, t] })
    (base : Nat) (e : TypeId) (i : TypeInfo) (z : Value) (size bytes : Nat) (ht : P.underlying t = some (.slice e)) (hi : P.info? e = some i) (hz : i.zero = some z)
    (hsize : i.size = size) (hby : i.bytes = bytes) (hzs : z.cells.size = size) (hsz : 0 < size)
    (v : Value) (n : Nat) (xs : List Value) (hs : a.eval s = v) (hown : w.ownsRow base e size v n xs)
    (u : Value) (m : Nat) (news : List Value) (hx : a.eval x = u) (hsrc : Src w u m news) (hl : news.length = m * size) (h1 : ∀ u ∈ news, u.oneCell' = true)
    (h63 : n + m ≤ maxLen) (hbytes : (n + m) * bytes ≤ 140737488355328) (hbase : base ≤ w.heap.size)
    (h : ∀ v' w', w'.ownsRow base e size v' (n + m) (xs ++ news) → w.grownBy w' v.ownBlock → K (a.put o.dst v') w') :
    if Region.wanted o (yielded ops a.tmps) = true then Oper.wp P o a w K Q else E := by
  have hw : Region.wanted o (yielded ops a.tmps) = true := by simp [Region.wanted, hgd]
  rw [if_pos hw]
  exact wp_append_src s x t ho base e i z size bytes ht hi hz hsize hby hzs hsz v n xs hs hown u m news hx hsrc hl h1 h63 hbytes hbase h
theorem wpList_append_src {P : Program} {ops : Array Oper} {rest : List Oper} {o : Oper} {a : Act} {w : World} {Q : Exit → Act → World → Prop} (hgd : o.guard = none) (s x : Operand) (t : TypeId)
    (ho : o.op = .call { callee := .builtin .append, args := #[s, x], argTypes := #[t, t] })
    (base : Nat) (e : TypeId) (i : TypeInfo) (z : Value) (size bytes : Nat) (ht : P.underlying t = some (.slice e)) (hi : P.info? e = some i) (hz : i.zero = some z)
    (hsize : i.size = size) (hby : i.bytes = bytes) (hzs : z.cells.size = size) (hsz : 0 < size)
    (v : Value) (n : Nat) (xs : List Value) (hs : a.eval s = v) (hown : w.ownsRow base e size v n xs)
    (u : Value) (m : Nat) (news : List Value) (hx : a.eval x = u) (hsrc : Src w u m news) (hl : news.length = m * size) (h1 : ∀ u ∈ news, u.oneCell' = true)
    (h63 : n + m ≤ maxLen) (hbytes : (n + m) * bytes ≤ 140737488355328) (hbase : base ≤ w.heap.size)
    (h : ∀ v' w', w'.ownsRow base e size v' (n + m) (xs ++ news) → w.grownBy w' v.ownBlock → wpList P ops Q rest (a.put o.dst v') w') : wpList P ops Q (o :: rest) a w :=
  wpList_plain hgd fun _ hK => wp_append_src s x t ho base e i z size bytes ht hi hz hsize hby hzs hsz v n xs hs hown u m news hx hsrc hl h1 h63 hbytes hbase (fun v' w' h2 h3 => hK _ _ (h v' w' h2 h3))
theorem Src.grown {w w' : World} {v : Value} {n : Nat} {xs : List Value} (h : Src w v n xs) (g : w.grownBy w' none) : Src w' v n xs := h.below ((Below.refl _ _).grown g (Nat.le_refl _) (fun k hk => by cases hk))
theorem Src.drew {w : World} {v : Value} {n : Nat} {xs : List Value} (h : Src w v n xs) : Src w.drew v n xs := h
set_option maxRecDepth 100000 in
set_option maxHeartbeats 4000000 in
theorem grown_any (v : Value) (c : Ci) (hI0 : 0 ≤ c.1) (hI1 : c.1 ≤ 16) (hG : c.2.1.length ≤ 300) (hO : c.2.2.length ≤ 16) (w : World) (h : AtC w v c) :
    Calls Try.prog 138 #[v] w fun e w' => ∃ b, e = .returned (.pointer (some ⟨b, 0, none⟩)) ∧ Bld w' w.heap.size w'.heap.size b 27 c ∧ Below w.heap.size w w' := by
  obtain ⟨_, gw, ov, hv, h1, h2, h3, h4⟩ := h
  obtain ⟨ga, gc, hgw⟩ := h1.shape
  obtain ⟨oa, oc, ho⟩ := h2.shape
  have sg := src_gates h1 h3
  have so := src_ints h2 h4
  clear h1 h2 h3 h4
  subst hgw ho hv
  obtain ⟨ins, gs, os⟩ := c
  simp only at *
  obtain ⟨i0, hif, hz0, hz1, hz2⟩ := info_parts infoInt
  obtain ⟨j0, hjf, hy0, hy1, hy2⟩ := info_parts infoGate
  have hb0 : Below w.heap.size w (w.alloc (.cells #[.int .i64 ins, .slice ga gs.length gc, .slice oa os.length oc] 27)) := (Below.refl _ _).alloc (Nat.le_refl _) _
  have x0 := box3_alloc w 27 (.int .i64 ins) (.slice ga gs.length gc) (.slice oa os.length oc)
  have hs0 := x0.lt
  have sg0 := (sg.below hb0).drew
  have so0 := (so.below hb0).drew
  clear sg so
  obtain ⟨c0, c1, c2⟩ := x0.cells
  have hh := x0.heap
  have hs1 : (w.alloc (.cells #[.int .i64 ins, .slice ga gs.length gc, .slice oa os.length oc] 27)).heap.size = w.heap.size + 1 := by simp only [World.size_alloc]
  have hsb : w.heap.size ≤ (w.alloc (.cells #[.int .i64 ins, .slice ga gs.length gc, .slice oa os.length oc] 27)).drew.heap.size := by
    show w.heap.size ≤ (w.alloc (.cells #[.int .i64 ins, .slice ga gs.length gc, .slice oa os.length oc] 27)).heap.size
    omega
  have HK : Hid (∀ w5 : World, ((w.alloc (.cells #[.int .i64 ins, .slice ga gs.length gc, .slice oa os.length oc] 27)).drew).grownBy w5 none → Box3 w5 w.heap.size 27 (.int .i64 ins) (.slice ga gs.length gc) (.slice oa os.length oc) ∧ Src w5 (.slice oa os.length oc) os.length (cellsI os) ∧ w.heap.size ≤ w5.heap.size ∧ Below w.heap.size w w5) := by
    intro w5 g5
    have hx5 : Box3 w5 w.heap.size 27 (.int .i64 ins) (.slice ga gs.length gc) (.slice oa os.length oc) := Box3.grown (w := (w.alloc (.cells #[.int .i64 ins, .slice ga gs.length gc, .slice oa os.length oc] 27)).drew) ⟨x0.heap⟩ g5 (fun e => by cases e)
    exact ⟨hx5, so0.grown g5, Nat.le_trans hsb g5.size, hb0.drew.grown g5 hsb (fun k hk => by cases hk)⟩
  have HE : Hid (∀ (w5 : World) (v5 : Value) (w6 : World) (v6 : Value), ((w.alloc (.cells #[.int .i64 ins, .slice ga gs.length gc, .slice oa os.length oc] 27)).drew).grownBy w5 none → w5.ownsRow w.heap.size 108 3 v5 gs.length (flat3 gs) → w5.grownBy w6 none → w6.ownsRow w.heap.size 3 1 v6 os.length (cellsI os) → Box3 w6 w.heap.size 27 (.int .i64 ins) (.slice ga gs.length gc) (.slice oa os.length oc) ∧ Hid (Bld (w6.alloc (.cells #[.int .i64 ins, v5, v6] 27)) w.heap.size (w6.alloc (.cells #[.int .i64 ins, v5, v6] 27)).heap.size w6.heap.size 27 (ins, gs, os) ∧ Below w.heap.size w (w6.alloc (.cells #[.int .i64 ins, v5, v6] 27)))) := by
    intro w5 v5 w6 v6 g5 o5 g6 o6
    obtain ⟨k1, k2, k3, k4⟩ := HK.out w5 g5
    have hb6 : Below w.heap.size w w6 := k4.grown g6 k3 (fun k hk => by cases hk)
    have o5' : w6.ownsRow w.heap.size 108 3 v5 gs.length (flat3 gs) := owns_below o5 ((Below.refl _ _).grown g6 (Nat.le_refl _) (fun k hk => by cases hk))
    refine ⟨k1.grown g6 (fun e => by cases e), ⟨hb6.size, v5, v6, box3_alloc _ _ _ _ _, o5'.alloc _, o6.alloc _, fun k hk => ?_⟩, hb6.alloc hb6.size _⟩
    have := (own_block o6 hk).2
    rw [World.size_alloc]
    omega
  have sgl : (flat3 gs).length = gs.length * 3 := flat3_len gs
  have sol : (cellsI os).length = os.length * 1 := by simp [cellsI]
  clear x0
  go_enter Try.func138, Try.ntmps138
  go_wp2_with fail
  go_region_law (first | (refine step_append_src rfl _ _ 24 rfl w.heap.size 108 j0 (.agg #[.int .i64 0, .int .i64 0, .int .i64 0]) 3 24 Try.underlying24 hjf hy0 hy1 hy2 rfl (by decide) (.slice none 0 0) 0 [] (by simp [Act.eval, Act.put]) (World.ownsRow_nil _ _ _ _) (.slice ga gs.length gc) gs.length (flat3 gs) (by simp [Act.eval, Act.put]) sg0 sgl (flat3_one gs) (by unfold maxLen; omega) (by omega) hsb ?_; intro v5 w5 own5 grow5; rw [Nat.zero_add, List.nil_append] at own5; obtain ⟨k1, k2, k3, k4⟩ := HK.out w5 grow5; obtain ⟨ka0, ka1, ka2⟩ := k1.cells; have kh := k1.heap; have klt := k1.lt; obtain ⟨va5, vc5, hv5⟩ := own_shape own5; subst hv5; have OW5 : Hid _ := own5; have GR5 : Hid _ := grow5; clear k1 k4 own5 grow5) | (refine step_append_src rfl _ _ 25 rfl w.heap.size 3 i0 (.int .i64 0) 1 8 Try.underlying25 hif hz0 hz1 hz2 rfl (by decide) (.slice none 0 0) 0 [] (by simp [Act.eval, Act.put]) (World.ownsRow_nil _ _ _ _) (.slice oa os.length oc) os.length (cellsI os) (by simp [Act.eval, Act.put]) k2 sol (ints_one os) (by unfold maxLen; omega) (by omega) k3 ?_; intro v6 w6 own6 grow6; rw [Nat.zero_add, List.nil_append] at own6; obtain ⟨l1, l2⟩ := HE.out w5 _ w6 v6 GR5.out OW5.out grow6 own6; obtain ⟨la0, la1, la2⟩ := l1.cells; have lh := l1.heap; have llt := l1.lt; obtain ⟨va6, vc6, hv6⟩ := own_shape own6; subst hv6; clear own6 grow6 l1))
  all_goals
    go_wp2_with fail
    go_ret
    exact ⟨_, rfl, l2.out.1, l2.out.2⟩
end Go.Proofs.Ytmjeaceabjinfaa

namespace Go.Proofs.Ytmjeaceabjinfaa
open Go Go.RowKit
open M
set_option linter.unusedVariables false
set_option linter.unusedSimpArgs false

theorem pick_low (b : Nat) (n : Int) (hn : n ≤ 1) (w : World) :
    Calls Try.prog 95 #[.pointer (some ⟨b, 0, none⟩), .int .i64 n] w fun e w' => e = .returned (.int .i64 0) ∧ w' = w := by
  go_enter Try.func95, Try.ntmps95
  go_wp2_with fail
  go_ret
  exact ⟨rfl, rfl⟩
/-- a number from nought on, below n or nought -/
theorem pick_all (B b m : Nat) (sv : Value) (n : Int) (hn1 : n ≤ 4611686018427387904) (w : World) (h : Cur B b m sv w) (hm : m ≤ 4611686018427387900) :
    Calls Try.prog 95 #[.pointer (some ⟨b, 0, none⟩), .int .i64 n] w fun e w' => ∃ x : Int, (0 ≤ x ∧ (x < n ∨ x = 0)) ∧ e = .returned (.int .i64 x) ∧ Only b w w' ∧ Cur B b (m + 2) sv w' := by
  by_cases hn : 1 ≤ n
  · refine (pick_any B b m sv n hn hn1 w h hm).mono ?_
    rintro e w' ⟨x, ⟨h0, h1⟩, he, ho, hc⟩
    exact ⟨x, ⟨h0, Or.inl h1⟩, he, ho, hc⟩
  · refine (pick_low b n (by omega) w).mono ?_
    rintro e w' ⟨he, rfl⟩
    exact ⟨0, ⟨by omega, Or.inr rfl⟩, he, Only.refl _ _, h.more (by omega)⟩
theorem Only.keeps {b : Nat} {w w' : World} (h : Only b w w') {B n : Nat} {e : TypeId} {s : Nat} {v : Value} {xs : List Value} (ho : w.ownsRow B e s v n xs) (hb : b < B) : w'.ownsRow B e s v n xs :=
  own_keep ho (fun g hg => h.block g (by have := (own_block ho hg).1; omega) (own_block ho hg).2)
theorem Only.box {b c : Nat} {w w' : World} (h : Only b w w') {e : TypeId} {x y z : Value} (hx : Box3 w c e x y z) (hb : c ≠ b) : Box3 w' c e x y z := ⟨by rw [h.block c hb hx.lt]; exact hx.heap⟩
theorem Only.grown {b : Nat} {u w w' : World} {row : Option Nat} (h : Only b u w) (g : w.grownBy w' row) (hr : ∀ k, row = some k → u.heap.size ≤ k) : Only b u w' :=
  ⟨g.os.trans h.os, g.tape.trans h.tape, g.output.trans h.output, Nat.le_trans h.size g.size, fun i hi hs => (g.block i (Nat.lt_of_lt_of_le hs h.size) (fun e => by have := hr i e.symm; omega)).trans (h.block i hi hs)⟩
theorem Only.step {b : Nat} {u w w' : World} (h : Only b u w) (k : Below w.heap.size w w') : Only b u w' := h.trans ⟨k.os, k.tape, k.output, k.size, fun i _ hs => k.block i hs⟩
theorem Cur.grown {B b m : Nat} {sv : Value} {w w' : World} {row : Option Nat} (h : Cur B b m sv w) (g : w.grownBy w' row) (hr : ∀ k, row = some k → b < k) : Cur B b m sv w' :=
  h.below ((Below.refl _ _).grown g h.lies (fun k hk => hr k hk))
set_option maxRecDepth 100000 in
set_option maxHeartbeats 2000000 in
theorem wires_any (B b m : Nat) (sv : Value) (n : Int) (hn1 : n ≤ 1000) (many : Nat) (hmany : many ≤ 1000) (w : World) (h : Cur B b m sv w) (hm : m ≤ 4611686018427380000) :
    Calls Try.prog 136 #[.pointer (some ⟨b, 0, none⟩), .int .i64 n, .int .i64 many] w fun e w' => ∃ r t, e = .returned r ∧ t.length = many ∧ (∀ x ∈ t, 0 ≤ x ∧ x ≤ 1000) ∧ w'.ownsRow w.heap.size 3 1 r t.length (cellsI t) ∧ Only b w w' ∧ Cur B b (m + 2 * many) sv w' := by
  obtain ⟨i0, hif, hz0, hz1, hz2⟩ := info_parts infoInt
  have hlies := h.lies
  have HC0 : Hid _ := h
  clear h
  go_enter Try.func136, Try.ntmps136
  go_wp2_with fail
  go_loopw [2, 7] (fun vm vl wr => ∃ (j : Nat) (t : List Int), j ≤ many ∧ vm = .int .i64 ((many : Int) - j) ∧ t.length = j ∧ Hid (∀ x ∈ t, 0 ≤ x ∧ x ≤ 1000) ∧ Hid (wr.ownsRow w.heap.size 3 1 vl t.length (cellsI t)) ∧ Hid (Only b w wr) ∧ Hid (Cur B b (m + 2 * j) sv wr)) (fun vm _ _ => (intOf vm).toNat)
  case atStart => exact ⟨0, [], by omega, by simp, rfl, (fun x hx => by cases hx), World.ownsRow_nil _ _ _ _, Only.refl _ _, HC0⟩
  case round =>
    clear HC0
    obtain ⟨j, t, hj, rfl, htl, HT, HO, HN, HC⟩ := hrel
    by_cases hlt : j < many
    · have g1 := pick_all B b (m + 2 * j) sv n (by omega) wr HC.out (by omega)
      have hpos : (0 : Int) < (many : Int) - j := by omega
      obtain ⟨va, vc, hv⟩ := own_shape HO.out
      subst hv
      rw [htl] at HO
      rw [htl]
      go_wp2_with fail
      refine g1.mono ?_
      rintro e w1 ⟨x, ⟨hx0, hx1⟩, rfl, ho1, hc1⟩
      have own1 := ho1.keeps HO.out hlies
      have own6 := own1.alloc (.cells #[.int .i64 x] 3)
      have hon : Only b w (w1.alloc (.cells #[.int .i64 x] 3)) := (HN.out.trans ho1).alloc _
      have hcu : Cur B b (m + 2 * j + 2) sv (w1.alloc (.cells #[.int .i64 x] 3)) := hc1.alloc _
      have hs6 : w.heap.size ≤ (w1.alloc (.cells #[.int .i64 x] 3)).heap.size := hon.size
      have HT2 : Hid (∀ y ∈ t ++ [x], 0 ≤ y ∧ y ≤ 1000) := by
        intro y hy
        simp only [List.mem_append, List.mem_singleton] at hy
        rcases hy with hy | rfl
        · exact HT.out y hy
        · omega
      clear g1 HO HC HN ho1 hc1 own1
      go_wp2_with (at_builtin; refine wpList_append_own _ rfl _ _ 25 rfl w.heap.size 3 i0 (.int .i64 0) 1 8 Try.underlying25 hif hz0 hz1 hz2 rfl (by decide) _ _ _ rfl own6 ⟨w1.heap.size, 0, none⟩ 1 1 [.int .i64 x] rfl rfl (oneI_cells w1 x) (ints_one [x]) (by unfold maxLen; omega) (by omega) hs6 ?_)
      intro v7 w7 own7 grow7 _
      have HO7 : Hid (w7.ownsRow w.heap.size 3 1 v7 (t ++ [x]).length (cellsI (t ++ [x]))) := by
        show w7.ownsRow w.heap.size 3 1 v7 (t ++ [x]).length (cellsI (t ++ [x]))
        unfold cellsI
        rw [List.length_append, List.map_append, htl]
        exact own7
      have HN7 : Hid (Only b w w7) := hon.grown grow7 (fun k hk => (own_block own6 hk).1)
      have HC7 : Hid (Cur B b (m + 2 * (j + 1)) sv w7) := (hcu.grown grow7 (fun k hk => by have := (own_block own6 hk).1; omega)).more (by omega)
      have htl2 : (t ++ [x]).length = j + 1 := by rw [List.length_append, htl]; rfl
      clear own6 own7 grow7 hon hcu HT
      go_wp2_with fail
      go_roundw
      case rel => exact ⟨j + 1, t ++ [x], by omega, by go_num, htl2, HT2, HO7, HN7, HC7⟩
      case measure => simp [intOf]; omega
    · obtain rfl : j = many := by omega
      have hz : ((j : Int) - j) = 0 := by omega
      rw [hz]
      go_wp2_with fail
      go_ret
      exact ⟨_, t, rfl, htl, HT.out, HO.out, HN.out, HC.out⟩
end Go.Proofs.Ytmjeaceabjinfaa

namespace Go.Proofs.Ytmjeaceabjinfaa
open Go Go.RowKit
open M
set_option linter.unusedVariables false
set_option linter.unusedSimpArgs false

/-- a circuit that is being drawn at block P, by the cursor at block b -/
structure CS (u : World) (P b base B m : Nat) (sv : Value) (ins : Int) (gsl osl : Value) (G : List Gt) (os : List Int) (w : World) : Prop where
  box : Box3 w P 27 (.int .i64 ins) gsl osl
  rows : w.ownsRow base 108 3 gsl G.length (flat3 G)
  outs : w.ownsRow base 3 1 osl os.length (cellsI os)
  frame : But2 P b u w
  cur : Cur B b m sv w
theorem CS.only {u w w' : World} {P b base B m m' : Nat} {sv : Value} {ins : Int} {gsl osl : Value} {G : List Gt} {os : List Int} (h : CS u P b base B m sv ins gsl osl G os w) (ho : Only b w w') (hc : Cur B b m' sv w') (hP : P ≠ b) (hb : b < base) : CS u P b base B m' sv ins gsl osl G os w' :=
  ⟨ho.box h.box hP, ho.keeps h.rows hb, ho.keeps h.outs hb, ⟨ho.os.trans h.frame.os, ho.tape.trans h.frame.tape, ho.output.trans h.frame.output, Nat.le_trans h.frame.size ho.size, fun i hi h1 h2 => (ho.block i h2 (Nat.lt_of_lt_of_le hi h.frame.size)).trans (h.frame.block i hi h1 h2)⟩, hc⟩
theorem CS.alloc {u w : World} {P b base B m : Nat} {sv : Value} {ins : Int} {gsl osl : Value} {G : List Gt} {os : List Int} (h : CS u P b base B m sv ins gsl osl G os w) (o : Obj) : CS u P b base B m sv ins gsl osl G os (w.alloc o) :=
  ⟨h.box.alloc o, h.rows.alloc o, h.outs.alloc o, h.frame.alloc o, h.cur.alloc o⟩
theorem CS.drew {u w : World} {P b base B m : Nat} {sv : Value} {ins : Int} {gsl osl : Value} {G : List Gt} {os : List Int} (h : CS u P b base B m sv ins gsl osl G os w) : CS u P b base B m sv ins gsl osl G os w.drew :=
  ⟨⟨h.box.heap⟩, h.rows, h.outs, h.frame.below (Below.refl w.heap.size w).drew h.frame.size, h.cur.drew⟩
/-- a local gate at block g is set -/
theorem CS.set {u w : World} {P b base B m g o : Nat} {v : Value} {sv : Value} {ins : Int} {gsl osl : Value} {G : List Gt} {os : List Int} (h : CS u P b base B m sv ins gsl osl G os w) (hP : g ≠ P) (hb : b < g) (hu : u.heap.size ≤ g) (h1 : ∀ k, gsl.ownBlock = some k → k < g) (h2 : ∀ k, osl.ownBlock = some k → k < g) : CS u P b base B m sv ins gsl osl G os (w.setCell ⟨g, o, none⟩ v) :=
  ⟨h.box.other (fun e => hP e.symm) v, own_keep h.rows (fun k hk => Below.heap_setCell _ _ _ _ (by show k ≠ g; have := h1 k hk; omega)), own_keep h.outs (fun k hk => Below.heap_setCell _ _ _ _ (by show k ≠ g; have := h2 k hk; omega)), h.frame.set (Or.inr (Or.inr hu)), h.cur.below ((Below.refl _ _).setCell (by show b + 1 ≤ g; omega) _)⟩
/-- a gate is appended -/
theorem CS.laid {u w w8 : World} {P b base B m : Nat} {sv v8 : Value} {ins k x y : Int} {gsl osl : Value} {G : List Gt} {os : List Int} (h : CS u P b base B m sv ins gsl osl G os w) (hbP : b < P) (hPb : P < base) (hub : u.heap.size ≤ base)
    (own8 : w8.ownsRow base 108 3 v8 (G.length + 1) (flat3 G ++ [.int .i64 k, .int .i64 x, .int .i64 y])) (grow8 : (w.alloc (.cells #[.int .i64 k, .int .i64 x, .int .i64 y] 108)).grownBy w8 gsl.ownBlock) :
    Box3 w8 P 27 (.int .i64 ins) gsl osl ∧ CS u P b base B m sv ins v8 osl (G ++ [(k, x, y)]) os (w8.setCell ⟨P, 1, none⟩ v8) := by
  have ha := h.alloc (.cells #[.int .i64 k, .int .i64 x, .int .i64 y] 108)
  have hgr := grow_row (w' := w8) ha.rows
  have hx8 := ha.box.grown grow8 (fun e => by have := hgr _ e; omega)
  have hf8 := ha.frame.grown grow8 (fun k hk => Nat.le_trans hub (hgr k hk))
  have hc8 := ha.cur.grown grow8 (fun k hk => by have := hgr k hk; omega)
  refine ⟨hx8, hx8.set1 v8, ?_, ?_, hf8.set (Or.inl rfl), hc8.below ((Below.refl _ _).setCell (by show b + 1 ≤ P; omega) _)⟩
  · have h1 := own_set (b := P) (o := 1) (u := v8) own8 hPb
    rw [List.length_append, flat3_append]
    exact h1
  · exact own_set (own_keepT ha.outs (KeepT.grown ha.rows grow8 (by decide))) hPb
/-- the outs are set -/
theorem CS.setOuts {u w : World} {P b base B m : Nat} {sv v : Value} {ins : Int} {gsl osl : Value} {G : List Gt} {os t : List Int} (h : CS u P b base B m sv ins gsl osl G os w) (ho : w.ownsRow base 3 1 v t.length (cellsI t)) (hbP : b < P) (hPb : P < base) : CS u P b base B m sv ins gsl v G t (w.setCell ⟨P, 2, none⟩ v) :=
  ⟨h.box.set2 v, own_set h.rows hPb, own_set ho hPb, h.frame.set (Or.inl rfl), h.cur.below ((Below.refl _ _).setCell (by show b + 1 ≤ P; omega) _)⟩
theorem CS.setIns {u w : World} {P b base B m : Nat} {sv : Value} {ins n : Int} {gsl osl : Value} {G : List Gt} {os : List Int} (h : CS u P b base B m sv ins gsl osl G os w) (hbP : b < P) (hPb : P < base) : CS u P b base B m sv n gsl osl G os (w.setCell ⟨P, 0, none⟩ (.int .i64 n)) :=
  ⟨h.box.set0 _, own_set h.rows hPb, own_set h.outs hPb, h.frame.set (Or.inl rfl), h.cur.below ((Below.refl _ _).setCell (by show b + 1 ≤ P; omega) _)⟩
theorem CS.appOuts {u w w8 : World} {P b base B m : Nat} {sv v8 : Value} {ins n : Int} {gsl osl : Value} {G : List Gt} {os : List Int} (h : CS u P b base B m sv ins gsl osl G os w) (hbP : b < P) (hPb : P < base) (hub : u.heap.size ≤ base)
    (own8 : w8.ownsRow base 3 1 v8 (os.length + 1) (cellsI os ++ [.int .i64 n])) (grow8 : (w.alloc (.cells #[.int .i64 n] 3)).grownBy w8 osl.ownBlock) :
    Box3 w8 P 27 (.int .i64 ins) gsl osl ∧ CS u P b base B m sv ins gsl v8 G (os ++ [n]) (w8.setCell ⟨P, 2, none⟩ v8) := by
  have ha := h.alloc (.cells #[.int .i64 n] 3)
  have hgr := grow_row (w' := w8) ha.outs
  have hx8 := ha.box.grown grow8 (fun e => by have := hgr _ e; omega)
  have hf8 := ha.frame.grown grow8 (fun k hk => Nat.le_trans hub (hgr k hk))
  have hc8 := ha.cur.grown grow8 (fun k hk => by have := hgr k hk; omega)
  refine ⟨hx8, hx8.set2 v8, ?_, ?_, hf8.set (Or.inl rfl), hc8.below ((Below.refl _ _).setCell (by show b + 1 ≤ P; omega) _)⟩
  · exact own_set (own_keepT ha.rows (KeepT.grown ha.outs grow8 (by decide))) hPb
  · have h1 := own_set (b := P) (o := 2) (u := v8) own8 hPb
    unfold cellsI at *
    rw [List.length_append, List.map_append]
    exact h1
/-- how long the slice of a cell is -/
def lenAt (v : Option Value) : Nat := match v with | some (.slice _ n _) => n | _ => 0
/-- what is drawn is handed out -/
theorem CS.done {w u wr : World} {P b base B m : Nat} {sv : Value} {ins : Int} {gsl osl : Value} {G : List Gt} {os : List Int} (h : CS u P b base B m sv ins gsl osl G os wr) (hon : Only b w u) (hR : Box3 u w.heap.size 27 (.int .i64 0) (.slice none 0 0) (.slice none 0 0)) (hb : b < w.heap.size) (hP : w.heap.size < P) (hPb : P < base) :
    Box3 wr w.heap.size 27 (.int .i64 0) (.slice none 0 0) (.slice none 0 0) ∧
    Hid ((((wr.setCell ⟨w.heap.size, 0, none⟩ (.int .i64 ins)).setCell ⟨w.heap.size, 1, none⟩ gsl).setCell ⟨w.heap.size, 2, none⟩ osl).heap[w.heap.size]? = some (.cells #[.int .i64 ins, gsl, osl] 27 (0, 0)) ∧ (((wr.setCell ⟨w.heap.size, 0, none⟩ (.int .i64 ins)).setCell ⟨w.heap.size, 1, none⟩ gsl).setCell ⟨w.heap.size, 2, none⟩ osl).ownsRow w.heap.size 108 3 gsl G.length (flat3 G) ∧ (((wr.setCell ⟨w.heap.size, 0, none⟩ (.int .i64 ins)).setCell ⟨w.heap.size, 1, none⟩ gsl).setCell ⟨w.heap.size, 2, none⟩ osl).ownsRow w.heap.size 3 1 osl os.length (cellsI os) ∧ Only b w (((wr.setCell ⟨w.heap.size, 0, none⟩ (.int .i64 ins)).setCell ⟨w.heap.size, 1, none⟩ gsl).setCell ⟨w.heap.size, 2, none⟩ osl) ∧ Cur B b m sv (((wr.setCell ⟨w.heap.size, 0, none⟩ (.int .i64 ins)).setCell ⟨w.heap.size, 1, none⟩ gsl).setCell ⟨w.heap.size, 2, none⟩ osl)) := by
  have hRr := hR.but h.frame (by omega) (by omega)
  have hs := hon.size
  have hon2 : Only b w wr := ⟨h.frame.os.trans hon.os, h.frame.tape.trans hon.tape, h.frame.output.trans hon.output, Nat.le_trans hs h.frame.size, fun i hi hlt => (h.frame.block i (by omega) (by omega) (by omega)).trans (hon.block i hi hlt)⟩
  have hset : ∀ (v : World) (o : Nat) (x : Value), Only b w v → Only b w (v.setCell ⟨w.heap.size, o, none⟩ x) := fun v o x hv => ⟨hv.os, hv.tape, hv.output, by simpa [World.setCell] using hv.size, fun i hi hlt => (Below.heap_setCell _ _ _ _ (by show i ≠ w.heap.size; omega)).trans (hv.block i hi hlt)⟩
  have hcur : Below (b + 1) wr (((wr.setCell ⟨w.heap.size, 0, none⟩ (.int .i64 ins)).setCell ⟨w.heap.size, 1, none⟩ gsl).setCell ⟨w.heap.size, 2, none⟩ osl) := (((Below.refl _ _).setCell (p := ⟨w.heap.size, 0, none⟩) (by show b + 1 ≤ w.heap.size; omega) _).setCell (p := ⟨w.heap.size, 1, none⟩) (by show b + 1 ≤ w.heap.size; omega) _).setCell (p := ⟨w.heap.size, 2, none⟩) (by show b + 1 ≤ w.heap.size; omega) _
  exact ⟨hRr, (((hRr.set0 _).set1 _).set2 _).heap, own_base (own_set (own_set (own_set h.rows (by omega)) (by omega)) (by omega)) (by omega), own_base (own_set (own_set (own_set h.outs (by omega)) (by omega)) (by omega)) (by omega), hset _ _ _ (hset _ _ _ (hset _ _ _ hon2)), h.cur.below hcur⟩
/-- what circuit answers -/
def CircOut (B b m : Nat) (sv : Value) (w : World) (e : Ending) (w' : World) : Prop := ∃ (gv ov : Value) (c : Ci), e = .returned (.agg #[.int .i64 c.1, gv, ov]) ∧ ((-1 ≤ c.1 ∧ c.1 ≤ 17) ∧ c.2.1.length ≤ 301 ∧ c.2.2.length ≤ 16 ∧ (∀ g ∈ c.2.1, smG 1000 g)) ∧ w'.ownsRow w.heap.size 108 3 gv c.2.1.length (flat3 c.2.1) ∧ w'.ownsRow w.heap.size 3 1 ov c.2.2.length (cellsI c.2.2) ∧ Only b w w' ∧ Cur B b (m + 10000) sv w'
set_option maxRecDepth 100000 in
set_option maxHeartbeats 8000000 in
theorem circuit_any (B b m : Nat) (sv : Value) (w : World) (h : Cur B b m sv w) (hm : m ≤ 4611686018427300000) :
    Calls Try.prog 94 #[.pointer (some ⟨b, 0, none⟩)] w fun e w' => CircOut B b m sv w e w' := by
  have hlies := h.lies
  have hba : Cur B b m sv (w.alloc (.cells #[.int .i64 0, .slice none 0 0, .slice none 0 0] 27)) := h.alloc _
  have hoa : Only b w (w.alloc (.cells #[.int .i64 0, .slice none 0 0, .slice none 0 0] 27)) := (Only.refl _ _).alloc _
  have x1 := box3_alloc w 27 (.int .i64 0) (.slice none 0 0) (.slice none 0 0)
  have g1 := pick_all B b m sv 8 (by omega) _ hba (by omega)
  have hsa : (w.alloc (.cells #[.int .i64 0, .slice none 0 0, .slice none 0 0] 27)).heap.size = w.heap.size + 1 := by simp only [World.size_alloc]
  obtain ⟨j0, hjf, hy0, hy1, hy2⟩ := info_parts infoGate
  obtain ⟨i0, hif, hz0, hz1, hz2⟩ := info_parts infoInt
  go_enter Try.func94, Try.ntmps94
  go_wp2_with fail
  refine g1.mono ?_
  rintro e w1 ⟨x, ⟨hx0, hx1⟩, rfl, ho1, hc1⟩
  have y1 := ho1.box x1 (by omega)
  have hbb := hc1.lies
  have hs1 := ho1.size
  rw [hsa] at hs1
  have hon1 : Only b w w1 := hoa.trans ho1
  clear g1 hba hoa x1 ho1 hsa h
  obtain ⟨ins, hins⟩ : ∃ ins : Int, 1 + x = ins := ⟨_, rfl⟩
  have hi0 : 1 ≤ ins := by omega
  have hi1 : ins ≤ 8 := by omega
  have hc2 := hc1.alloc (.cells #[.int .i64 ins, .slice none 0 0, .slice none 0 0] 27)
  have hon2 : Only b w (w1.alloc (.cells #[.int .i64 ins, .slice none 0 0, .slice none 0 0] 27)) := hon1.alloc _
  have y1' := y1.alloc (.cells #[.int .i64 ins, .slice none 0 0, .slice none 0 0] 27)
  have y2' := box3_alloc w1 27 (.int .i64 ins) (.slice none 0 0) (.slice none 0 0)
  have g2 := pick_all B b (m + 2) sv 20 (by omega) _ hc2 (by omega)
  go_wp2_with fail
  refine g2.mono ?_
  have hsb : (w1.alloc (.cells #[.int .i64 ins, .slice none 0 0, .slice none 0 0] 27)).heap.size = w1.heap.size + 1 := by simp only [World.size_alloc]
  rintro e w2 ⟨n0', ⟨hn0, hn1⟩, rfl, ho2, hc3⟩
  have hs2 := ho2.size
  rw [hsb] at hs2
  obtain ⟨n0, rfl⟩ := Int.eq_ofNat_of_zero_le hn0
  have hn20 : n0 ≤ 20 := by omega
  have HR : Hid (Box3 w2 w.heap.size 27 (.int .i64 0) (.slice none 0 0) (.slice none 0 0)) := ho2.box y1' (by omega)
  obtain ⟨P, hP⟩ : ∃ P, w1.heap.size = P := ⟨_, rfl⟩
  rw [hP] at y2' hs2 hs1
  have HC0 : Hid (CS w2 P b w2.heap.size B (m + 2 + 2) sv ins (.slice none 0 0) (.slice none 0 0) [] [] w2) := ⟨ho2.box y2' (by omega), World.ownsRow_nil _ _ _ _, World.ownsRow_nil _ _ _ _, But2.refl _ _ _, hc3⟩
  have HON : Hid (Only b w w2) := hon2.trans ho2
  have hbP : b < P := by omega
  have hb2 : b < w2.heap.size := by omega
  rw [hP]
  clear g2 hc2 hon2 y1 y1' y2' ho2 hc3 hc1 hon1 hsb hins hx0 hx1 hn0 hn1 hbb hP
  go_wp2_with fail
  go_loopw [4] (fun vn wr => ∃ (j : Nat) (gsl : Value) (G : List Gt), j ≤ n0 ∧ vn = .int .i64 ((n0 : Int) - j) ∧ G.length = j ∧ Hid (∀ g ∈ G, smG 1000 g) ∧ Hid (CS w2 P b w2.heap.size B (m + 4 + 6 * j) sv ins gsl (.slice none 0 0) G [] wr)) (fun vn _ => (intOf vn).toNat)
  case atStart => exact ⟨0, _, [], by omega, by simp, rfl, (fun g hg => by cases hg), HC0⟩
  case round =>
    clear HC0
    obtain ⟨j, gsl, G, hj, rfl, hGl, HS, HC⟩ := hrel
    have hszr := HC.out.frame.size
    by_cases hlt : j < n0
    · have g1 := pick_any B b (m + 4 + 6 * j) sv 5 (by omega) (by omega) wr HC.out.cur (by omega)
      have hpos : (0 : Int) < (n0 : Int) - j := by omega
      obtain ⟨ga, gcap, hgs⟩ := own_shape HC.out.rows
      subst hgs
      go_wp2_with fail
      refine g1.mono ?_
      rintro e w3 ⟨y, ⟨hy0', hy1'⟩, rfl, ho3, hc3⟩
      have C3 := HC.out.only ho3 hc3 (by omega) hb2
      have hs3 := ho3.size
      have hrb : ∀ k, (Value.slice ga G.length gcap).ownBlock = some k → k < w3.heap.size := fun k hk => (own_block C3.rows hk).2
      clear g1 ho3 hc3 HC
      have C3a := C3.alloc (.cells #[.int .i64 (1 + y), .int .i64 0, .int .i64 0] 108)
      have xg := box3_alloc w3 108 (.int .i64 (1 + y)) (.int .i64 0) (.int .i64 0)
      have hsg : (w3.alloc (.cells #[.int .i64 (1 + y), .int .i64 0, .int .i64 0] 108)).heap.size = w3.heap.size + 1 := by simp only [World.size_alloc]
      have hgP : w3.heap.size ≠ P := by omega
      by_cases hy : y = 0
      · subst hy
        have g2 := pick_any B b (m + 4 + 6 * j + 2) sv 2 (by omega) (by omega) _ C3a.cur (by omega)
        go_wp2_with fail
        refine g2.mono ?_
        rintro e w4 ⟨z, ⟨hz0', hz1'⟩, rfl, ho4, hc4⟩
        have C4 := C3a.only ho4 hc4 (by omega) hb2
        have xg4 := ho4.box xg (by omega)
        have hs4 := ho4.size
        rw [hsg] at hs4
        have CF := C4.set (g := w3.heap.size) (o := 1) (v := .int .i64 z) hgP (by omega) (by omega) hrb (fun k hk => by cases hk)
        have xgF := xg4.set1 (.int .i64 z)
        obtain ⟨q0, q1, q2⟩ := xg4.cells
        have qh := xg4.heap
        have ql := xg4.lt
        have qf := xg4.frozen 1
        obtain ⟨t0, t1, t2⟩ := xgF.cells
        have th := xgF.heap
        have tl := xgF.lt
        obtain ⟨p0, p1, p2⟩ := CF.box.cells
        have ph := CF.box.heap
        have pl := CF.box.lt
        have HROW := CF.rows.alloc (.cells #[.int .i64 1, .int .i64 z, .int .i64 0] 108)
        have HSZB : w2.heap.size ≤ ((w4.setCell ⟨w3.heap.size, 1, none⟩ (.int .i64 z)).alloc (.cells #[.int .i64 1, .int .i64 z, .int .i64 0] 108)).heap.size := by
          rw [World.size_alloc]
          simp [World.setCell]
          omega
        rw [hGl] at HROW p1
        clear g2 C3 C3a xg C4 xg4 xgF ho4 hc4 hrb
        go_wp2_with (at_builtin; refine wpList_append_own _ rfl _ _ 24 rfl w2.heap.size 108 j0 (.agg #[.int .i64 0, .int .i64 0, .int .i64 0]) 3 24 Try.underlying24 hjf hy0 hy1 hy2 rfl (by decide) _ _ _ rfl HROW ⟨(w4.setCell ⟨w3.heap.size, 1, none⟩ (.int .i64 z)).heap.size, 0, none⟩ 1 1 [.int .i64 1, .int .i64 z, .int .i64 0] (by simp [Act.eval, Act.put, World.setCell]) rfl (oneG_cells (w4.setCell ⟨w3.heap.size, 1, none⟩ (.int .i64 z)) 1 z 0) (flat3_one [(1, z, 0)]) (by unfold maxLen; omega) (by omega) HSZB ?_)
        intro v8 w8 own8 grow8 _
        rw [← hGl] at own8 grow8
        obtain ⟨hx8, C8⟩ := CF.laid hbP (by omega) (Nat.le_refl _) own8 grow8
        obtain ⟨va, vcap, hv8⟩ := own_shape own8
        subst hv8
        obtain ⟨r0, r1, r2⟩ := hx8.cells
        have rh := hx8.heap
        have rl := hx8.lt
        have rf1 := hx8.frozen 1
        have HC8 : Hid (CS w2 P b w2.heap.size B (m + 4 + 6 * (j + 1)) sv ins _ (.slice none 0 0) (G ++ [(1, z, 0)]) [] _) := ⟨C8.box, C8.rows, C8.outs, C8.frame, C8.cur.more (by omega)⟩
        have HS8 : Hid (∀ g ∈ G ++ [((1 : Int), (z : Int), (0 : Int))], smG 1000 g) := by
          intro g hg
          simp only [List.mem_append, List.mem_singleton] at hg
          rcases hg with hg | rfl
          · exact HS.out g hg
          · unfold smG; simp only; omega
        have hG8 : (G ++ [((1 : Int), (z : Int), (0 : Int))]).length = j + 1 := by rw [List.length_append, hGl]; rfl
        rw [hGl] at HC8
        clear own8 grow8 hx8 C8 CF HROW HSZB HS
        go_wp2_with fail
        go_roundw
        case rel => exact ⟨j + 1, _, _, by omega, by go_num, hG8, HS8, HC8⟩
        case measure => simp [intOf]; omega
      · obtain ⟨K, hK⟩ : ∃ K : Int, 1 + y = K := ⟨_, rfl⟩
        rw [hK] at C3a xg hsg
        have hK1 : (K == 1) = false := beq_eq_false_iff_ne.2 (by omega)
        obtain ⟨N, hN⟩ : ∃ N : Int, ins + (G.length : Int) = N := ⟨_, rfl⟩
        have hN1 : 1 ≤ N := by omega
        have hN2 : N ≤ 100 := by omega
        have GW : Hid (∀ w5 : World, Calls Try.prog 91 #[.agg #[.int .i64 ins, .slice ga G.length gcap, .slice none 0 0]] w5 fun e w' => e = .returned (.int .i64 N) ∧ w' = w5.alloc (.cells #[.int .i64 ins, .slice ga G.length gcap, .slice none 0 0] 27)) := fun w5 => by
          have g := l4Wires_raw ins ga G.length gcap (.slice none 0 0) (by omega) (by omega) (by omega) w5
          rw [hN] at g
          exact g
        rw [hGl] at GW
        obtain ⟨p0, p1, p2⟩ := C3a.box.cells
        have ph := C3a.box.heap
        have pl := C3a.box.lt
        rw [hGl] at p1 ph
        obtain ⟨q0, q1, q2⟩ := xg.cells
        have qh := xg.heap
        have ql := xg.lt
        clear hN
        go_wp2_with fail
        refine (GW.out _).mono ?_
        rintro e w3b ⟨rfl, hw3b⟩
        have C3b : CS w2 P b w2.heap.size B (m + 4 + 6 * j + 2) sv ins (.slice ga G.length gcap) (.slice none 0 0) G [] w3b := by
          rw [hw3b]
          exact C3a.alloc _
        have xgb : Box3 w3b w3.heap.size 108 (.int .i64 K) (.int .i64 0) (.int .i64 0) := by
          rw [hw3b]
          exact xg.alloc _
        have hsb' : w3.heap.size + 1 ≤ w3b.heap.size := by
          rw [hw3b, World.size_alloc]
          omega
        clear hw3b C3 C3a xg p0 p1 p2 ph pl q0 q1 q2 qh ql
        have g2 := pick_any B b (m + 4 + 6 * j + 2) sv N (by omega) (by omega) _ C3b.cur (by omega)
        go_wp2_with fail
        refine g2.mono ?_
        rintro e w4 ⟨z, ⟨hz0', hz1'⟩, rfl, ho4, hc4⟩
        have C4 := C3b.only ho4 hc4 (by omega) hb2
        have xg4 := ho4.box xgb (by omega)
        have hs4 := ho4.size
        have CZ := C4.set (g := w3.heap.size) (o := 1) (v := .int .i64 z) hgP (by omega) (by omega) hrb (fun k hk => by cases hk)
        have xgZ := xg4.set1 (.int .i64 z)
        obtain ⟨q0, q1, q2⟩ := xg4.cells
        have qh := xg4.heap
        have ql := xg4.lt
        have qf := xg4.frozen 1
        obtain ⟨t0, t1, t2⟩ := xgZ.cells
        have th := xgZ.heap
        have tl := xgZ.lt
        obtain ⟨p0, p1, p2⟩ := CZ.box.cells
        have ph := CZ.box.heap
        have pl := CZ.box.lt
        rw [hGl] at p1 ph
        by_cases hK2 : K = 2
        · subst hK2
          have CF := CZ
          have HROW := CF.rows.alloc (.cells #[.int .i64 2, .int .i64 z, .int .i64 0] 108)
          have HSZB : w2.heap.size ≤ ((w4.setCell ⟨w3.heap.size, 1, none⟩ (.int .i64 z)).alloc (.cells #[.int .i64 2, .int .i64 z, .int .i64 0] 108)).heap.size := by
            rw [World.size_alloc]
            simp [World.setCell]
            omega
          rw [hGl] at HROW
          clear g2 C3b xgb C4 xg4 xgZ ho4 hc4 hrb CZ GW
          go_wp2_with (at_builtin; refine wpList_append_own _ rfl _ _ 24 rfl w2.heap.size 108 j0 (.agg #[.int .i64 0, .int .i64 0, .int .i64 0]) 3 24 Try.underlying24 hjf hy0 hy1 hy2 rfl (by decide) _ _ _ rfl HROW ⟨(w4.setCell ⟨w3.heap.size, 1, none⟩ (.int .i64 z)).heap.size, 0, none⟩ 1 1 [.int .i64 2, .int .i64 z, .int .i64 0] (by simp [Act.eval, Act.put, World.setCell]) rfl (oneG_cells (w4.setCell ⟨w3.heap.size, 1, none⟩ (.int .i64 z)) 2 z 0) (flat3_one [(2, z, 0)]) (by unfold maxLen; omega) (by omega) HSZB ?_)
          intro v8 w8 own8 grow8 _
          rw [← hGl] at own8 grow8
          obtain ⟨hx8, C8⟩ := CF.laid hbP (by omega) (Nat.le_refl _) own8 grow8
          obtain ⟨va, vcap, hv8⟩ := own_shape own8
          subst hv8
          obtain ⟨r0, r1, r2⟩ := hx8.cells
          have rh := hx8.heap
          have rl := hx8.lt
          have rf1 := hx8.frozen 1
          have HC8 : Hid (CS w2 P b w2.heap.size B (m + 4 + 6 * (j + 1)) sv ins _ (.slice none 0 0) (G ++ [(2, z, 0)]) [] _) := ⟨C8.box, C8.rows, C8.outs, C8.frame, C8.cur.more (by omega)⟩
          have HS8 : Hid (∀ g ∈ G ++ [((2 : Int), (z : Int), (0 : Int))], smG 1000 g) := by
            intro g hg
            simp only [List.mem_append, List.mem_singleton] at hg
            rcases hg with hg | rfl
            · exact HS.out g hg
            · unfold smG; simp only; omega
          have hG8 : (G ++ [((2 : Int), (z : Int), (0 : Int))]).length = j + 1 := by rw [List.length_append, hGl]; rfl
          rw [hGl] at HC8
          clear own8 grow8 hx8 C8 CF HROW HSZB HS
          go_wp2_with fail
          go_roundw
          case rel => exact ⟨j + 1, _, _, by omega, by go_num, hG8, HS8, HC8⟩
          case measure => simp [intOf]; omega
        · have hKg : (2 : Int) < K := by omega
          clear g2 C3b xgb C4 xg4 ho4 hc4
          go_wp2_with fail
          refine (GW.out _).mono ?_
          rintro e w5 ⟨rfl, hw5⟩
          have C5 : CS w2 P b w2.heap.size B (m + 4 + 6 * j + 2 + 2) sv ins (.slice ga G.length gcap) (.slice none 0 0) G [] w5 := by
            rw [hw5]
            exact CZ.alloc _
          have xg5 : Box3 w5 w3.heap.size 108 (.int .i64 K) (.int .i64 z) (.int .i64 0) := by
            rw [hw5]
            exact xgZ.alloc _
          have hs5 : w3.heap.size + 1 ≤ w5.heap.size := by
            rw [hw5, World.size_alloc]
            simp [World.setCell]
            omega
          clear hw5 CZ xgZ p0 p1 p2 ph pl q0 q1 q2 qh ql qf t0 t1 t2 th tl
          have g6 := pick_any B b (m + 4 + 6 * j + 2 + 2) sv N (by omega) (by omega) _ C5.cur (by omega)
          go_wp2_with fail
          refine g6.mono ?_
          rintro e w6 ⟨zb, ⟨hb0', hb1'⟩, rfl, ho6, hc6⟩
          have C6 := C5.only ho6 hc6 (by omega) hb2
          have xg6 := ho6.box xg5 (by omega)
          have hs6 := ho6.size
          have CF := C6.set (g := w3.heap.size) (o := 2) (v := .int .i64 zb) hgP (by omega) (by omega) hrb (fun k hk => by cases hk)
          have xgF := xg6.set2 (.int .i64 zb)
          obtain ⟨q0, q1, q2⟩ := xg6.cells
          have qh := xg6.heap
          have ql := xg6.lt
          have qf := xg6.frozen 2
          obtain ⟨t0, t1, t2⟩ := xgF.cells
          have th := xgF.heap
          have tl := xgF.lt
          obtain ⟨p0, p1, p2⟩ := CF.box.cells
          have ph := CF.box.heap
          have pl := CF.box.lt
          have HROW := CF.rows.alloc (.cells #[.int .i64 K, .int .i64 z, .int .i64 zb] 108)
          have HSZB : w2.heap.size ≤ ((w6.setCell ⟨w3.heap.size, 2, none⟩ (.int .i64 zb)).alloc (.cells #[.int .i64 K, .int .i64 z, .int .i64 zb] 108)).heap.size := by
            rw [World.size_alloc]
            simp [World.setCell]
            omega
          rw [hGl] at HROW p1 ph
          clear g6 C5 xg5 C6 xg6 xgF ho6 hc6 hrb GW
          go_wp2_with (at_builtin; refine wpList_append_own _ rfl _ _ 24 rfl w2.heap.size 108 j0 (.agg #[.int .i64 0, .int .i64 0, .int .i64 0]) 3 24 Try.underlying24 hjf hy0 hy1 hy2 rfl (by decide) _ _ _ rfl HROW ⟨(w6.setCell ⟨w3.heap.size, 2, none⟩ (.int .i64 zb)).heap.size, 0, none⟩ 1 1 [.int .i64 K, .int .i64 z, .int .i64 zb] (by simp [Act.eval, Act.put, World.setCell]) rfl (oneG_cells (w6.setCell ⟨w3.heap.size, 2, none⟩ (.int .i64 zb)) (K) z zb) (flat3_one [(K, z, zb)]) (by unfold maxLen; omega) (by omega) HSZB ?_)
          intro v8 w8 own8 grow8 _
          rw [← hGl] at own8 grow8
          obtain ⟨hx8, C8⟩ := CF.laid hbP (by omega) (Nat.le_refl _) own8 grow8
          obtain ⟨va, vcap, hv8⟩ := own_shape own8
          subst hv8
          obtain ⟨r0, r1, r2⟩ := hx8.cells
          have rh := hx8.heap
          have rl := hx8.lt
          have rf1 := hx8.frozen 1
          have HC8 : Hid (CS w2 P b w2.heap.size B (m + 4 + 6 * (j + 1)) sv ins _ (.slice none 0 0) (G ++ [(K, z, zb)]) [] _) := ⟨C8.box, C8.rows, C8.outs, C8.frame, C8.cur.more (by omega)⟩
          have HS8 : Hid (∀ g ∈ G ++ [((K : Int), (z : Int), (zb : Int))], smG 1000 g) := by
            intro g hg
            simp only [List.mem_append, List.mem_singleton] at hg
            rcases hg with hg | rfl
            · exact HS.out g hg
            · unfold smG; simp only; omega
          have hG8 : (G ++ [((K : Int), (z : Int), (zb : Int))]).length = j + 1 := by rw [List.length_append, hGl]; rfl
          rw [hGl] at HC8
          clear own8 grow8 hx8 C8 CF HROW HSZB HS
          go_wp2_with fail
          go_roundw
          case rel => exact ⟨j + 1, _, _, by omega, by go_num, hG8, HS8, HC8⟩
          case measure => simp [intOf]; omega
    · obtain rfl : j = n0 := by omega
      have hz : ((j : Int) - j) = 0 := by omega
      rw [hz]
      obtain ⟨ga, gcap, hgs⟩ := own_shape HC.out.rows
      subst hgs
      obtain ⟨N, hN⟩ : ∃ N : Int, ins + (G.length : Int) = N := ⟨_, rfl⟩
      have hN1 : 1 ≤ N := by omega
      have hN2 : N ≤ 100 := by omega
      have GW : Hid (∀ (o : Value) (w5 : World), Calls Try.prog 91 #[.agg #[.int .i64 ins, .slice ga G.length gcap, o]] w5 fun e w' => e = .returned (.int .i64 N) ∧ w' = w5.alloc (.cells #[.int .i64 ins, .slice ga G.length gcap, o] 27)) := fun o w5 => by
        have g := l4Wires_raw ins ga G.length gcap o (by omega) (by omega) (by omega) w5
        rw [hN] at g
        exact g
      rw [hGl] at GW
      obtain ⟨p0, p1, p2⟩ := HC.out.box.cells
      have ph := HC.out.box.heap
      have pl := HC.out.box.lt
      rw [hGl] at p1 ph
      clear hN
      go_wp2_with fail
      refine (GW.out _ _).mono ?_
      rintro e w5 ⟨rfl, hw5⟩
      have C5 : CS w2 P b w2.heap.size B (m + 4 + 6 * j) sv ins (.slice ga G.length gcap) (.slice none 0 0) G [] w5 := by
        rw [hw5]
        exact HC.out.alloc _
      clear hw5 p0 p1 p2 ph pl
      have g6 := pick_any B b (m + 4 + 6 * j) sv 5 (by omega) (by omega) _ C5.cur (by omega)
      go_wp2_with fail
      refine g6.mono ?_
      rintro e w6 ⟨many', ⟨hm0, hm1⟩, rfl, ho6, hc6⟩
      have C6 := C5.only ho6 hc6 (by omega) hb2
      obtain ⟨many, rfl⟩ := Int.eq_ofNat_of_zero_le hm0
      have g7 := wires_any B b (m + 4 + 6 * j + 2) sv N (by omega) many (by omega) w6 C6.cur (by omega)
      have hs6 := C6.frame.size
      clear g6 C5 ho6 hc6
      go_wp2_with fail
      refine g7.mono ?_
      rintro e w7 ⟨r, os, rfl, hosl, hosb, hor, ho7, hc7⟩
      subst hosl
      have C7 := C6.only ho7 hc7 (by omega) hb2
      obtain ⟨oa, ocap, hoa⟩ := own_shape hor
      subst hoa
      have C8 := C7.setOuts (own_base hor hs6) hbP (by omega)
      obtain ⟨p0, p1, p2⟩ := C7.box.cells
      have ph := C7.box.heap
      have pl := C7.box.lt
      have pf := C7.box.frozen 2
      have g8 := pick_any B b (m + 4 + 6 * j + 2 + 2 * os.length) sv 30 (by omega) (by omega) _ C8.cur (by omega)
      clear g7 C6 ho7 hc7 C7 hor
      go_wp2_with fail
      refine g8.mono ?_
      rintro e w9 ⟨sw, ⟨hsw0, hsw1⟩, rfl, ho9, hc9⟩
      have C9 := C8.only ho9 hc9 (by omega) hb2
      have HOB : Hid (∀ x ∈ os, 0 ≤ x ∧ x ≤ 1000) := hosb
      have hm9 : m + 4 + 6 * j + 2 + 2 * os.length + 2 ≤ m + 200 := by omega
      clear g8 C8 ho9 hc9 p0 p1 p2 ph pl pf hosb HC
      by_cases hsw : 3 ≤ sw
      · have e0 : (sw == 0) = false := beq_eq_false_iff_ne.2 (by omega)
        have e1 : (sw == 1) = false := beq_eq_false_iff_ne.2 (by omega)
        have e2 : (sw == 2) = false := beq_eq_false_iff_ne.2 (by omega)
        obtain ⟨hRr, HF⟩ := C9.done HON.out HR.out hlies (by omega) (by omega)
        obtain ⟨p0, p1, p2⟩ := C9.box.cells
        have ph := C9.box.heap
        have pl := C9.box.lt
        obtain ⟨q0, q1, q2⟩ := hRr.cells
        have qh := hRr.heap
        have ql := hRr.lt
        have qf0 := hRr.frozen 0
        have qf1 := hRr.frozen 1
        have qf2 := hRr.frozen 2
        have hne : P ≠ w.heap.size := by omega
        rw [hGl] at HF p1 ph
        clear C9 hRr
        go_wp2_with fail
        refine bodyPost_ret (results_cell_row rfl _ _ w.heap.size 27 _ (0, 0) _ rfl HF.out.1 Try.underlying27 rfl (by kernel_rfl)) rfl ?_
        obtain ⟨_, f2, f3, f4, f5⟩ := HF.out
        unfold CircOut
        exact ⟨_, _, (ins, G, os), rfl, ⟨by omega, by simp only; omega, by simp only; omega, HS.out⟩, (by show World.ownsRow _ _ _ _ _ G.length _; rw [hGl]; exact f2), f3, f4, f5.more (by omega)⟩
      · by_cases hs1 : sw = 1
        · subst hs1
          have C10 := C9.alloc (.cells #[.int .i64 (-1), .int .i64 0, .int .i64 16, .int .i64 17] 3)
          have hlb : ∀ i : Nat, i < 4 → ∃ x : Int, (w9.alloc (.cells #[.int .i64 (-1), .int .i64 0, .int .i64 16, .int .i64 17] 3)).cell? ⟨w9.heap.size, i, none⟩ = some (.int .i64 x) ∧ -1 ≤ x ∧ x ≤ 17 := by
            intro i hi
            match i, hi with
            | 0, _ => exact ⟨-1, by simp, by omega, by omega⟩
            | 1, _ => exact ⟨0, by simp, by omega, by omega⟩
            | 2, _ => exact ⟨16, by simp, by omega, by omega⟩
            | 3, _ => exact ⟨17, by simp, by omega, by omega⟩
          have hb9 := C9.cur.lies
          have ga1 := among_any B b _ sv w9.heap.size 4 4 (-1) 17 (by omega) (by omega) _ C10.cur (by omega) (by omega) (by rw [World.size_alloc]; omega) hlb
          clear hlb
          go_wp2_with fail
          refine ga1.mono ?_
          rintro e w10 ⟨nv, ⟨hnv0, hnv1⟩, rfl, ho10, hc10⟩
          have C11 := C10.only ho10 hc10 (by omega) hb2
          obtain ⟨p0, p1, p2⟩ := C11.box.cells
          have ph := C11.box.heap
          have pl := C11.box.lt
          have pf := C11.box.frozen 0
          have C12 := C11.setIns (n := nv) hbP (by omega)
          rw [hGl] at p1 ph
          clear ga1 C9 C10 C11 ho10 hc10
          obtain ⟨hRr, HF⟩ := C12.done HON.out HR.out hlies (by omega) (by omega)
          obtain ⟨zp0, zp1, zp2⟩ := C12.box.cells
          have zph := C12.box.heap
          have zpl := C12.box.lt
          obtain ⟨zq0, zq1, zq2⟩ := hRr.cells
          have zqh := hRr.heap
          have zql := hRr.lt
          have zqf0 := hRr.frozen 0
          have zqf1 := hRr.frozen 1
          have zqf2 := hRr.frozen 2
          have hne : P ≠ w.heap.size := by omega
          rw [hGl] at HF zp1 zph
          clear C12 hRr
          go_wp2_with fail
          refine bodyPost_ret (results_cell_row rfl _ _ w.heap.size 27 _ (0, 0) _ rfl HF.out.1 Try.underlying27 rfl (by kernel_rfl)) rfl ?_
          obtain ⟨_, f2, f3, f4, f5⟩ := HF.out
          unfold CircOut
          exact ⟨_, _, (nv, G, os), rfl, ⟨by simp only; omega, by simp only; omega, by simp only; omega, HS.out⟩, (by show World.ownsRow _ _ _ _ _ G.length _; rw [hGl]; exact f2), f3, f4, f5.more (by omega)⟩
        · by_cases hs0 : sw = 0
          · subst hs0
            obtain ⟨p0, p1, p2⟩ := C9.box.cells
            have ph := C9.box.heap
            have pl := C9.box.lt
            rw [hGl] at p1 ph
            have HK : Hid (∀ w10 : World, w10 = w9.drew.alloc (.cells #[.int .i64 ins, .slice ga j gcap, .slice oa os.length ocap] 27) → CS w2 P b w2.heap.size B (m + 4 + 6 * j + 2 + 2 * os.length + 2) sv ins (.slice ga G.length gcap) (.slice oa os.length ocap) G os w10) := by
              intro w10 hw
              rw [hw]
              exact C9.drew.alloc _
            have hs9 := C9.frame.size
            clear C9
            go_wp2_with fail
            go_region_law (first | (refine step_append_own rfl _ _ 25 rfl w2.heap.size 3 i0 (.int .i64 0) 1 8 Try.underlying25 hif hz0 hz1 hz2 rfl (by decide) (.slice oa os.length ocap) _ _ (by simp [Act.eval, Act.put]) OW ⟨w10.heap.size, 0, none⟩ 1 1 [.int .i64 N] (by simp [Act.eval, Act.put]) rfl (oneI_cells w10 N) (ints_one [N]) (by unfold maxLen; omega) (by omega) HSB ?_; intro v8 w8 own8 grow8; obtain ⟨hx8, C11⟩ := C10.appOuts hbP (by omega) (Nat.le_refl _) own8 grow8; obtain ⟨va, vcap, hv8⟩ := own_shape own8; subst hv8; obtain ⟨r0, r1, r2⟩ := hx8.cells; have rh := hx8.heap; have rl := hx8.lt; have rf2 := hx8.frozen 2; have HC11 : Hid _ := C11; clear own8 grow8 hx8 C11) | (go_simp; go_at_call 91; refine (GW.out _ _).mono ?_; rintro e w10 ⟨rfl, hw10⟩; have C10 := HK.out w10 hw10; have OW := C10.outs.alloc (.cells #[.int .i64 N] 3); have HSB : w2.heap.size ≤ (w10.alloc (.cells #[.int .i64 N] 3)).heap.size := (by have := C10.frame.size; rw [World.size_alloc]; omega); obtain ⟨k0, k1, k2⟩ := C10.box.cells; have kh := C10.box.heap; have kl := C10.box.lt; rw [hGl] at k1 kh; clear hw10))
            all_goals
              have C12 := HC11.out
              clear HC11 C10 OW HSB r0 r1 r2 rh rl rf2 k0 k1 k2 kh kl p0 p1 p2 ph pl
              have h17 : os.length + 1 ≤ 16 := by omega
              obtain ⟨hRr, HF⟩ := C12.done HON.out HR.out hlies (by omega) (by omega)
              obtain ⟨zp0, zp1, zp2⟩ := C12.box.cells
              have zph := C12.box.heap
              have zpl := C12.box.lt
              obtain ⟨zq0, zq1, zq2⟩ := hRr.cells
              have zqh := hRr.heap
              have zql := hRr.lt
              have zqf0 := hRr.frozen 0
              have zqf1 := hRr.frozen 1
              have zqf2 := hRr.frozen 2
              have hne : P ≠ w.heap.size := by omega
              rw [hGl] at HF zp1 zph
              clear C12 hRr
              go_wp2_with fail
              refine bodyPost_ret (results_cell_row rfl _ _ w.heap.size 27 _ (0, 0) _ rfl HF.out.1 Try.underlying27 rfl (by kernel_rfl)) rfl ?_
              obtain ⟨_, f2, f3, f4, f5⟩ := HF.out
              unfold CircOut
              exact ⟨_, _, (ins, G, os ++ [N]), rfl, ⟨by simp only; omega, by simp only; omega, by simp only [List.length_append, List.length_singleton]; omega, HS.out⟩, (by show World.ownsRow _ _ _ _ _ G.length _; rw [hGl]; exact f2), f3, f4, f5.more (by omega)⟩
          · obtain rfl : sw = 2 := by omega
            clear hsw hs1 hs0 hsw0 hsw1
            have HC9 : Hid _ := C9
            clear C9 GW
            go_wp2_with fail
            go_loopw [] (fun wr => ∃ (q : Nat) (gsl : Value) (G' : List Gt), q ≤ 301 ∧ G'.length = q ∧ Hid (∀ g ∈ G', smG 1000 g) ∧ Hid (CS w2 P b w2.heap.size B (m + 300 + 2 * q) sv ins gsl (.slice oa os.length ocap) G' os wr)) (fun wr => 400 - lenAt (wr.cell? ⟨P, 1, none⟩))
            case atStart => exact ⟨G.length, _, G, by omega, rfl, HS, ⟨HC9.out.box, HC9.out.rows, HC9.out.outs, HC9.out.frame, HC9.out.cur.more (by omega)⟩⟩
            case round =>
              clear HC9 HS hGl
              obtain ⟨q, gsl, G', hq, hql, HS, HC⟩ := hrel
              obtain ⟨ga', gcap', hgs⟩ := own_shape HC.out.rows
              subst hgs
              have gp := fun w1 (h1 : Cur B b (m + 300 + 2 * q) sv w1) => pick_any B b (m + 300 + 2 * q) sv 2 (by omega) (by omega) w1 h1 (by omega)
              have GP : Hid _ := gp
              clear gp
              obtain ⟨p0, p1, p2⟩ := HC.out.box.cells
              have ph := HC.out.box.heap
              have pl := HC.out.box.lt
              rw [hql] at p1 ph
              have HM : Hid (lenAt (wr.cell? ⟨P, 1, none⟩) = q) := by
                show lenAt (wr.cell? ⟨P, 1, none⟩) = q
                rw [p1]
                rfl
              go_wp2_with fail
              go_region_with (go_at_call 95; refine (GP.out _ ?_).mono ?_; (first | exact HC.out.cur | exact HC.out.cur.drew | exact HC.out.cur.drew.drew); rintro e w3 ⟨y, ⟨hyy0, hyy1⟩, rfl, ho3, hc3⟩; have hyw : IntKind.i64.wrap (300 + y) = 300 + y := IntWalk.i64_in _ (by omega); have C3 : CS w2 P b w2.heap.size B (m + 300 + 2 * q + 2) sv ins (.slice ga' G'.length gcap') (.slice oa os.length ocap) G' os w3 := (by first | exact HC.out.only ho3 hc3 (by omega) hb2 | exact HC.out.drew.only ho3 hc3 (by omega) hb2 | exact HC.out.drew.drew.only ho3 hc3 (by omega) hb2); obtain ⟨k0, k1, k2⟩ := C3.box.cells; have kh := C3.box.heap; have kl := C3.box.lt; rw [hql] at k1 kh; clear ho3 hc3)
              all_goals
                clear p0 p1 p2 ph pl HC GP
                by_cases hlt : (q : Int) < 300 + y
                · rw [decide_eq_true hlt]
                  have HROW := C3.rows.alloc (.cells #[.int .i64 2, .int .i64 0, .int .i64 0] 108)
                  have HSZB : w2.heap.size ≤ (w3.alloc (.cells #[.int .i64 2, .int .i64 0, .int .i64 0] 108)).heap.size := by
                    have := C3.frame.size
                    rw [World.size_alloc]
                    omega
                  rw [hql] at HROW
                  go_wp2_with (at_builtin; refine wpList_append_own _ rfl _ _ 24 rfl w2.heap.size 108 j0 (.agg #[.int .i64 0, .int .i64 0, .int .i64 0]) 3 24 Try.underlying24 hjf hy0 hy1 hy2 rfl (by decide) _ _ _ rfl HROW ⟨w3.heap.size, 0, none⟩ 1 1 [.int .i64 2, .int .i64 0, .int .i64 0] rfl rfl (oneG_cells w3 2 0 0) (flat3_one [(2, 0, 0)]) (by unfold maxLen; omega) (by omega) HSZB ?_)
                  intro v8 w8 own8 grow8 _
                  rw [← hql] at own8 grow8
                  obtain ⟨hx8, C8⟩ := C3.laid hbP (by omega) (Nat.le_refl _) own8 grow8
                  obtain ⟨va, vcap, hv8⟩ := own_shape own8
                  subst hv8
                  obtain ⟨r0, r1, r2⟩ := hx8.cells
                  have rh := hx8.heap
                  have rl := hx8.lt
                  have rf1 := hx8.frozen 1
                  have HC8 : Hid (CS w2 P b w2.heap.size B (m + 300 + 2 * (q + 1)) sv ins _ (.slice oa os.length ocap) (G' ++ [(2, 0, 0)]) os _) := ⟨C8.box, C8.rows, C8.outs, C8.frame, C8.cur.more (by omega)⟩
                  have HS8 : Hid (∀ g ∈ G' ++ [((2 : Int), (0 : Int), (0 : Int))], smG 1000 g) := by
                    intro g hg
                    simp only [List.mem_append, List.mem_singleton] at hg
                    rcases hg with hg | rfl
                    · exact HS.out g hg
                    · unfold smG; simp only; omega
                  have hG8 : (G' ++ [((2 : Int), (0 : Int), (0 : Int))]).length = q + 1 := by rw [List.length_append, hql]; rfl
                  have HL8 := C8.box.cells.2.1
                  have HM8 : Hid (lenAt ((w8.setCell ⟨P, 1, none⟩ (.slice va (G'.length + 1) vcap)).cell? ⟨P, 1, none⟩) = q + 1) := by
                    show lenAt ((w8.setCell ⟨P, 1, none⟩ (.slice va (G'.length + 1) vcap)).cell? ⟨P, 1, none⟩) = q + 1
                    rw [HL8, hql]
                    rfl
                  rw [hql] at HC8 HM8
                  clear own8 grow8 hx8 C8 C3 HROW HSZB HS HL8
                  go_wp2_with fail
                  go_roundw
                  case rel => exact ⟨q + 1, _, _, by omega, hG8, HS8, HC8⟩
                  case measure => rw [HM8.out, HM.out]; omega
                · rw [decide_eq_false hlt]
                  have h301 : G'.length ≤ 301 := by omega
                  obtain ⟨hRr, HF⟩ := C3.done HON.out HR.out hlies (by omega) (by omega)
                  obtain ⟨zp0, zp1, zp2⟩ := C3.box.cells
                  have zph := C3.box.heap
                  have zpl := C3.box.lt
                  obtain ⟨zq0, zq1, zq2⟩ := hRr.cells
                  have zqh := hRr.heap
                  have zql := hRr.lt
                  have zqf0 := hRr.frozen 0
                  have zqf1 := hRr.frozen 1
                  have zqf2 := hRr.frozen 2
                  have hne : P ≠ w.heap.size := by omega
                  rw [hql] at HF zp1 zph
                  clear C3 hRr
                  go_wp2_with fail
                  refine bodyPost_ret (results_cell_row rfl _ _ w.heap.size 27 _ (0, 0) _ rfl HF.out.1 Try.underlying27 rfl (by kernel_rfl)) rfl ?_
                  obtain ⟨_, f2, f3, f4, f5⟩ := HF.out
                  unfold CircOut
                  exact ⟨_, _, (ins, G', os), rfl, ⟨by simp only; omega, by simp only; omega, by simp only; omega, HS.out⟩, (by show World.ownsRow _ _ _ _ _ G'.length _; rw [hql]; exact f2), f3, f4, f5.more (by omega)⟩
end Go.Proofs.Ytmjeaceabjinfaa

namespace Go.Proofs.Ytmjeaceabjinfaa
open Go Go.RowKit
open M
set_option linter.unusedVariables false
set_option linter.unusedSimpArgs false

theorem results_c3 {P : Program} {fn : Func} {p u v x : Tmp} {ty : TypeId} (h : fn.results = #[.cell p ty, .tmp u, .tmp v, .tmp x]) (tmps : Array Value) (w : World) (g : Nat) (t : TypeId) (cs : Array Value) (fr : Nat × Nat) (d : TypeDesc)
    (hp : tmps.getD p undef = .pointer (some ⟨g, 0, none⟩)) (hg : w.heap[g]? = some (.cells cs t fr))
    (hu : P.underlying ty = some d) (hd : (match d with | .struct _ | .array _ _ => true | _ => false) = true) (hi : (P.info? ty).map (·.size) = some cs.size) :
    (results fn tmps).run P w = .ok (.tuple #[.agg cs, tmps.getD u undef, tmps.getD v undef, tmps.getD x undef]) w := by
  have hp' : tmps[p]?.getD undef = .pointer (some ⟨g, 0, none⟩) := by simpa using hp
  simp [results, h, hp', asAddr, run_loadVar_row w g t ty cs fr d hg hu hd hi]
theorem CodeOk.up {B B' : Nat} {w : World} {sv : Value} (h : CodeOk B w sv) (hB : B ≤ B') : CodeOk B' w sv := by
  rcases h with h | ⟨cb, off, len, cap, h1, h2, h3, h4⟩
  · exact Or.inl h
  · exact Or.inr ⟨cb, off, len, cap, h1, by omega, h3, h4⟩
/-- what is drawn with a circuit, while more is drawn -/
structure DS (u : World) (R b X base B m : Nat) (sv : Value) (c : Ci) (gsl osl : Value) (v : World) : Prop where
  cur : Cur B b m sv v
  res : Box3 v R 27 (.int .i64 0) (.slice none 0 0) (.slice none 0 0)
  x : Box3 v X 27 (.int .i64 c.1) gsl osl
  rows : v.ownsRow base 108 3 gsl c.2.1.length (flat3 c.2.1)
  outs : v.ownsRow base 3 1 osl c.2.2.length (cellsI c.2.2)
  on : Only b u v
theorem DS.only {u v v' : World} {R b X base B m m' : Nat} {sv : Value} {c : Ci} {gsl osl : Value} (h : DS u R b X base B m sv c gsl osl v) (ho : Only b v v') (hc : Cur B b m' sv v') (hR : R ≠ b) (hX : X ≠ b) (hb : b < base) : DS u R b X base B m' sv c gsl osl v' :=
  ⟨hc, ho.box h.res hR, ho.box h.x hX, ho.keeps h.rows hb, ho.keeps h.outs hb, h.on.trans ho⟩
theorem DS.alloc {u v : World} {R b X base B m : Nat} {sv : Value} {c : Ci} {gsl osl : Value} (h : DS u R b X base B m sv c gsl osl v) (o : Obj) : DS u R b X base B m sv c gsl osl (v.alloc o) :=
  ⟨h.cur.alloc o, h.res.alloc o, h.x.alloc o, h.rows.alloc o, h.outs.alloc o, h.on.alloc o⟩
theorem DS.drew {u v : World} {R b X base B m : Nat} {sv : Value} {c : Ci} {gsl osl : Value} (h : DS u R b X base B m sv c gsl osl v) : DS u R b X base B m sv c gsl osl v.drew :=
  ⟨h.cur.drew, ⟨h.res.heap⟩, ⟨h.x.heap⟩, h.rows, h.outs, h.on.drew⟩
/-- what DrawAddGates answers -/
def AddOut (w : World) (e : Ending) (w' : World) : Prop := ∃ (cv av bv : Value) (c : Ci) (a b : List Int) (k : Int), e = .returned (.tuple #[cv, av, bv, .int .i64 k]) ∧ AtC w' cv c ∧ AtIS w' av a ∧ AtIS w' bv b ∧ Fit k ∧ CiOk c ∧ a.length ≤ 20 ∧ b.length ≤ 20 ∧ Below w.heap.size w w'
theorem own_down {w : World} {B B' : Nat} {e : TypeId} {s : Nat} {v : Value} {n : Nat} {xs : List Value} (h : w.ownsRow B e s v n xs) (hB : B' ≤ B) : w.ownsRow B' e s v n xs := by
  obtain ⟨h1, h2⟩ := h
  exact ⟨h1, h2.imp id fun ⟨g, cap, cur, a1, a2, r⟩ => ⟨g, cap, cur, a1, Nat.le_trans hB a2, r⟩⟩
/-- the same, and that all of it is memory made anew -/
def AddOwn (w : World) (e : Ending) (w' : World) : Prop := ∃ (g o av bv : Value) (c : Ci) (a b : List Int) (k : Int), e = .returned (.tuple #[.agg #[.int .i64 c.1, g, o], av, bv, .int .i64 k]) ∧ w'.ownsRow w.heap.size 108 3 g c.2.1.length (flat3 c.2.1) ∧ w'.ownsRow w.heap.size 3 1 o c.2.2.length (cellsI c.2.2) ∧
  w'.ownsRow w.heap.size 3 1 av a.length (cellsI a) ∧ w'.ownsRow w.heap.size 3 1 bv b.length (cellsI b) ∧ Fit k ∧ CiOk c ∧ a.length ≤ 20 ∧ b.length ≤ 20 ∧ Below w.heap.size w w'
set_option maxRecDepth 100000 in
set_option maxHeartbeats 8000000 in
theorem drawAddGates_own (ad : Option Addr) (l cc : Nat) (w : World) (h : CodeOk w.heap.size w (.slice ad l cc)) :
    Calls Try.prog 75 #[.slice ad l cc] w fun e w' => AddOwn w e w' := by
  have hb0 : Below w.heap.size w (w.alloc (.cells #[.int .i64 0, .slice none 0 0, .slice none 0 0] 27)) := (Below.refl _ _).alloc (Nat.le_refl _) _
  have hk : CodeOk (w.alloc (.cells #[.int .i64 0, .slice none 0 0, .slice none 0 0] 27)).heap.size (w.alloc (.cells #[.int .i64 0, .slice none 0 0, .slice none 0 0] 27)) (.slice ad l cc) := (h.below hb0).up (by rw [World.size_alloc]; omega)
  have x0 := box3_alloc w 27 (.int .i64 0) (.slice none 0 0) (.slice none 0 0)
  have hc0 := cur_new _ _ hk
  have hsz : (w.alloc (.cells #[.int .i64 0, .slice none 0 0, .slice none 0 0] 27)).heap.size = w.heap.size + 1 := by simp only [World.size_alloc]
  rw [hsz] at hc0
  have x1 := x0.alloc (.cells #[.slice ad l cc, .int .i64 0, .int .u64 0] 119)
  have hb1 : Below w.heap.size w ((w.alloc (.cells #[.int .i64 0, .slice none 0 0, .slice none 0 0] 27)).alloc (.cells #[.slice ad l cc, .int .i64 0, .int .u64 0] 119)) := hb0.alloc hb0.size _
  have hsz1 : ((w.alloc (.cells #[.int .i64 0, .slice none 0 0, .slice none 0 0] 27)).alloc (.cells #[.slice ad l cc, .int .i64 0, .int .u64 0] 119)).heap.size = w.heap.size + 1 + 1 := by simp only [World.size_alloc]
  have g1 := circuit_any _ _ _ _ _ hc0 (by omega)
  clear h hk hb0 x0 hsz
  go_enter Try.func75, Try.ntmps75
  go_wp2_with fail
  refine g1.mono ?_
  clear g1 hc0
  generalize ((w.alloc (.cells #[.int .i64 0, .slice none 0 0, .slice none 0 0] 27)).alloc (.cells #[.slice ad l cc, .int .i64 0, .int .u64 0] 119)) = wa at *
  rintro e w1 hco
  unfold CircOut at hco
  obtain ⟨gv, ov, c, rfl, ⟨hi, hgl, hol, hsm⟩, hgr, hor, ho1, hc1⟩ := hco
  have hs1 := ho1.size
  rw [hsz1] at hs1
  have hgr1 : w1.ownsRow (w.heap.size + 1 + 1) 108 3 gv c.2.1.length (flat3 c.2.1) := by rw [hsz1] at hgr; exact hgr
  have hor1 : w1.ownsRow (w.heap.size + 1 + 1) 3 1 ov c.2.2.length (cellsI c.2.2) := by rw [hsz1] at hor; exact hor
  have x2 := ho1.box x1 (by omega)
  clear hgr hor x1
  obtain ⟨ga, gcap, hgv⟩ := own_shape hgr1
  obtain ⟨oa, ocap, hov⟩ := own_shape hor1
  subst hgv hov
  have D1 : DS wa w.heap.size (w.heap.size + 1) w1.heap.size (w.heap.size + 1 + 1) (w.heap.size + 1) (0 + 10000) (.slice ad l cc) c (.slice ga c.2.1.length gcap) (.slice oa c.2.2.length ocap) (w1.alloc (.cells #[.int .i64 c.1, .slice ga c.2.1.length gcap, .slice oa c.2.2.length ocap] 27)) := ⟨hc1.alloc _, x2.alloc _, box3_alloc _ _ _ _ _, hgr1.alloc _, hor1.alloc _, ho1.alloc _⟩
  obtain ⟨X, hX⟩ : ∃ X, w1.heap.size = X := ⟨_, rfl⟩
  rw [hX] at D1 hs1
  have g2 := pick_any _ _ _ _ 6 (by omega) (by omega) _ D1.cur (by omega)
  clear ho1 hc1 x2 hgr1 hor1
  go_wp2_with fail
  refine g2.mono ?_
  rintro e w2 ⟨n', ⟨hn0, hn1⟩, rfl, ho2, hc2⟩
  have D2 := D1.only ho2 hc2 (by omega) (by omega) (by omega)
  obtain ⟨n, rfl⟩ := Int.eq_ofNat_of_zero_le hn0
  have g3 := one_any _ _ _ _ 12 (by omega) (by omega) _ D2.cur (by omega)
  clear g2 D1 ho2 hc2
  go_wp2_with fail
  refine g3.mono ?_
  rintro e w3 ⟨z, rfl, ho3, hc3⟩
  have D3 := D2.only ho3 hc3 (by omega) (by omega) (by omega)
  clear g3 D2 ho3 hc3
  have hcg : c.2.1.length ≤ 301 := hgl
  obtain ⟨N, hN⟩ : ∃ N : Int, c.1 + (c.2.1.length : Int) = N := ⟨_, rfl⟩
  have hN2 : N ≤ 400 := by omega
  have hN3 : -1 ≤ N := by omega
  have GW : Hid (∀ w5 : World, Calls Try.prog 91 #[.agg #[.int .i64 c.1, .slice ga c.2.1.length gcap, .slice oa c.2.2.length ocap]] w5 fun e w' => e = .returned (.int .i64 N) ∧ w' = w5.alloc (.cells #[.int .i64 c.1, .slice ga c.2.1.length gcap, .slice oa c.2.2.length ocap] 27)) := fun w5 => by
    have g := l4Wires_raw c.1 ga c.2.1.length gcap (.slice oa c.2.2.length ocap) (by omega) (by omega) (by omega) w5
    rw [hN] at g
    exact g
  obtain ⟨N1, hN1⟩ : ∃ N1 : Int, N + 1 = N1 := ⟨_, rfl⟩
  have hN1w : IntKind.i64.wrap N1 = N1 := IntWalk.i64_in _ ⟨by omega, by omega⟩
  have hN1b : N1 ≤ 500 := by omega
  clear hN hX
  cases z with
  | false =>
    obtain ⟨p0, p1, p2⟩ := D3.x.cells
    have ph := D3.x.heap
    have pl := D3.x.lt
    go_wp2_with fail
    go_region_held (fun w' => w'.cell? ⟨X, 0, none⟩ = some (.int .i64 c.1) ∧ w'.cell? ⟨X, 1, none⟩ = some (.slice ga c.2.1.length gcap) ∧ w'.cell? ⟨X, 2, none⟩ = some (.slice oa c.2.2.length ocap)) (first | exact HD6.x.cells | exact (((HD6.x.other hXR _).other hXR _).other hXR _).cells | exact HD5.x.cells | exact HD4.x.cells | exact HD3.x.cells | exact HD2.x.cells | exact HD1.x.cells | exact D3.drew.x.cells | exact D3.x.cells | go_keep) (first | (go_at_call 95; refine (pick_all _ _ _ _ N1 (by omega) _ HD5.cur (by omega)).mono ?_; rintro e w16 ⟨kx, ⟨hkx0, hkx1⟩, rfl, ho16, hc16⟩; have HD6 := HD5.only ho16 hc16 (by omega) (by omega) (by omega); have HA6 := ho16.keeps HA5 (by omega); have HB6 := ho16.keeps HB5 (by omega); obtain ⟨rz0, rz1, rz2⟩ := HD6.res.cells; have rzh := HD6.res.heap; have rzl := HD6.res.lt; have rf0 := HD6.res.frozen 0; have rf1 := HD6.res.frozen 1; have rf2 := HD6.res.frozen 2; obtain ⟨xz0, xz1, xz2⟩ := HD6.x.cells; have hXR : X ≠ w.heap.size := (by omega); clear ho16 hc16) | (go_at_call 91; first | (have qq := HD4; refine (GW.out _).mono ?_; rintro e w15 ⟨rfl, hw15⟩; have HD5 : DS wa w.heap.size (w.heap.size + 1) X (w.heap.size + 1 + 1) (w.heap.size + 1) (0 + 10000 + 2 + 2 + 2 * n + 2 * n) (.slice ad l cc) c (.slice ga c.2.1.length gcap) (.slice oa c.2.2.length ocap) w15 := (by rw [hw15]; exact HD4.alloc _); have HA5 : w15.ownsRow (w.heap.size + 1 + 1) 3 1 (.slice ra1 t1.length rc1) t1.length (cellsI t1) := (by rw [hw15]; exact HA4.alloc _); have HB5 : w15.ownsRow (w.heap.size + 1 + 1) 3 1 (.slice ra2 t2.length rc2) t2.length (cellsI t2) := (by rw [hw15]; exact HB4.alloc _); clear hw15 qq) | (have qq := HD2; refine (GW.out _).mono ?_; rintro e w13 ⟨rfl, hw13⟩; have HD3 : DS wa w.heap.size (w.heap.size + 1) X (w.heap.size + 1 + 1) (w.heap.size + 1) (0 + 10000 + 2 + 2 + 2 * n) (.slice ad l cc) c (.slice ga c.2.1.length gcap) (.slice oa c.2.2.length ocap) w13 := (by rw [hw13]; exact HD2.alloc _); have HA3 : w13.ownsRow (w.heap.size + 1 + 1) 3 1 (.slice ra1 t1.length rc1) t1.length (cellsI t1) := (by rw [hw13]; exact HA2.alloc _); clear hw13 qq) | (refine (GW.out _).mono ?_; rintro e w11 ⟨rfl, hw11⟩; have HD1 : DS wa w.heap.size (w.heap.size + 1) X (w.heap.size + 1 + 1) (w.heap.size + 1) (0 + 10000 + 2 + 2) (.slice ad l cc) c (.slice ga c.2.1.length gcap) (.slice oa c.2.2.length ocap) w11 := (by rw [hw11]; first | exact D3.alloc _ | exact D3.drew.alloc _); clear hw11)) | (go_at_call 136; first | (have qq := HD3; refine (wires_any _ _ _ _ N (by omega) n (by omega) _ HD3.cur (by omega)).mono ?_; rintro e w14 ⟨r2, t2, rfl, ht2, htb2, hr2, ho14, hc14⟩; have HT2 : Hid (t2.length = n) := ht2; clear ht2 htb2; have HD4 := HD3.only ho14 hc14 (by omega) (by omega) (by omega); have HA4 := ho14.keeps HA3 (by omega); have HB4 : w14.ownsRow (w.heap.size + 1 + 1) 3 1 r2 t2.length (cellsI t2) := own_base hr2 (by have := HD3.on.size; omega); obtain ⟨ra2, rc2, hrr2⟩ := own_shape HB4; subst hrr2; clear ho14 hc14 hr2 qq) | (refine (wires_any _ _ _ _ N (by omega) n (by omega) _ HD1.cur (by omega)).mono ?_; rintro e w12 ⟨r1, t1, rfl, ht1, htb1, hr1, ho12, hc12⟩; have HT1 : Hid (t1.length = n) := ht1; clear ht1 htb1; have HD2 := HD1.only ho12 hc12 (by omega) (by omega) (by omega); have HA2 : w12.ownsRow (w.heap.size + 1 + 1) 3 1 r1 t1.length (cellsI t1) := own_base hr1 (by have := HD1.on.size; omega); obtain ⟨ra1, rc1, hrr1⟩ := own_shape HA2; subst hrr1; clear ho12 hc12 hr1)))
    all_goals
      have hb6 : Below w.heap.size w w16 := hb1.trans (HD6.on.below (B := w.heap.size) (by omega) (by omega))
      have HZ : Hid _ := ((HD6.res.set0 (.int .i64 c.1)).set1 (.slice ga c.2.1.length gcap)).set2 (.slice oa c.2.2.length ocap)
      have hlo : w.heap.size < w.heap.size + 1 + 1 := by omega
      have sets := fun {e : TypeId} {s : Nat} {v : Value} {k : Nat} {xs : List Value} (ho : w16.ownsRow (w.heap.size + 1 + 1) e s v k xs) => own_set (b := w.heap.size) (o := 2) (u := .slice oa c.2.2.length ocap) (own_set (b := w.heap.size) (o := 1) (u := .slice ga c.2.1.length gcap) (own_set (b := w.heap.size) (o := 0) (u := .int .i64 c.1) ho hlo) hlo) hlo
      have HG : Hid _ := sets HD6.rows
      have HO : Hid _ := sets HD6.outs
      have HA : Hid _ := sets HA6
      have HB : Hid _ := sets HB6
      have HBl : Hid _ := ((hb6.setCell (p := ⟨w.heap.size, 0, none⟩) (Nat.le_refl _) (.int .i64 c.1)).setCell (p := ⟨w.heap.size, 1, none⟩) (Nat.le_refl _) (.slice ga c.2.1.length gcap)).setCell (p := ⟨w.heap.size, 2, none⟩) (Nat.le_refl _) (.slice oa c.2.2.length ocap)
      have hsmk : ∀ g ∈ c.2.1, GtOk g := fun g hg => smG_ok (hsm g hg) (by omega)
      clear sets HD6 HA6 HB6 HD5 HD4 HD3 HD2 HD1 D3 HA5 HA4 HA3 HA2 HB5 HB4 rz0 rz1 rz2 rzh rzl rf0 rf1 rf2 xz0 xz1 xz2 GW hb6
      go_wp2_with fail
      refine bodyPost_ret (results_c3 rfl _ _ w.heap.size 27 _ (0, 0) _ rfl HZ.out.heap Try.underlying27 rfl (by kernel_rfl)) rfl ?_
      have hfit : Fit c.1 := ⟨by omega, by omega⟩
      unfold AddOwn
      exact ⟨_, _, _, _, c, t1, t2, kx, rfl, own_down HG.out (by omega), own_down HO.out (by omega), own_down HA.out (by omega), own_down HB.out (by omega), ⟨by omega, by omega⟩, ⟨hfit, hsmk, by omega, by omega⟩, by have := HT1.out; omega, by have := HT2.out; omega, HBl.out⟩
  | true =>
    have D10 := D3.alloc (.cells #[.int .i64 16, .int .i64 17] 3)
    have hlb : ∀ i : Nat, i < 2 → ∃ x : Int, (w3.alloc (.cells #[.int .i64 16, .int .i64 17] 3)).cell? ⟨w3.heap.size, i, none⟩ = some (.int .i64 x) ∧ 16 ≤ x ∧ x ≤ 17 := by
      intro i hi
      match i, hi with
      | 0, _ => exact ⟨16, by simp, by omega, by omega⟩
      | 1, _ => exact ⟨17, by simp, by omega, by omega⟩
    have hl3 := D3.cur.lies
    have ga1 := among_any _ _ _ _ w3.heap.size 2 2 16 17 (by omega) (by omega) _ D10.cur (by omega) (by omega) (by rw [World.size_alloc]; omega) hlb
    clear hlb
    go_wp2_with fail
    refine ga1.mono ?_
    rintro e w10 ⟨nn, ⟨hnn0, hnn1⟩, rfl, ho10, hc10⟩
    obtain ⟨n2, rfl⟩ := Int.eq_ofNat_of_zero_le (show 0 ≤ nn by omega)
    have D3x := D10.only ho10 hc10 (by omega) (by omega) (by omega)
    clear ga1 D3 D10 ho10 hc10
    obtain ⟨p0, p1, p2⟩ := D3x.x.cells
    have ph := D3x.x.heap
    have pl := D3x.x.lt
    go_wp2_with fail
    go_region_held (fun w' => w'.cell? ⟨X, 0, none⟩ = some (.int .i64 c.1) ∧ w'.cell? ⟨X, 1, none⟩ = some (.slice ga c.2.1.length gcap) ∧ w'.cell? ⟨X, 2, none⟩ = some (.slice oa c.2.2.length ocap)) (first | exact HD6.x.cells | exact (((HD6.x.other hXR _).other hXR _).other hXR _).cells | exact HD5.x.cells | exact HD4.x.cells | exact HD3x.x.cells | exact HD2.x.cells | exact HD1.x.cells | exact D3x.drew.x.cells | exact D3x.x.cells | go_keep) (first | (go_at_call 95; refine (pick_all _ _ _ _ N1 (by omega) _ HD5.cur (by omega)).mono ?_; rintro e w16 ⟨kx, ⟨hkx0, hkx1⟩, rfl, ho16, hc16⟩; have HD6 := HD5.only ho16 hc16 (by omega) (by omega) (by omega); have HA6 := ho16.keeps HA5 (by omega); have HB6 := ho16.keeps HB5 (by omega); obtain ⟨rz0, rz1, rz2⟩ := HD6.res.cells; have rzh := HD6.res.heap; have rzl := HD6.res.lt; have rf0 := HD6.res.frozen 0; have rf1 := HD6.res.frozen 1; have rf2 := HD6.res.frozen 2; obtain ⟨xz0, xz1, xz2⟩ := HD6.x.cells; have hXR : X ≠ w.heap.size := (by omega); clear ho16 hc16) | (go_at_call 91; first | (have qq := HD4; refine (GW.out _).mono ?_; rintro e w15 ⟨rfl, hw15⟩; have HD5 : DS wa w.heap.size (w.heap.size + 1) X (w.heap.size + 1 + 1) (w.heap.size + 1) (0 + 10000 + 2 + 2 + 2 + 2 * n2 + 2 * n2) (.slice ad l cc) c (.slice ga c.2.1.length gcap) (.slice oa c.2.2.length ocap) w15 := (by rw [hw15]; exact HD4.alloc _); have HA5 : w15.ownsRow (w.heap.size + 1 + 1) 3 1 (.slice ra1 t1.length rc1) t1.length (cellsI t1) := (by rw [hw15]; exact HA4.alloc _); have HB5 : w15.ownsRow (w.heap.size + 1 + 1) 3 1 (.slice ra2 t2.length rc2) t2.length (cellsI t2) := (by rw [hw15]; exact HB4.alloc _); clear hw15 qq) | (have qq := HD2; refine (GW.out _).mono ?_; rintro e w13 ⟨rfl, hw13⟩; have HD3x : DS wa w.heap.size (w.heap.size + 1) X (w.heap.size + 1 + 1) (w.heap.size + 1) (0 + 10000 + 2 + 2 + 2 + 2 * n2) (.slice ad l cc) c (.slice ga c.2.1.length gcap) (.slice oa c.2.2.length ocap) w13 := (by rw [hw13]; exact HD2.alloc _); have HA3 : w13.ownsRow (w.heap.size + 1 + 1) 3 1 (.slice ra1 t1.length rc1) t1.length (cellsI t1) := (by rw [hw13]; exact HA2.alloc _); clear hw13 qq) | (refine (GW.out _).mono ?_; rintro e w11 ⟨rfl, hw11⟩; have HD1 : DS wa w.heap.size (w.heap.size + 1) X (w.heap.size + 1 + 1) (w.heap.size + 1) (0 + 10000 + 2 + 2 + 2) (.slice ad l cc) c (.slice ga c.2.1.length gcap) (.slice oa c.2.2.length ocap) w11 := (by rw [hw11]; first | exact D3x.alloc _ | exact D3x.drew.alloc _); clear hw11)) | (go_at_call 136; first | (have qq := HD3x; refine (wires_any _ _ _ _ N (by omega) n2 (by omega) _ HD3x.cur (by omega)).mono ?_; rintro e w14 ⟨r2, t2, rfl, ht2, htb2, hr2, ho14, hc14⟩; have HT2 : Hid (t2.length = n2) := ht2; clear ht2 htb2; have HD4 := HD3x.only ho14 hc14 (by omega) (by omega) (by omega); have HA4 := ho14.keeps HA3 (by omega); have HB4 : w14.ownsRow (w.heap.size + 1 + 1) 3 1 r2 t2.length (cellsI t2) := own_base hr2 (by have := HD3x.on.size; omega); obtain ⟨ra2, rc2, hrr2⟩ := own_shape HB4; subst hrr2; clear ho14 hc14 hr2 qq) | (refine (wires_any _ _ _ _ N (by omega) n2 (by omega) _ HD1.cur (by omega)).mono ?_; rintro e w12 ⟨r1, t1, rfl, ht1, htb1, hr1, ho12, hc12⟩; have HT1 : Hid (t1.length = n2) := ht1; clear ht1 htb1; have HD2 := HD1.only ho12 hc12 (by omega) (by omega) (by omega); have HA2 : w12.ownsRow (w.heap.size + 1 + 1) 3 1 r1 t1.length (cellsI t1) := own_base hr1 (by have := HD1.on.size; omega); obtain ⟨ra1, rc1, hrr1⟩ := own_shape HA2; subst hrr1; clear ho12 hc12 hr1)))
    all_goals
      have hb6 : Below w.heap.size w w16 := hb1.trans (HD6.on.below (B := w.heap.size) (by omega) (by omega))
      have HZ : Hid _ := ((HD6.res.set0 (.int .i64 c.1)).set1 (.slice ga c.2.1.length gcap)).set2 (.slice oa c.2.2.length ocap)
      have hlo : w.heap.size < w.heap.size + 1 + 1 := by omega
      have sets := fun {e : TypeId} {s : Nat} {v : Value} {k : Nat} {xs : List Value} (ho : w16.ownsRow (w.heap.size + 1 + 1) e s v k xs) => own_set (b := w.heap.size) (o := 2) (u := .slice oa c.2.2.length ocap) (own_set (b := w.heap.size) (o := 1) (u := .slice ga c.2.1.length gcap) (own_set (b := w.heap.size) (o := 0) (u := .int .i64 c.1) ho hlo) hlo) hlo
      have HG : Hid _ := sets HD6.rows
      have HO : Hid _ := sets HD6.outs
      have HA : Hid _ := sets HA6
      have HB : Hid _ := sets HB6
      have HBl : Hid _ := ((hb6.setCell (p := ⟨w.heap.size, 0, none⟩) (Nat.le_refl _) (.int .i64 c.1)).setCell (p := ⟨w.heap.size, 1, none⟩) (Nat.le_refl _) (.slice ga c.2.1.length gcap)).setCell (p := ⟨w.heap.size, 2, none⟩) (Nat.le_refl _) (.slice oa c.2.2.length ocap)
      have hsmk : ∀ g ∈ c.2.1, GtOk g := fun g hg => smG_ok (hsm g hg) (by omega)
      clear sets HD6 HA6 HB6 HD5 HD4 HD3x HD2 HD1 D3x HA5 HA4 HA3 HA2 HB5 HB4 rz0 rz1 rz2 rzh rzl rf0 rf1 rf2 xz0 xz1 xz2 GW hb6
      go_wp2_with fail
      refine bodyPost_ret (results_c3 rfl _ _ w.heap.size 27 _ (0, 0) _ rfl HZ.out.heap Try.underlying27 rfl (by kernel_rfl)) rfl ?_
      have hfit : Fit c.1 := ⟨by omega, by omega⟩
      unfold AddOwn
      exact ⟨_, _, _, _, c, t1, t2, kx, rfl, own_down HG.out (by omega), own_down HO.out (by omega), own_down HA.out (by omega), own_down HB.out (by omega), ⟨by omega, by omega⟩, ⟨hfit, hsmk, by omega, by omega⟩, by have := HT1.out; omega, by have := HT2.out; omega, HBl.out⟩
theorem AddOwn.any {w : World} {e : Ending} {w' : World} (h : AddOwn w e w') : AddOut w e w' := by
  obtain ⟨g, o, av, bv, c, a, b, k, rfl, hg, ho, ha, hb, hk, hc, la, lb, hbl⟩ := h
  obtain ⟨hfit, hgk, h1, h2⟩ := hc
  exact ⟨_, _, _, c, a, b, k, rfl, ⟨hfit, _, _, rfl, gates_of_own hgk (by omega) hg, ints_of_own (by omega) ho, strong_of hg, strong_of ho⟩, ⟨ints_of_own (by omega) ha, strong_of ha⟩, ⟨ints_of_own (by omega) hb, strong_of hb⟩, hk, ⟨hfit, hgk, h1, h2⟩, la, lb, hbl⟩
theorem drawAddGates_any (ad : Option Addr) (l cc : Nat) (w : World) (h : CodeOk w.heap.size w (.slice ad l cc)) :
    Calls Try.prog 75 #[.slice ad l cc] w fun e w' => AddOut w e w' := (drawAddGates_own ad l cc w h).mono fun _ _ h => h.any
end Go.Proofs.Ytmjeaceabjinfaa

namespace Go.Proofs.Ytmjeaceabjinfaa
open Go Go.RowKit
open M
set_option linter.unusedVariables false
set_option linter.unusedSimpArgs false

/-- circuits with a comparison laid behind -/
def lessC (c : Ci) (a b : List Int) : Ci := (c.1, c.2.1 ++ [(1, 0, 0)] ++ (lessG a b (wiresN c) (wiresN c + 1)).1, c.2.2)
def lessB (c : Ci) (a b : List Int) : Bool := sidesB c a b && goodC (lessC c a b)
def lessR (c : Ci) (a b : List Int) : Ci := if lessB c a b = true then lessC c a b else (0, [], [])
def lessW (c : Ci) (a b : List Int) : Int := if lessB c a b = true then onW (wiresN c) (wiresN c + 1) 6 5 a.length else 0
def eqC (c : Ci) (a b : List Int) : Ci := (c.1, c.2.1 ++ [(1, 1, 0)] ++ (eqG a b (wiresN c) (wiresN c + 1)).1, c.2.2)
def eqB (c : Ci) (a b : List Int) : Bool := sidesB c a b && goodC (eqC c a b)
def eqR (c : Ci) (a b : List Int) : Ci := if eqB c a b = true then eqC c a b else (0, [], [])
def eqW (c : Ci) (a b : List Int) : Int := if eqB c a b = true then onW (wiresN c) (wiresN c + 1) 3 2 a.length else 0
def addC (c : Ci) (a b : List Int) (k : Int) : Ci := (c.1, c.2.1 ++ (addG a b k (wiresN c)).1, c.2.2)
def addB (c : Ci) (a b : List Int) (k : Int) : Bool := sidesB c a b && (inB (wiresN c) k && goodC (addC c a b k))
def addR (c : Ci) (a b : List Int) (k : Int) : Ci := if addB c a b k = true then addC c a b k else (0, [], [])
def addS (c : Ci) (a b : List Int) (k : Int) : List Int := if addB c a b k = true then (addG a b k (wiresN c)).2 else []
theorem sides_parts {c : Ci} {a b : List Int} (h : sidesB c a b = true) : goodC c = true ∧ a.length = b.length ∧ a.length ≤ 16 ∧ (∀ x ∈ a, 0 ≤ x ∧ x < wiresN c) ∧ ∀ x ∈ b, 0 ≤ x ∧ x < wiresN c := by
  unfold sidesB at h
  simp only [Bool.and_eq_true, decide_eq_true_eq] at h
  obtain ⟨h1, h2, h3, h4, h5⟩ := h
  refine ⟨h1, h2, h3, fun x hx => ?_, fun x hx => ?_⟩
  · have := List.all_eq_true.1 h4 x hx
    simpa [inB] using this
  · have := List.all_eq_true.1 h5 x hx
    simpa [inB] using this
theorem good_sm {c : Ci} (h : goodC c = true) : ∀ g ∈ c.2.1, smG 1000 g := by
  intro g hg
  obtain ⟨h0, h1, h2, h3, h4, _⟩ := goodC_ins h
  obtain ⟨i, hi⟩ := List.mem_iff_getElem?.1 hg
  have hil : i < c.2.1.length := (List.getElem?_eq_some_iff.1 hi).1
  exact gateB_sm (gatesB_at h4 hi) (by omega) (by omega)
theorem lessC_sm {c : Ci} {a b : List Int} (h : sidesB c a b = true) : (∀ g ∈ (lessC c a b).2.1, GtOk g) ∧ (lessC c a b).2.1.length ≤ 500 := by
  obtain ⟨hg, hl, h16, ha, hb⟩ := sides_parts h
  obtain ⟨h0, h1, h2, h3, _, _⟩ := goodC_ins hg
  have hN : wiresN c = c.1 + c.2.1.length := rfl
  have hll := lessG_len a b (wiresN c) (wiresN c + 1) hl
  constructor
  · intro g hm
    simp only [lessC, List.mem_append, List.mem_singleton] at hm
    rcases hm with (hm | rfl) | hm
    · exact smG_ok (good_sm hg g hm) (by omega)
    · unfold GtOk Fit; simp only; omega
    · exact smG_ok (lessG_sm 1000 a b _ _ (fun x hx => by have := ha x hx; omega) (fun x hx => by have := hb x hx; omega) (by omega) (by omega) (by omega) (by omega) g hm) (by omega)
  · simp only [lessC, List.length_append, List.length_singleton, hll]
    omega
theorem eqC_sm {c : Ci} {a b : List Int} (h : sidesB c a b = true) : (∀ g ∈ (eqC c a b).2.1, GtOk g) ∧ (eqC c a b).2.1.length ≤ 500 := by
  obtain ⟨hg, hl, h16, ha, hb⟩ := sides_parts h
  obtain ⟨h0, h1, h2, h3, _, _⟩ := goodC_ins hg
  have hN : wiresN c = c.1 + c.2.1.length := rfl
  have hll := eqG_len a b (wiresN c) (wiresN c + 1) hl
  constructor
  · intro g hm
    simp only [eqC, List.mem_append, List.mem_singleton] at hm
    rcases hm with (hm | rfl) | hm
    · exact smG_ok (good_sm hg g hm) (by omega)
    · unfold GtOk Fit; simp only; omega
    · exact smG_ok (eqG_sm 1000 a b _ _ (fun x hx => by have := ha x hx; omega) (fun x hx => by have := hb x hx; omega) (by omega) (by omega) (by omega) (by omega) g hm) (by omega)
  · simp only [eqC, List.length_append, List.length_singleton, hll]
    omega
theorem addC_sm {c : Ci} {a b : List Int} {k : Int} (h : sidesB c a b = true) (hk : inB (wiresN c) k = true) : (∀ g ∈ (addC c a b k).2.1, GtOk g) ∧ (addC c a b k).2.1.length ≤ 500 := by
  obtain ⟨hg, hl, h16, ha, hb⟩ := sides_parts h
  obtain ⟨h0, h1, h2, h3, _, _⟩ := goodC_ins hg
  have hN : wiresN c = c.1 + c.2.1.length := rfl
  have hll := (addG_len a b k (wiresN c) hl).1
  have hk' : 0 ≤ k ∧ k < wiresN c := by simpa [inB] using hk
  constructor
  · intro g hm
    simp only [addC, List.mem_append] at hm
    rcases hm with hm | hm
    · exact smG_ok (good_sm hg g hm) (by omega)
    · exact smG_ok (addG_sm 1000 a b _ _ (fun x hx => by have := ha x hx; omega) (fun x hx => by have := hb x hx; omega) (by omega) (by omega) (by omega) (by omega) g hm) (by omega)
  · simp only [addC, List.length_append, hll]
    omega
theorem zero_ok : CiOk (0, [], []) := ⟨⟨by omega, by omega⟩, by simp, by simp, by simp⟩
theorem lessR_ok (c : Ci) (a b : List Int) (hc : CiOk c) : CiOk (lessR c a b) := by
  unfold lessR
  split
  · rename_i h
    unfold lessB at h
    rw [Bool.and_eq_true] at h
    have hs := lessC_sm h.1
    exact ⟨hc.1, hs.1, by omega, hc.2.2.2⟩
  · exact zero_ok
theorem eqR_ok (c : Ci) (a b : List Int) (hc : CiOk c) : CiOk (eqR c a b) := by
  unfold eqR
  split
  · rename_i h
    unfold eqB at h
    rw [Bool.and_eq_true] at h
    have hs := eqC_sm h.1
    exact ⟨hc.1, hs.1, by omega, hc.2.2.2⟩
  · exact zero_ok
theorem addR_ok (c : Ci) (a b : List Int) (k : Int) (hc : CiOk c) : CiOk (addR c a b k) := by
  unfold addR
  split
  · rename_i h
    unfold addB at h
    rw [Bool.and_eq_true, Bool.and_eq_true] at h
    have hs := addC_sm h.1 h.2.1
    exact ⟨hc.1, hs.1, by omega, hc.2.2.2⟩
  · exact zero_ok
theorem addS_len (c : Ci) (a b : List Int) (k : Int) : (addS c a b k).length ≤ 1048576 := by
  unfold addS
  split
  · rename_i h
    unfold addB at h
    rw [Bool.and_eq_true] at h
    obtain ⟨_, hl, h16, _⟩ := sides_parts h.1
    have := (addG_len a b k (wiresN c) hl).2
    omega
  · simp
/-- what is built is read, and is handed out -/
theorem Bld.reads {w : World} {lo hi b : Nat} {e : TypeId} {c : Ci} (h : Bld w lo hi b e c) (hf : Fit c.1) (hg : ∀ g ∈ c.2.1, GtOk g) (hn : c.2.1.length ≤ 1000) (ho : c.2.2.length ≤ 1000) : ∃ gsl osl, Box3 w b e (.int .i64 c.1) gsl osl ∧ AtCirc w (.agg #[.int .i64 c.1, gsl, osl]) c ∧ w.ownsRow lo 108 3 gsl c.2.1.length (flat3 c.2.1) ∧ w.ownsRow lo 3 1 osl c.2.2.length (cellsI c.2.2) ∧ (∀ k, osl.ownBlock = some k → k < hi) := by
  obtain ⟨h0, gsl, osl, h1, h2, h3, h4⟩ := h
  exact ⟨gsl, osl, h1, ⟨hf, gsl, osl, rfl, gates_of_own hg (by omega) h2, ints_of_own (by omega) h3⟩, h2, h3, h4⟩
/-- of a circuit and a list that a call answers, the outs and the list lie apart -/
def ApartIS (r0 r1 : Value) : Prop := ∀ (i g o : Value) (k : Nat), r0 = .agg #[i, g, o] → r1.ownBlock = some k → o.ownBlock ≠ some k
theorem apart_nil (r0 : Value) : ApartIS r0 (.slice none 0 0) := by
  intro i g o k h1 h2
  cases h2
end Go.Proofs.Ytmjeaceabjinfaa

namespace Go.Proofs.Ytmjeaceabjinfaa
open Go Go.RowKit
open M
set_option linter.unusedVariables false

/-- a row of bools that is read -/
theorem BoolsAt.at {w : World} {v : Value} {t : List Bool} (h : BoolsAt w v t) {i : Int} (h0 : 0 ≤ i) (h1 : i < t.length) : ∃ g off cap : Nat, v = .slice (some ⟨g, off, none⟩) t.length cap ∧ g < w.heap.size ∧ w.cell? ⟨g, off + i.toNat, none⟩ = some (.bool (at' t i)) := by
  rcases h.2 with ⟨rfl, _⟩ | ⟨g, off, cap, rfl, hlt, hc⟩
  · simp at h1
    omega
  · refine ⟨g, off, cap, rfl, hlt, hc i.toNat _ ?_⟩
    unfold at'
    rw [List.getD_eq_getElem?_getD, List.getElem?_eq_getElem (by omega)]
    rfl
set_option maxRecDepth 100000 in
set_option maxHeartbeats 2000000 in
theorem carried_any (g : Gt) (wv : Value) (rl : List Bool) (own : Int) (hown : own = rl.length) (hlim : rl.length ≤ 1000) (hg : gateB own g = true) (w : World) (h : BoolsAt w wv rl) :
    Calls Try.prog 86 #[gv g, wv] w fun e w' => e = .returned (.bool (gateV rl g)) ∧ Below w.heap.size w w' := by
  have hgk := gateB_kind hg
  subst hown
  obtain ⟨k, xa, xb⟩ := g
  unfold gv
  simp only at *
  have HB : Hid (Below w.heap.size w (w.alloc (.cells #[.int .i64 k, .int .i64 xa, .int .i64 xb] 108))) := (Below.refl _ _).alloc (Nat.le_refl _) _
  clear hg
  rcases hgk with ⟨rfl, ha0, ha1, rfl⟩ | ⟨rfl, ⟨ha0, ha1⟩, rfl⟩ | ⟨hk, ⟨ha0, ha1⟩, ⟨hb0, hb1⟩⟩
  · have hz : gateV rl (1, xa, 0) = (xa == 1) := by
      show (if (1 : Int) = 1 then decide (xa = 1) else _) = _
      rw [if_pos rfl, Bool.eq_iff_iff]
      simp
    rw [hz]
    clear hz h
    go_enter Try.func86, Try.ntmps86
    go_wp2_with fail
    go_ret
    exact ⟨rfl, HB.out⟩
  · obtain ⟨vg, voff, vcp, rfl, hvl, hcell⟩ := h.at ha0 ha1
    obtain ⟨A, rfl⟩ := Int.eq_ofNat_of_zero_le ha0
    rw [Int.toNat_natCast] at hcell
    have hz : gateV rl (2, (A : Int), 0) = !(at' rl A) := by simp [gateV]
    rw [hz]
    generalize at' rl A = p at *
    clear hz h
    cases p
    all_goals
      go_enter Try.func86, Try.ntmps86
      go_wp2_with fail
      go_ret
      exact ⟨rfl, HB.out⟩
  · obtain ⟨vg, voff, vcp, rfl, hvl, hcell⟩ := h.at ha0 ha1
    obtain ⟨vg', voff', vcp', hv', hvl', hcell'⟩ := h.at hb0 hb1
    injection hv' with e1 e2 e3
    injection e1 with e1
    injection e1 with e1 e4
    subst e1 e3 e4
    obtain ⟨A, rfl⟩ := Int.eq_ofNat_of_zero_le ha0
    obtain ⟨B, rfl⟩ := Int.eq_ofNat_of_zero_le hb0
    rw [Int.toNat_natCast] at hcell hcell'
    have hz3 : gateV rl (3, (A : Int), (B : Int)) = (at' rl A && at' rl B) := by simp [gateV]
    have hz4 : gateV rl (4, (A : Int), (B : Int)) = (at' rl A || at' rl B) := by simp [gateV]
    have hz5 : gateV rl (5, (A : Int), (B : Int)) = (at' rl A != at' rl B) := by simp [gateV]
    rcases hk with rfl | rfl | rfl
    · rw [hz3]
      generalize at' rl A = p at *
      generalize at' rl B = q at *
      clear hz3 hz4 hz5 h
      cases p <;> cases q
      all_goals
        go_enter Try.func86, Try.ntmps86
        go_wp2_with fail
        go_ret
        exact ⟨rfl, HB.out⟩
    · rw [hz4]
      generalize at' rl A = p at *
      generalize at' rl B = q at *
      clear hz3 hz4 hz5 h
      cases p <;> cases q
      all_goals
        go_enter Try.func86, Try.ntmps86
        go_wp2_with fail
        go_ret
        exact ⟨rfl, HB.out⟩
    · rw [hz5]
      generalize at' rl A = p at *
      generalize at' rl B = q at *
      clear hz3 hz4 hz5 h
      cases p <;> cases q
      all_goals
        go_enter Try.func86, Try.ntmps86
        go_wp2_with fail
        first
        | (go_ret; exact ⟨rfl, HB.out⟩)
        | (go_quiet (fail); go_wp2_with fail; go_ret; exact ⟨rfl, HB.out.trans ((Below.refl _ _).drewN _)⟩)
        | (go_region; all_goals (go_wp2_with fail; go_ret; exact ⟨rfl, HB.out.drew⟩))
/-- what AllWires tells -/
def wiresL (c : Ci) (il : List Bool) : List Bool := if goodC c = true ∧ (il.length : Int) = c.1 then runG c.2.1 il else []
def wiresB (c : Ci) (il : List Bool) : Bool := decide (goodC c = true ∧ (il.length : Int) = c.1)
set_option maxRecDepth 100000 in
set_option maxHeartbeats 2000000 in
theorem sAllWires_any (v iv : Value) (c : Ci) (il : List Bool) (w : World) (h : AtC w v c) (hiv : AtBS w iv il) :
    Calls Try.prog 88 #[v, iv] w fun e w' => ∃ r, e = .returned (.tuple #[r, .bool (wiresB c il)]) ∧ OwnBools w' w.heap.size r (wiresL c il) ∧ Below w.heap.size w w' := by
  obtain ⟨ga, gn, gc, oa, on, oc, hv⟩ := h.at.shape
  subst hv
  obtain ⟨ia, icap, hiv'⟩ := hiv.1.shape
  subst hiv'
  have hil := hiv.1.1
  have x0 := box3_alloc w 27 (.int .i64 c.1) (.slice ga gn gc) (.slice oa on oc)
  have hb0 : Below w.heap.size w (w.alloc (.cells #[.int .i64 c.1, .slice ga gn gc, .slice oa on oc] 27)) := (Below.refl _ _).alloc (Nat.le_refl _) _
  have g1 := sGood_any _ c _ (h.below hb0).at
  unfold wiresL wiresB
  have hsz : (w.alloc (.cells #[.int .i64 c.1, .slice ga gn gc, .slice oa on oc] 27)).heap.size = w.heap.size + 1 := by simp only [World.size_alloc]
  have hcf := h.1
  cases hgd : goodC c with
  | false =>
    rw [hgd] at g1
    rw [if_neg (by simp), decide_eq_false (by simp)]
    go_enter Try.func88, Try.ntmps88
    go_wp2_with fail
    refine g1.mono ?_
    rintro e w1 ⟨rfl, hs⟩
    have HB : Hid (Below w.heap.size w w1) := Below.step hb0 hb0.size hs
    clear g1 h hiv
    go_wp2_with fail
    go_ret2
    exact ⟨_, rfl, World.ownsRow_nil _ _ _ _, HB.out⟩
  | true =>
    rw [hgd] at g1
    by_cases hl : (il.length : Int) = c.1
    · rw [if_pos ⟨rfl, hl⟩, decide_eq_true ⟨rfl, hl⟩]
      have G2 : Hid (∀ w1 : World, Below w.heap.size w w1 → _) := fun w1 hb => l4Run_any _ _ c il hgd hl w1 (h.below hb).at (hiv.below hb)
      have hne : ((il.length : Int) != c.1) = false := by simp [hl]
      generalize il.length = ilen at *
      go_enter Try.func88, Try.ntmps88
      go_wp2_with fail
      refine g1.mono ?_
      rintro e w1 ⟨rfl, hs⟩
      have hb1 := Below.step hb0 hb0.size hs
      have x1 := x0.below hs (by omega)
      obtain ⟨c0, c1, c2⟩ := x1.cells
      have hh := x1.heap
      have hlt1 := x1.lt
      have g2 := G2.out w1 hb1
      clear g1 h hiv G2
      go_wp2_with fail
      refine g2.mono ?_
      rintro e w2 ⟨r, rfl, ho, hs2⟩
      have HO : Hid (OwnBools w2 w.heap.size r (runG c.2.1 il)) := own_base ho hb1.size
      have HB : Hid (Below w.heap.size w w2) := Below.step hb1 hb1.size hs2
      clear g2 ho hs2 hs
      go_wp2_with fail
      go_ret2
      exact ⟨_, rfl, HO.out, HB.out⟩
    · rw [if_neg (fun e => hl e.2), decide_eq_false (fun e => hl e.2)]
      have hne : ((il.length : Int) != c.1) = true := bne_iff_ne.2 hl
      generalize il.length = ilen at *
      go_enter Try.func88, Try.ntmps88
      go_wp2_with fail
      refine g1.mono ?_
      rintro e w1 ⟨rfl, hs⟩
      have HB : Hid (Below w.heap.size w w1) := Below.step hb0 hb0.size hs
      have x1 := x0.below hs (by omega)
      obtain ⟨c0, c1, c2⟩ := x1.cells
      have hlt1 := x1.lt
      clear g1 h hiv
      go_wp2_with fail
      go_ret2
      exact ⟨_, rfl, World.ownsRow_nil _ _ _ _, HB.out⟩
theorem infoB : (Try.prog.info? 4).map (fun i => (i.zero, i.size, i.bytes)) = some (some (.bool false), 1, 1) := infoBool
set_option maxRecDepth 100000 in
set_option maxHeartbeats 2000000 in
theorem iAllWires_any (v iv : Value) (c : Ci) (il : List Bool) (w : World) (h : AtC w v c) (hiv : AtBS w iv il) :
    Calls Try.prog 24 #[v, iv] w fun e w' => ∃ r, e = .returned (.tuple #[r, .bool (wiresB c il)]) ∧ OwnBools w' w.heap.size r (wiresL c il) ∧ Below w.heap.size w w' := by
  have hat := h.at
  obtain ⟨hfit, gw, o, hv, h1, h2, _⟩ := h
  obtain ⟨ga, gc, hgw, hg⟩ := h1.opened
  obtain ⟨oa, oc, ho⟩ := h2.shape
  subst hgw ho hv
  have hil := hiv.opened
  have hiln := hiv.1.1
  obtain ⟨ia, icap, hiv'⟩ := hiv.1.shape
  have hb0 : Below w.heap.size w (w.alloc (.cells #[.int .i64 c.1, .slice ga c.2.1.length gc, .slice oa c.2.2.length oc] 27)) := (Below.refl _ _).alloc (Nat.le_refl _) _
  have x0 := box3_alloc w 27 (.int .i64 c.1) (.slice ga c.2.1.length gc) (.slice oa c.2.2.length oc)
  have g1 := iGood_any _ c _ (hat.below hb0)
  have hsz : (w.alloc (.cells #[.int .i64 c.1, .slice ga c.2.1.length gc, .slice oa c.2.2.length oc] 27)).heap.size = w.heap.size + 1 := by simp only [World.size_alloc]
  unfold wiresL wiresB
  cases hgd : goodC c with
  | false =>
    rw [hgd] at g1
    rw [if_neg (by simp), decide_eq_false (by simp)]
    subst hiv'
    go_enter Try.func24, Try.ntmps24
    go_wp2_with fail
    refine g1.mono ?_
    rintro e w1 ⟨rfl, hs⟩
    have HB : Hid (Below w.heap.size w w1) := Below.step hb0 hb0.size hs
    clear g1 hiv hil hat hg h1 h2
    go_wp2_with fail
    go_ret2
    exact ⟨_, rfl, World.ownsRow_nil _ _ _ _, HB.out⟩
  | true =>
    rw [hgd] at g1
    by_cases hl : (il.length : Int) = c.1
    · rw [if_pos ⟨rfl, hl⟩, decide_eq_true ⟨rfl, hl⟩]
      obtain ⟨hI0, hI1, hG, hO, hgb, _⟩ := goodC_ins hgd
      have hne : ((il.length : Int) != c.1) = false := by simp [hl]
      have HG : Hid (∀ (w1 : World), Below w.heap.size w w1 → ∀ (i : Nat) (x : Gt), c.2.1[i]? = some x → ∃ b off : Nat, ga = some ⟨b, off, none⟩ ∧ GateAt w1 b (off + i * 3) x) := fun w1 hb i x hx => by
        obtain ⟨b, off, e, hlt, hat⟩ := hg i x hx
        exact ⟨b, off, e, hat.below hb hlt⟩
      have HGB : Hid (∀ (i : Nat) (x : Gt), c.2.1[i]? = some x → gateB (c.1 + i) x = true) := fun i x hx => gatesB_at hgb hx
      obtain ⟨i0, hi, hz0, hz1, hz2⟩ := info_parts infoBool
      obtain ⟨ins, gs, os⟩ := c
      simp only at *
      clear hg hat h1 h2 hgb hfit hgd
      subst hiv'
      go_enter Try.func24, Try.ntmps24
      go_wp2_with fail
      refine g1.mono ?_
      rintro e w1 ⟨rfl, hs⟩
      have hb1 := Below.step hb0 hb0.size hs
      have x1 := x0.below hs (by omega)
      obtain ⟨c0, c1, c2⟩ := x1.cells
      have hh := x1.heap
      have hlt1 := x1.lt
      clear g1
      have g2 := size_raw ins ga gs.length gc (.slice oa os.length oc) (by omega) (by omega) (by omega) w1
      have HLS : Hid ((ins + (gs.length : Int)) = ((il.length + gs.length : Nat) : Int)) := by
        show (ins + (gs.length : Int)) = ((il.length + gs.length : Nat) : Int)
        omega
      have HB1 : Hid (Below w.heap.size w w1) := hb1
      rcases hil with ⟨hil0, hivn⟩ | ⟨ib, icap', hivs, hilt, hicap, hic⟩
      · have ilz : il.length = 0 := by rw [hil0]; rfl
        rw [hivn]
        clear hil0 hivn hiv
        go_wp2_with fail
        refine g2.mono ?_
        rintro e w2 ⟨rfl, hw2⟩
        have hb2 : Below w1.heap.size w1 w2 := by
          rw [hw2]
          exact (Below.refl _ _).alloc (Nat.le_refl _) _
        clear hw2 g2
        have hs2 := hb2.size
        go_wp2_with (at_make; refine wpList_make_own _ rfl _ _ 33 rfl w1.heap.size 4 i0 (.bool false) 1 Try.underlying33 hi hz0 hz1 .i64 .i64 _ (il.length + gs.length) rfl rfl (by first | exact HLS.out | omega) (by rw [hz2]; omega) (by unfold maxLen; omega) (by omega) ?_)
        intro w3 own3 grow3
        have hb3 : Below w1.heap.size w1 w3 := hb2.grown grow3 hb2.size (fun k hk => by cases hk)
        have y1 := x1.below hb3 x1.lt
        obtain ⟨q0, q1, q2⟩ := y1.cells
        have qh := y1.heap
        have ql := y1.lt
        go_wp2_with (at_builtin; refine wpList_append_own_none rfl _ _ 33 rfl w1.heap.size 4 i0 1 Try.underlying33 hi _ _ _ rfl own3 rfl ?_)
        have HO1 : Hid (OwnBools w3 w1.heap.size (.slice (some ⟨w2.heap.size, 0, none⟩) 0 gs.length) il) := by
          show w3.ownsRow w1.heap.size 4 1 _ il.length (cellsB il)
          have e0 : il = [] := List.length_eq_zero_iff.1 ilz
          rw [e0]
          exact own3
        have HB4 : Hid (Below w1.heap.size w1 w3) := hb3
        clear own3 grow3 hb2 hb3 hs2 c0 c1 c2 hh hlt1
        clear q0 q1 q2 qh ql y1
        go_loopw [6, 27] (fun v i wr => ∃ j : Nat, j ≤ gs.length ∧ i = .int .i64 j ∧ Hid (OwnBools wr w1.heap.size v (runG (gs.take j) il)) ∧ Hid (Below w1.heap.size w1 wr)) (fun _ i _ => gs.length - (intOf i).toNat)
        case atStart => exact ⟨0, by omega, rfl, HO1, HB4⟩
        case round =>
          obtain ⟨j, hj, rfl, HO, HB⟩ := hrel
          have hszr := HB.out.size
          by_cases hlt : j < gs.length
          · obtain ⟨x, hx⟩ : ∃ x, gs[j]? = some x := ⟨gs[j], List.getElem?_eq_getElem hlt⟩
            obtain ⟨b, off, rfl, d0, d1, d2⟩ := HG.out wr (HB1.out.trans (HB.out.mono HB1.out.size)) j x hx
            have hgg := HGB.out j x hx
            have hol : (runG (gs.take j) il).length = il.length + j := by rw [runG_len, List.length_take_of_le (by omega)]
            have hnew : runG (gs.take (j + 1)) il = runG (gs.take j) il ++ [gateV (runG (gs.take j) il) x] := by
              rw [List.take_add_one, hx, runG_append]
              rfl
            have HNEW : Hid _ := hnew
            obtain ⟨k, xa, xb⟩ := x
            simp only at d0 d1 d2
            have HOg : Hid (OwnBools (wr.alloc (.cells #[.int .i64 k, .int .i64 xa, .int .i64 xb] 108)) w1.heap.size u6 (runG (gs.take j) il)) := World.ownsRow.alloc HO.out _
            have HBg : Hid (Below w1.heap.size w1 (wr.alloc (.cells #[.int .i64 k, .int .i64 xa, .int .i64 xb] 108))) := HB.out.alloc hszr _
            generalize hrun : runG (gs.take j) il = rl at *
            have g3 := carried_any (k, xa, xb) u6 rl (ins + j) (by omega) (by omega) hgg (wr.alloc (.cells #[.int .i64 k, .int .i64 xa, .int .i64 xb] 108)) (bools_of_own (by omega) HOg.out)
            unfold gv at g3
            simp only at g3
            generalize hz : gateV rl (k, xa, xb) = z at *
            have HNX : Hid (∀ (v2 : Value) (w2 : World), w2.ownsRow w1.heap.size 4 1 v2 (rl.length + 1) (cellsB rl ++ [.bool z]) → OwnBools w2 w1.heap.size v2 (runG (gs.take (j + 1)) il)) := by
              intro v2 w2 ho2
              show OwnBools w2 w1.heap.size v2 (runG (gs.take (j + 1)) il)
              rw [HNEW.out]
              unfold OwnBools
              rw [List.length_append, List.length_singleton, cellsB_append]
              exact ho2
            obtain ⟨va, vcp, hv⟩ := own_shape HO.out
            subst hv
            have HHOL : Hid (rl.length = il.length + j) := hol
            have hrl : rl.length ≤ 400 := by omega
            clear hx hnew HNEW HG HGB HO1 HB4 hrun hz hgg hol HO
            generalize hrn : rl.length = rn at *
            go_wp2_with fail
            refine g3.mono ?_
            rintro e w5 ⟨rfl, hs5⟩
            have HB5 : Hid (Below w1.heap.size w1 w5) := HBg.out.trans (hs5.mono HBg.out.size)
            have own5 : w5.ownsRow w1.heap.size 4 1 (.slice va rn vcp) rn (cellsB rl) := by
              have h5 := owns_below HOg.out hs5
              rw [hrn] at h5
              exact h5
            have own6 := own5.alloc (.cells #[.bool z] 4)
            have hb6 : Below w1.heap.size w1 (w5.alloc (.cells #[.bool z] 4)) := HB5.out.alloc HB5.out.size _
            have hs6 := hb6.size
            clear g3 hs5 HOg HBg own5
            go_wp2_with (at_builtin; refine wpList_append_own _ rfl _ _ 33 rfl w1.heap.size 4 i0 (.bool false) 1 1 Try.underlying33 hi hz0 hz1 hz2 rfl (by decide) _ _ _ rfl own6 ⟨w5.heap.size, 0, none⟩ 1 1 [.bool z] rfl rfl (oneB_cells w5 z) (bools_one [z]) (by unfold maxLen; omega) (by omega) (by omega) ?_)
            intro v2 w2' own7 grow7 _
            have HB7 : Hid (Below w1.heap.size w1 w2') := below_app hb6 (by omega) (Nat.le_refl _) own6 grow7
            have HO7 : Hid (OwnBools w2' w1.heap.size v2 (runG (gs.take (j + 1)) il)) := HNX.out v2 w2' own7
            clear own6 own7 grow7 hb6 HNX
            go_wp2_with fail
            go_roundw
            case rel => exact ⟨j + 1, by omega, by go_num, HO7, HB7⟩
            case measure => simp [intOf]; omega
          · obtain rfl : j = gs.length := by omega
            have HN : Hid (OwnBools wr w1.heap.size u6 (runG gs il)) := by
              have h1 := HO.out
              rw [List.take_length] at h1
              exact h1
            have HB2 : Hid (Below w.heap.size w wr) := HB1.out.trans (HB.out.mono HB1.out.size)
            have hw1 := HB1.out.size
            clear HO HB HG HGB HO1 HB4
            go_wp2_with fail
            go_ret2
            exact ⟨_, rfl, own_base HN.out hw1, HB2.out⟩
      · have hic1 : ∀ w3, Below w1.heap.size w1 w3 → ∀ (i : Nat) (x : Bool), il[i]? = some x → w3.cell? ⟨ib, 0 + i, none⟩ = some (.bool x) := fun w3 hb i x hx => by
          rw [hb.cell (p := ⟨ib, 0 + i, none⟩) (Nat.lt_of_lt_of_le hilt HB1.out.size), HB1.out.cell (p := ⟨ib, 0 + i, none⟩) hilt]
          exact hic i x hx
        have HIC : Hid _ := hic1
        rw [hivs]
        clear hic hic1 hivs hiv
        go_wp2_with fail
        refine g2.mono ?_
        rintro e w2 ⟨rfl, hw2⟩
        have hb2 : Below w1.heap.size w1 w2 := by
          rw [hw2]
          exact (Below.refl _ _).alloc (Nat.le_refl _) _
        clear hw2 g2
        have hs2 := hb2.size
        go_wp2_with (at_make; refine wpList_make_own _ rfl _ _ 33 rfl w1.heap.size 4 i0 (.bool false) 1 Try.underlying33 hi hz0 hz1 .i64 .i64 _ (il.length + gs.length) rfl rfl (by first | exact HLS.out | omega) (by rw [hz2]; omega) (by unfold maxLen; omega) (by omega) ?_)
        intro w3 own3 grow3
        have hb3 : Below w1.heap.size w1 w3 := hb2.grown grow3 hb2.size (fun k hk => by cases hk)
        have hs3 := hb3.size
        have cells3 := bools_from (w := w3) (g := ib) (o := 0) (t := il) (HIC.out w3 hb3)
        go_wp2_with (at_builtin; refine wpList_append_own _ rfl _ _ 33 rfl w1.heap.size 4 i0 (.bool false) 1 1 Try.underlying33 hi hz0 hz1 hz2 rfl (by decide) _ _ _ rfl own3 ⟨ib, 0, none⟩ il.length icap' (cellsB il) rfl (by simp [cellsB]) cells3 (bools_one il) (by unfold maxLen; omega) (by omega) (by omega) ?_)
        intro v4 w4 own4 grow4 _
        have hb4 : Below w1.heap.size w1 w4 := below_app hb3 hb3.size (Nat.le_refl _) own3 grow4
        have HO1 : Hid (OwnBools w4 w1.heap.size v4 il) := by
          first | exact own4 | simpa using own4
        have HB4 : Hid (Below w1.heap.size w1 w4) := hb4
        have y1 := x1.below hb4 x1.lt
        obtain ⟨q0, q1, q2⟩ := y1.cells
        have qh := y1.heap
        have ql := y1.lt
        clear own3 own4 grow3 grow4 hb2 hb3 hb4 hs2 hs3 cells3 HIC c0 c1 c2 hh hlt1
        go_wp2_with fail
        clear q0 q1 q2 qh ql y1
        go_loopw [6, 27] (fun v i wr => ∃ j : Nat, j ≤ gs.length ∧ i = .int .i64 j ∧ Hid (OwnBools wr w1.heap.size v (runG (gs.take j) il)) ∧ Hid (Below w1.heap.size w1 wr)) (fun _ i _ => gs.length - (intOf i).toNat)
        case atStart => exact ⟨0, by omega, rfl, HO1, HB4⟩
        case round =>
          obtain ⟨j, hj, rfl, HO, HB⟩ := hrel
          have hszr := HB.out.size
          by_cases hlt : j < gs.length
          · obtain ⟨x, hx⟩ : ∃ x, gs[j]? = some x := ⟨gs[j], List.getElem?_eq_getElem hlt⟩
            obtain ⟨b, off, rfl, d0, d1, d2⟩ := HG.out wr (HB1.out.trans (HB.out.mono HB1.out.size)) j x hx
            have hgg := HGB.out j x hx
            have hol : (runG (gs.take j) il).length = il.length + j := by rw [runG_len, List.length_take_of_le (by omega)]
            have hnew : runG (gs.take (j + 1)) il = runG (gs.take j) il ++ [gateV (runG (gs.take j) il) x] := by
              rw [List.take_add_one, hx, runG_append]
              rfl
            have HNEW : Hid _ := hnew
            obtain ⟨k, xa, xb⟩ := x
            simp only at d0 d1 d2
            have HOg : Hid (OwnBools (wr.alloc (.cells #[.int .i64 k, .int .i64 xa, .int .i64 xb] 108)) w1.heap.size u6 (runG (gs.take j) il)) := World.ownsRow.alloc HO.out _
            have HBg : Hid (Below w1.heap.size w1 (wr.alloc (.cells #[.int .i64 k, .int .i64 xa, .int .i64 xb] 108))) := HB.out.alloc hszr _
            generalize hrun : runG (gs.take j) il = rl at *
            have g3 := carried_any (k, xa, xb) u6 rl (ins + j) (by omega) (by omega) hgg (wr.alloc (.cells #[.int .i64 k, .int .i64 xa, .int .i64 xb] 108)) (bools_of_own (by omega) HOg.out)
            unfold gv at g3
            simp only at g3
            generalize hz : gateV rl (k, xa, xb) = z at *
            have HNX : Hid (∀ (v2 : Value) (w2 : World), w2.ownsRow w1.heap.size 4 1 v2 (rl.length + 1) (cellsB rl ++ [.bool z]) → OwnBools w2 w1.heap.size v2 (runG (gs.take (j + 1)) il)) := by
              intro v2 w2 ho2
              show OwnBools w2 w1.heap.size v2 (runG (gs.take (j + 1)) il)
              rw [HNEW.out]
              unfold OwnBools
              rw [List.length_append, List.length_singleton, cellsB_append]
              exact ho2
            obtain ⟨va, vcp, hv⟩ := own_shape HO.out
            subst hv
            have HHOL : Hid (rl.length = il.length + j) := hol
            have hrl : rl.length ≤ 400 := by omega
            clear hx hnew HNEW HG HGB HO1 HB4 hrun hz hgg hol HO
            generalize hrn : rl.length = rn at *
            go_wp2_with fail
            refine g3.mono ?_
            rintro e w5 ⟨rfl, hs5⟩
            have HB5 : Hid (Below w1.heap.size w1 w5) := HBg.out.trans (hs5.mono HBg.out.size)
            have own5 : w5.ownsRow w1.heap.size 4 1 (.slice va rn vcp) rn (cellsB rl) := by
              have h5 := owns_below HOg.out hs5
              rw [hrn] at h5
              exact h5
            have own6 := own5.alloc (.cells #[.bool z] 4)
            have hb6 : Below w1.heap.size w1 (w5.alloc (.cells #[.bool z] 4)) := HB5.out.alloc HB5.out.size _
            have hs6 := hb6.size
            clear g3 hs5 HOg HBg own5
            go_wp2_with (at_builtin; refine wpList_append_own _ rfl _ _ 33 rfl w1.heap.size 4 i0 (.bool false) 1 1 Try.underlying33 hi hz0 hz1 hz2 rfl (by decide) _ _ _ rfl own6 ⟨w5.heap.size, 0, none⟩ 1 1 [.bool z] rfl rfl (oneB_cells w5 z) (bools_one [z]) (by unfold maxLen; omega) (by omega) (by omega) ?_)
            intro v2 w2' own7 grow7 _
            have HB7 : Hid (Below w1.heap.size w1 w2') := below_app hb6 (by omega) (Nat.le_refl _) own6 grow7
            have HO7 : Hid (OwnBools w2' w1.heap.size v2 (runG (gs.take (j + 1)) il)) := HNX.out v2 w2' own7
            clear own6 own7 grow7 hb6 HNX
            go_wp2_with fail
            go_roundw
            case rel => exact ⟨j + 1, by omega, by go_num, HO7, HB7⟩
            case measure => simp [intOf]; omega
          · obtain rfl : j = gs.length := by omega
            have HN : Hid (OwnBools wr w1.heap.size u6 (runG gs il)) := by
              have h1 := HO.out
              rw [List.take_length] at h1
              exact h1
            have HB2 : Hid (Below w.heap.size w wr) := HB1.out.trans (HB.out.mono HB1.out.size)
            have hw1 := HB1.out.size
            clear HO HB HG HGB HO1 HB4
            go_wp2_with fail
            go_ret2
            exact ⟨_, rfl, own_base HN.out hw1, HB2.out⟩
    · rw [if_neg (fun e => hl e.2), decide_eq_false (fun e => hl e.2)]
      have hne : ((il.length : Int) != c.1) = true := bne_iff_ne.2 hl
      subst hiv'
      generalize il.length = ilen at *
      go_enter Try.func24, Try.ntmps24
      go_wp2_with fail
      refine g1.mono ?_
      rintro e w1 ⟨rfl, hs⟩
      have HB : Hid (Below w.heap.size w w1) := Below.step hb0 hb0.size hs
      have x1 := x0.below hs (by omega)
      obtain ⟨c0, c1, c2⟩ := x1.cells
      have hlt1 := x1.lt
      clear g1 hiv hil hat hg h1 h2
      go_wp2_with fail
      go_ret2
      exact ⟨_, rfl, World.ownsRow_nil _ _ _ _, HB.out⟩
end Go.Proofs.Ytmjeaceabjinfaa

namespace Go.Proofs.Ytmjeaceabjinfaa
open Go Go.RowKit
open M
set_option linter.unusedVariables false
set_option linter.unusedSimpArgs false

theorem onW_in (c n s d : Int) (hd : 0 ≤ d ∧ d < s) (hc : 0 ≤ c ∧ c < n) : ∀ k : Nat, 0 ≤ onW c n s d k ∧ onW c n s d k < n + s * k
  | 0 => by
    show 0 ≤ c ∧ c < n + s * ((0 : Nat) : Int)
    simpa using hc
  | k + 1 => by
    have h := onW_in (n + d) (n + s) s d hd ⟨by omega, by omega⟩ k
    rw [onW_next c n s d k] at h
    have e : s * ((k + 1 : Nat) : Int) = s + s * (k : Int) := by rw [Int.natCast_add, Int.mul_add]; simp; omega
    rw [e]
    omega
theorem const_keep (g : Gt) (o : List Bool) (ws : List Int) (h : ∀ x ∈ ws, 0 ≤ x ∧ x < o.length) : carryN (o ++ [gateV o g]) ws = carryN o ws := carryN_keep [g] o ws h
/-- the wires of less and of equal, and what the law asks of them -/
theorem less_math {c : Ci} {a b : List Int} (hB : lessB c a b = true) (hE : eqB (lessR c a b) a b = true) :
    0 ≤ c.1 ∧ c.1 ≤ 16 ∧ a.length ≤ 16 ∧ a.length = b.length ∧ (eqR (lessR c a b) a b).1 = c.1 ∧ goodC (eqR (lessR c a b) a b) = true ∧
    ∀ l : List Bool, (l.length : Int) = c.1 → wiresB (eqR (lessR c a b) a b) l = true ∧
      ((wiresL (eqR (lessR c a b) a b) l).length : Int) = c.2.1.length + c.1 + 2 + 9 * a.length ∧ c.2.1.length ≤ 300 ∧
      (∀ x ∈ a, 0 ≤ x ∧ x < (wiresL (eqR (lessR c a b) a b) l).length) ∧ (∀ x ∈ b, 0 ≤ x ∧ x < (wiresL (eqR (lessR c a b) a b) l).length) ∧
      (0 ≤ lessW c a b ∧ lessW c a b < (wiresL (eqR (lessR c a b) a b) l).length) ∧ (0 ≤ eqW (lessR c a b) a b ∧ eqW (lessR c a b) a b < (wiresL (eqR (lessR c a b) a b) l).length) ∧
      at' (wiresL (eqR (lessR c a b) a b) l) (lessW c a b) = decide (carryN (wiresL (eqR (lessR c a b) a b) l) a < carryN (wiresL (eqR (lessR c a b) a b) l) b) ∧
      at' (wiresL (eqR (lessR c a b) a b) l) (eqW (lessR c a b) a b) = decide (carryN (wiresL (eqR (lessR c a b) a b) l) a = carryN (wiresL (eqR (lessR c a b) a b) l) b) := by
  have hR : lessR c a b = lessC c a b := by unfold lessR; rw [if_pos hB]
  have hW : lessW c a b = onW (wiresN c) (wiresN c + 1) 6 5 a.length := by unfold lessW; rw [if_pos hB]
  rw [hR] at hE ⊢
  have hR2 : eqR (lessC c a b) a b = eqC (lessC c a b) a b := by unfold eqR; rw [if_pos hE]
  have hW2 : eqW (lessC c a b) a b = onW (wiresN (lessC c a b)) (wiresN (lessC c a b) + 1) 3 2 a.length := by unfold eqW; rw [if_pos hE]
  rw [hR2, hW, hW2]
  unfold lessB at hB
  unfold eqB at hE
  rw [Bool.and_eq_true] at hB hE
  obtain ⟨hs, _⟩ := hB
  obtain ⟨_, hg⟩ := hE
  obtain ⟨gc, hab, h16, ha, hb⟩ := sides_parts hs
  obtain ⟨g1, g2, g3, g4, g5, g6⟩ := goodC_ins gc
  have hlL := lessG_len a b (wiresN c) (wiresN c + 1) hab
  have hlE := eqG_len a b (wiresN (lessC c a b)) (wiresN (lessC c a b) + 1) hab
  have hWN : wiresN c = c.1 + c.2.1.length := rfl
  have hWX : wiresN (lessC c a b) = wiresN c + 1 + 6 * a.length := by
    show c.1 + ((c.2.1 ++ [(1, 0, 0)] ++ (lessG a b (wiresN c) (wiresN c + 1)).1).length : Int) = _
    simp only [List.length_append, List.length_cons, List.length_nil]
    rw [hlL, hWN]
    omega
  have hLw := lessG_wire a b (wiresN c) (wiresN c + 1) hab
  have hEw := eqG_wire a b (wiresN (lessC c a b)) (wiresN (lessC c a b) + 1) hab
  have i1 := onW_in (wiresN c) (wiresN c + 1) 6 5 (by omega) (by omega) a.length
  have i2 := onW_in (wiresN (lessC c a b)) (wiresN (lessC c a b) + 1) 3 2 (by omega) (by omega) a.length
  refine ⟨g1, g2, h16, hab, rfl, hg, fun l hl => ?_⟩
  have hwb : wiresB (eqC (lessC c a b) a b) l = true := by unfold wiresB; exact decide_eq_true ⟨hg, hl⟩
  obtain ⟨o, ho⟩ : ∃ o, runG c.2.1 l = o := ⟨_, rfl⟩
  obtain ⟨o1, ho1⟩ : ∃ o1, o ++ [gateV o (1, 0, 0)] = o1 := ⟨_, rfl⟩
  obtain ⟨o2, ho2⟩ : ∃ o2, runG (lessG a b (wiresN c) (wiresN c + 1)).1 o1 = o2 := ⟨_, rfl⟩
  obtain ⟨o3, ho3⟩ : ∃ o3, o2 ++ [gateV o2 (1, 1, 0)] = o3 := ⟨_, rfl⟩
  have hwl : wiresL (eqC (lessC c a b) a b) l = runG (eqG a b (wiresN (lessC c a b)) (wiresN (lessC c a b) + 1)).1 o3 := by
    unfold wiresL
    rw [if_pos ⟨hg, hl⟩]
    show runG (c.2.1 ++ [(1, 0, 0)] ++ (lessG a b (wiresN c) (wiresN c + 1)).1 ++ [(1, 1, 0)] ++ (eqG a b (wiresN (lessC c a b)) (wiresN (lessC c a b) + 1)).1) l = _
    rw [runG_append, runG_append, runG_append, runG_append, ho]
    show runG _ (runG [(1, 1, 0)] (runG _ (o ++ [gateV o (1, 0, 0)]))) = _
    rw [ho1, ho2]
    show runG _ (o2 ++ [gateV o2 (1, 1, 0)]) = _
    rw [ho3]
  have len0 : (o.length : Int) = wiresN c := by rw [← ho, runG_len, hWN]; omega
  have len1 : (o1.length : Int) = wiresN c + 1 := by rw [← ho1]; simp; omega
  have len2 : (o2.length : Int) = wiresN (lessC c a b) := by rw [← ho2, runG_len, hlL, hWX]; omega
  have len3 : (o3.length : Int) = wiresN (lessC c a b) + 1 := by rw [← ho3]; simp; omega
  have v1 : at' o1 (wiresN c) = false := by rw [← ho1, at_new o _ _ (by omega)]; rfl
  have v3 : at' o3 (wiresN (lessC c a b)) = true := by rw [← ho3, at_new o2 _ _ (by omega)]; rfl
  have in1 : ∀ x ∈ a, 0 ≤ x ∧ x < o1.length := fun x hx => by have := ha x hx; omega
  have in1b : ∀ x ∈ b, 0 ≤ x ∧ x < o1.length := fun x hx => by have := hb x hx; omega
  have in2 : ∀ x ∈ a, 0 ≤ x ∧ x < o2.length := fun x hx => by have := ha x hx; omega
  have in2b : ∀ x ∈ b, 0 ≤ x ∧ x < o2.length := fun x hx => by have := hb x hx; omega
  have in3 : ∀ x ∈ a, 0 ≤ x ∧ x < o3.length := fun x hx => by have := ha x hx; omega
  have in3b : ∀ x ∈ b, 0 ≤ x ∧ x < o3.length := fun x hx => by have := hb x hx; omega
  have L := lessG_less a b (wiresN c) o1 hab in1 in1b (by omega)
  rw [len1, hLw, ho2, v1] at L
  have E := eqG_eq a b (wiresN (lessC c a b)) o3 hab in3 in3b (by omega)
  rw [len3, hEw, v3] at E
  have kA2 : carryN o2 a = carryN o1 a := by rw [← ho2]; exact carryN_keep _ _ _ in1
  have kB2 : carryN o2 b = carryN o1 b := by rw [← ho2]; exact carryN_keep _ _ _ in1b
  have kA3 : carryN o3 a = carryN o2 a := by rw [← ho3]; exact const_keep _ _ _ in2
  have kB3 : carryN o3 b = carryN o2 b := by rw [← ho3]; exact const_keep _ _ _ in2b
  have kA4 := carryN_keep (eqG a b (wiresN (lessC c a b)) (wiresN (lessC c a b) + 1)).1 o3 a in3
  have kB4 := carryN_keep (eqG a b (wiresN (lessC c a b)) (wiresN (lessC c a b) + 1)).1 o3 b in3b
  have aL3 : at' o3 (onW (wiresN c) (wiresN c + 1) 6 5 a.length) = at' o2 (onW (wiresN c) (wiresN c + 1) 6 5 a.length) := by
    rw [← ho3]
    exact at_keep [(1, 1, 0)] o2 _ (by omega) (by omega)
  have aL4 := at_keep (eqG a b (wiresN (lessC c a b)) (wiresN (lessC c a b) + 1)).1 o3 (onW (wiresN c) (wiresN c + 1) 6 5 a.length) (by omega) (by omega)
  have hlen : (runG (eqG a b (wiresN (lessC c a b)) (wiresN (lessC c a b) + 1)).1 o3).length = o3.length + 3 * a.length := by rw [runG_len, hlE]
  rw [hwl]
  refine ⟨hwb, by omega, g3, fun x hx => ?_, fun x hx => ?_, by omega, by omega, ?_, ?_⟩
  · have := in3 x hx; omega
  · have := in3b x hx; omega
  · rw [aL4, aL3, L, kA4, kB4, kA3, kB3, kA2, kB2]; simp
  · rw [E, kA4, kB4]; simp
set_option maxRecDepth 100000 in
set_option maxHeartbeats 4000000 in
theorem drawLessGates_any (ad : Option Addr) (l cc : Nat) (w : World) (h : CodeOk w.heap.size w (.slice ad l cc)) :
    Calls Try.prog 17 #[.slice ad l cc] w fun e w' => ∃ (cv av bv : Value) (c : Ci) (a b : List Int), e = .returned (.tuple #[cv, av, bv]) ∧ AtC w' cv c ∧ AtIS w' av a ∧ AtIS w' bv b ∧ CiOk c ∧ a.length ≤ 20 ∧ b.length ≤ 20 ∧ Below w.heap.size w w' := by
  have hb0 : Below w.heap.size w (w.alloc (.cells #[.int .i64 0, .slice none 0 0, .slice none 0 0] 27)) := (Below.refl _ _).alloc (Nat.le_refl _) _
  have hk : CodeOk (w.alloc (.cells #[.int .i64 0, .slice none 0 0, .slice none 0 0] 27)).heap.size (w.alloc (.cells #[.int .i64 0, .slice none 0 0, .slice none 0 0] 27)) (.slice ad l cc) := (h.below hb0).up (by rw [World.size_alloc]; omega)
  have x0 := box3_alloc w 27 (.int .i64 0) (.slice none 0 0) (.slice none 0 0)
  have g := drawAddGates_own ad l cc _ hk
  rw [World.size_alloc] at hk
  have hsz : (w.alloc (.cells #[.int .i64 0, .slice none 0 0, .slice none 0 0] 27)).heap.size = w.heap.size + 1 := World.size_alloc _ _
  generalize hw0 : w.alloc (.cells #[.int .i64 0, .slice none 0 0, .slice none 0 0] 27) = w0 at *
  have HW0 : Hid (w.alloc (.cells #[.int .i64 0, .slice none 0 0, .slice none 0 0] 27) = w0) := hw0
  clear hw0
  go_enter Try.func17, Try.ntmps17
  go_wp2_with fail
  rw [HW0.out]
  refine g.mono ?_
  rintro e w1 ⟨ga, oa, av, bv, c, a, b, k, rfl, hG, hO, hA, hB, hfk, hck, hla, hlb, hs1⟩
  have hb1 := hb0.trans (hs1.mono hb0.size)
  have r1 := x0.below hs1 (by omega)
  have hs1s := hs1.size
  rw [hsz] at hG hO hA hB
  obtain ⟨gp, gcap, rfl⟩ := own_shape hG
  obtain ⟨op, ocap, rfl⟩ := own_shape hO
  obtain ⟨ap, acap, rfl⟩ := own_shape hA
  obtain ⟨bp, bcap, rfl⟩ := own_shape hB
  obtain ⟨y0, y1, y2⟩ := r1.cells
  have yh := r1.heap
  have yl := r1.lt
  have yf0 := r1.frozen 0
  have yf1 := r1.frozen 1
  have yf2 := r1.frozen 2
  have sets := fun {e : TypeId} {s : Nat} {v : Value} {k : Nat} {xs : List Value} (ho : w1.ownsRow (w.heap.size + 1) e s v k xs) => World.ownsRow.alloc (own_set (b := w.heap.size) (o := 2) (u := .slice op c.2.2.length ocap) (own_set (b := w.heap.size) (o := 1) (u := .slice gp c.2.1.length gcap) (own_set (b := w.heap.size) (o := 0) (u := .int .i64 c.1) ho (Nat.lt_succ_self _)) (Nat.lt_succ_self _)) (Nat.lt_succ_self _)) (.cells #[.int .i64 c.1, .slice gp c.2.1.length gcap, .slice op c.2.2.length ocap] 27)
  have KG : Hid _ := sets hG
  have KO : Hid _ := sets hO
  have KA : Hid _ := sets hA
  have KB : Hid _ := sets hB
  have HZ : Hid _ := (((r1.set0 (.int .i64 c.1)).set1 (.slice gp c.2.1.length gcap)).set2 (.slice op c.2.2.length ocap)).alloc (.cells #[.int .i64 c.1, .slice gp c.2.1.length gcap, .slice op c.2.2.length ocap] 27)
  have hb2 := ((hb1.setCell (p := ⟨w.heap.size, 0, none⟩) (Nat.le_refl _) (.int .i64 c.1)).setCell (p := ⟨w.heap.size, 1, none⟩) (Nat.le_refl _) (.slice gp c.2.1.length gcap)).setCell (p := ⟨w.heap.size, 2, none⟩) (Nat.le_refl _) (.slice op c.2.2.length ocap)
  have HBl : Hid _ := hb2.alloc hb2.size (.cells #[.int .i64 c.1, .slice gp c.2.1.length gcap, .slice op c.2.2.length ocap] 27)
  obtain ⟨hfit, hgk, hc1, hc2⟩ := hck
  clear sets hG hO hA hB hs1 x0 g hk h hb0 hb1 hb2 r1
  go_wp2_with fail
  refine bodyPost_ret (results_c2 rfl _ _ w.heap.size 27 _ (0, 0) _ rfl HZ.out.heap Try.underlying27 rfl (by kernel_rfl)) rfl ?_
  exact ⟨_, _, _, c, a, b, rfl, ⟨hfit, _, _, rfl, gates_of_own hgk (by omega) KG.out, ints_of_own (by omega) KO.out, strong_of KG.out, strong_of KO.out⟩, ⟨ints_of_own (by omega) KA.out, strong_of KA.out⟩, ⟨ints_of_own (by omega) KB.out, strong_of KB.out⟩, ⟨hfit, hgk, hc1, hc2⟩, hla, hlb, HBl.out⟩
end Go.Proofs.Ytmjeaceabjinfaa

namespace Go.Proofs.Ytmjeaceabjinfaa
open Go Go.RowKit
open M
set_option linter.unusedVariables false

theorem wiresL_len (c : Ci) (il : List Bool) (h : il.length ≤ 1048576) : (wiresL c il).length ≤ 1048576 := by
  unfold wiresL
  split
  · rename_i hg
    obtain ⟨_, h1, h2, _⟩ := goodC_ins hg.1
    rw [runG_len]
    omega
  · simp
theorem sAllWires_bs (v iv : Value) (c : Ci) (il : List Bool) (w : World) (h : AtC w v c) (hiv : AtBS w iv il) :
    Calls Try.prog 88 #[v, iv] w fun e w' => ∃ r, e = .returned (.tuple #[r, .bool (wiresB c il)]) ∧ OwnBS w' w.heap.size w'.heap.size r (wiresL c il) ∧ Below w.heap.size w w' := by
  refine (sAllWires_any v iv c il w h hiv).mono ?_
  rintro e w' ⟨r, he, ho, hb⟩
  exact ⟨r, he, rowIn_of ho, hb⟩
theorem iAllWires_bs (v iv : Value) (c : Ci) (il : List Bool) (w : World) (h : AtC w v c) (hiv : AtBS w iv il) :
    Calls Try.prog 24 #[v, iv] w fun e w' => ∃ r, e = .returned (.tuple #[r, .bool (wiresB c il)]) ∧ OwnBS w' w.heap.size w'.heap.size r (wiresL c il) ∧ Below w.heap.size w w' := by
  refine (iAllWires_any v iv c il w h hiv).mono ?_
  rintro e w' ⟨r, he, ho, hb⟩
  exact ⟨r, he, rowIn_of ho, hb⟩
end Go.Proofs.Ytmjeaceabjinfaa

namespace Go.Proofs.Ytmjeaceabjinfaa
open Go Go.RowKit
open M
set_option linter.unusedVariables false

def outsL (c : Ci) (il : List Bool) : List Bool := if goodC c = true ∧ (il.length : Int) = c.1 then c.2.2.map (at' (runG c.2.1 il)) else []
theorem outsL_len (c : Ci) (il : List Bool) : (outsL c il).length ≤ 1048576 := by
  unfold outsL
  split
  · rename_i hg
    obtain ⟨_, _, _, h3, _⟩ := goodC_ins hg.1
    rw [List.length_map]
    omega
  · simp
set_option maxRecDepth 100000 in
set_option maxHeartbeats 2000000 in
theorem sRunCircuit_any (v iv : Value) (c : Ci) (il : List Bool) (w : World) (h : AtC w v c) (hiv : AtBS w iv il) :
    Calls Try.prog 28 #[v, iv] w fun e w' => ∃ r, e = .returned (.tuple #[r, .bool (wiresB c il)]) ∧ OwnBS w' w.heap.size w'.heap.size r (outsL c il) ∧ Below w.heap.size w w' := by
  have hat := h.at
  obtain ⟨_, gw, o, hv, h1, h2, _⟩ := id h
  obtain ⟨ga, gc, hgw⟩ := h1.shape
  obtain ⟨oa, oc, ho, hoc⟩ := h2.opened
  subst hgw ho hv
  obtain ⟨ia, icap, hiv'⟩ := hiv.1.shape
  have hb0 : Below w.heap.size w (w.alloc (.cells #[.int .i64 c.1, .slice ga c.2.1.length gc, .slice oa c.2.2.length oc] 27)) := (Below.refl _ _).alloc (Nat.le_refl _) _
  have x0 := box3_alloc w 27 (.int .i64 c.1) (.slice ga c.2.1.length gc) (.slice oa c.2.2.length oc)
  have g1 := sAllWires_any _ _ c il _ (h.below hb0) (hiv.below hb0)
  have hsz : (w.alloc (.cells #[.int .i64 c.1, .slice ga c.2.1.length gc, .slice oa c.2.2.length oc] 27)).heap.size = w.heap.size + 1 := by simp only [World.size_alloc]
  by_cases hgood : goodC c = true ∧ (il.length : Int) = c.1
  · have e1 : outsL c il = c.2.2.map (at' (runG c.2.1 il)) := by unfold outsL; rw [if_pos hgood]
    have e2 : wiresB c il = true := by unfold wiresB; exact decide_eq_true hgood
    have e3 : wiresL c il = runG c.2.1 il := by unfold wiresL; rw [if_pos hgood]
    rw [e2, e3] at g1
    rw [e1, e2]
    obtain ⟨hI0, hI1, hG, hO, _, hout⟩ := goodC_ins hgood.1
    have hrl : (runG c.2.1 il).length = il.length + c.2.1.length := runG_len _ _
    have hlen := hgood.2
    obtain ⟨ins, gs, os⟩ := c
    simp only at *
    have HOC : Hid (∀ (w1 : World), Below w.heap.size w w1 → ∀ (i : Nat) (x : Int), os[i]? = some x → ∃ b off : Nat, oa = some ⟨b, off, none⟩ ∧ w1.cell? ⟨b, off + i, none⟩ = some (.int .i64 x)) := fun w1 hb i x hx => by
      obtain ⟨b, off, e, hlt, hc⟩ := hoc i x hx
      exact ⟨b, off, e, by rw [hb.cell (p := ⟨b, off + i, none⟩) hlt]; exact hc⟩
    have HOU : Hid (∀ x ∈ os, 0 ≤ x ∧ x < ins + gs.length) := hout
    obtain ⟨i0, hi, hz0, hz1, hz2⟩ := info_parts infoBool
    subst hiv'
    clear hoc hout h1 h2 hat e1 e2 e3 hgood h hiv
    generalize runG gs il = rl at *
    have hrl2 : rl.length ≤ 400 := by omega
    have hrl3 : ins + (gs.length : Int) = rl.length := by omega
    clear hlen
    generalize il.length = iln at *
    go_enter Try.func28, Try.ntmps28
    go_wp2_with fail
    refine g1.mono ?_
    rintro e w1 ⟨r, rfl, hor, hs⟩
    have hb1 := Below.step hb0 hb0.size hs
    have x1 := x0.below hs (by omega)
    obtain ⟨c0, c1, c2⟩ := x1.cells
    have hh := x1.heap
    have hlt1 := x1.lt
    obtain ⟨ra, rcap, hr⟩ := own_shape hor
    subst hr
    have HB1 : Hid (Below w.heap.size w w1) := hb1
    have HR : Hid (∀ w2 : World, Below w1.heap.size w1 w2 → BoolsAt w2 (.slice ra rl.length rcap) rl) := fun w2 hb => (bools_of_own (by omega) hor).below hb
    clear g1 hor hs hb0 x0 hb1
    go_wp2_with fail
    clear c0 c1 c2 hh hlt1
    go_loopw [8, 22] (fun v i wr => ∃ j : Nat, j ≤ os.length ∧ i = .int .i64 j ∧ Hid (OwnBools wr w1.heap.size v ((os.take j).map (at' rl))) ∧ Hid (Below w1.heap.size w1 wr)) (fun _ i _ => os.length - (intOf i).toNat)
    case atStart => exact ⟨0, by omega, rfl, World.ownsRow_nil _ _ _ _, Below.refl _ _⟩
    case round =>
      obtain ⟨j, hj, rfl, HO, HB⟩ := hrel
      have hszr := HB.out.size
      by_cases hlt : j < os.length
      · obtain ⟨x, hx⟩ : ∃ x, os[j]? = some x := ⟨os[j], List.getElem?_eq_getElem hlt⟩
        obtain ⟨b, off, rfl, d0⟩ := HOC.out wr (HB1.out.trans (HB.out.mono HB1.out.size)) j x hx
        have hxr := HOU.out x (List.mem_of_getElem? hx)
        obtain ⟨hx0, hx1⟩ := hxr
        obtain ⟨vg, voff, vcp, hvv, hvl, hcell⟩ := (HR.out wr HB.out).at hx0 (by omega)
        injection hvv with ea eb ec
        subst ea ec
        obtain ⟨A, rfl⟩ := Int.eq_ofNat_of_zero_le hx0
        rw [Int.toNat_natCast] at hcell
        have hml : ((os.take j).map (at' rl)).length = j := by rw [List.length_map, List.length_take_of_le (by omega)]
        have HNX : Hid (∀ (v2 : Value) (w2 : World), w2.ownsRow w1.heap.size 4 1 v2 (j + 1) (cellsB ((os.take j).map (at' rl)) ++ [.bool (at' rl A)]) → OwnBools w2 w1.heap.size v2 ((os.take (j + 1)).map (at' rl))) := by
          intro v2 w2 ho2
          show OwnBools w2 w1.heap.size v2 ((os.take (j + 1)).map (at' rl))
          rw [List.take_add_one, hx, List.map_append]
          unfold OwnBools
          rw [List.length_append, hml, cellsB_append]
          exact ho2
        have own5 : wr.ownsRow w1.heap.size 4 1 u8 j (cellsB ((os.take j).map (at' rl))) := by
          have h5 := HO.out
          unfold OwnBools at h5
          rw [hml] at h5
          exact h5
        obtain ⟨va, vc5, hv5⟩ := own_shape own5
        subst hv5
        generalize at' rl A = z at *
        have own6 := own5.alloc (.cells #[.bool z] 4)
        have hb6 : Below w1.heap.size w1 (wr.alloc (.cells #[.bool z] 4)) := HB.out.alloc hszr _
        have hs6 := hb6.size
        have hA : (A : Int) < rl.length := by omega
        clear hx HOC HOU HR HO own5 hml HB hx1
        generalize (cellsB ((os.take j).map (at' rl))) = cb at *
        generalize rl.length = rln at *
        go_wp2_with (at_builtin; refine wpList_append_own _ rfl _ _ 33 rfl w1.heap.size 4 i0 (.bool false) 1 1 Try.underlying33 hi hz0 hz1 hz2 rfl (by decide) _ _ _ rfl own6 ⟨wr.heap.size, 0, none⟩ 1 1 [.bool z] rfl rfl (oneB_cells wr z) (bools_one [z]) (by unfold maxLen; omega) (by omega) (by omega) ?_)
        intro v2 w2' own7 grow7 _
        have HB7 : Hid (Below w1.heap.size w1 w2') := below_app hb6 (by omega) (Nat.le_refl _) own6 grow7
        have HO7 : Hid (OwnBools w2' w1.heap.size v2 ((os.take (j + 1)).map (at' rl))) := HNX.out v2 w2' own7
        clear own6 own7 grow7 hb6 HNX
        go_wp2_with fail
        go_roundw
        case rel => exact ⟨j + 1, by omega, by go_num, HO7, HB7⟩
        case measure => simp [intOf]; omega
      · obtain rfl : j = os.length := by omega
        have HN : Hid (OwnBools wr w1.heap.size u8 (os.map (at' rl))) := by
          have h1 := HO.out
          rw [List.take_length] at h1
          exact h1
        have HB2 : Hid (Below w.heap.size w wr) := HB1.out.trans (HB.out.mono HB1.out.size)
        have hw1 := HB1.out.size
        clear HO HB HOC HOU HR
        go_wp2_with fail
        go_ret2
        exact ⟨_, rfl, rowIn_of (own_base HN.out hw1), HB2.out⟩
  · have e1 : outsL c il = [] := by unfold outsL; rw [if_neg hgood]
    have e2 : wiresB c il = false := by unfold wiresB; exact decide_eq_false hgood
    have e3 : wiresL c il = [] := by unfold wiresL; rw [if_neg hgood]
    rw [e2, e3] at g1
    rw [e1, e2]
    subst hiv'
    clear hoc h1 h2 hat e1 e2 e3 hgood h hiv
    generalize il.length = iln at *
    go_enter Try.func28, Try.ntmps28
    go_wp2_with fail
    refine g1.mono ?_
    rintro e w1 ⟨r, rfl, hor, hs⟩
    obtain ⟨ra, rcap, hr⟩ := own_shape hor
    subst hr
    have HB : Hid (Below w.heap.size w w1) := Below.step hb0 hb0.size hs
    clear g1 hor hs
    go_wp2_with fail
    go_ret2
    exact ⟨_, rfl, rowIn_of (World.ownsRow_nil _ _ _ _), HB.out⟩
set_option maxRecDepth 100000 in
set_option maxHeartbeats 2000000 in
theorem iRunCircuit_any (v iv : Value) (c : Ci) (il : List Bool) (w : World) (h : AtC w v c) (hiv : AtBS w iv il) :
    Calls Try.prog 27 #[v, iv] w fun e w' => ∃ r, e = .returned (.tuple #[r, .bool (wiresB c il)]) ∧ OwnBS w' w.heap.size w'.heap.size r (outsL c il) ∧ Below w.heap.size w w' := by
  have hat := h.at
  obtain ⟨_, gw, o, hv, h1, h2, _⟩ := id h
  obtain ⟨ga, gc, hgw⟩ := h1.shape
  obtain ⟨oa, oc, ho, hoc⟩ := h2.opened
  subst hgw ho hv
  obtain ⟨ia, icap, hiv'⟩ := hiv.1.shape
  have hb0 : Below w.heap.size w (w.alloc (.cells #[.int .i64 c.1, .slice ga c.2.1.length gc, .slice oa c.2.2.length oc] 27)) := (Below.refl _ _).alloc (Nat.le_refl _) _
  have x0 := box3_alloc w 27 (.int .i64 c.1) (.slice ga c.2.1.length gc) (.slice oa c.2.2.length oc)
  have g1 := iAllWires_any _ _ c il _ (h.below hb0) (hiv.below hb0)
  have hsz : (w.alloc (.cells #[.int .i64 c.1, .slice ga c.2.1.length gc, .slice oa c.2.2.length oc] 27)).heap.size = w.heap.size + 1 := by simp only [World.size_alloc]
  by_cases hgood : goodC c = true ∧ (il.length : Int) = c.1
  · have e1 : outsL c il = c.2.2.map (at' (runG c.2.1 il)) := by unfold outsL; rw [if_pos hgood]
    have e2 : wiresB c il = true := by unfold wiresB; exact decide_eq_true hgood
    have e3 : wiresL c il = runG c.2.1 il := by unfold wiresL; rw [if_pos hgood]
    rw [e2, e3] at g1
    rw [e1, e2]
    obtain ⟨hI0, hI1, hG, hO, _, hout⟩ := goodC_ins hgood.1
    have hrl : (runG c.2.1 il).length = il.length + c.2.1.length := runG_len _ _
    have hlen := hgood.2
    obtain ⟨ins, gs, os⟩ := c
    simp only at *
    have HOC : Hid (∀ (w1 : World), Below w.heap.size w w1 → ∀ (i : Nat) (x : Int), os[i]? = some x → ∃ b off : Nat, oa = some ⟨b, off, none⟩ ∧ w1.cell? ⟨b, off + i, none⟩ = some (.int .i64 x)) := fun w1 hb i x hx => by
      obtain ⟨b, off, e, hlt, hc⟩ := hoc i x hx
      exact ⟨b, off, e, by rw [hb.cell (p := ⟨b, off + i, none⟩) hlt]; exact hc⟩
    have HOU : Hid (∀ x ∈ os, 0 ≤ x ∧ x < ins + gs.length) := hout
    obtain ⟨i0, hi, hz0, hz1, hz2⟩ := info_parts infoBool
    subst hiv'
    clear hoc hout h1 h2 hat e1 e2 e3 hgood h hiv
    generalize runG gs il = rl at *
    have hrl2 : rl.length ≤ 400 := by omega
    have hrl3 : ins + (gs.length : Int) = rl.length := by omega
    clear hlen
    generalize il.length = iln at *
    go_enter Try.func27, Try.ntmps27
    go_wp2_with fail
    refine g1.mono ?_
    rintro e w1 ⟨r, rfl, hor, hs⟩
    have hb1 := Below.step hb0 hb0.size hs
    have x1 := x0.below hs (by omega)
    obtain ⟨c0, c1, c2⟩ := x1.cells
    have hh := x1.heap
    have hlt1 := x1.lt
    obtain ⟨ra, rcap, hr⟩ := own_shape hor
    subst hr
    have HB1 : Hid (Below w.heap.size w w1) := hb1
    have HR : Hid (∀ w2 : World, Below w1.heap.size w1 w2 → BoolsAt w2 (.slice ra rl.length rcap) rl) := fun w2 hb => (bools_of_own (by omega) hor).below hb
    clear g1 hor hs hb0 x0 hb1
    go_wp2_with fail
    clear c0 c1 c2 hh hlt1
    go_loopw [8, 22] (fun v i wr => ∃ j : Nat, j ≤ os.length ∧ i = .int .i64 j ∧ Hid (OwnBools wr w1.heap.size v ((os.take j).map (at' rl))) ∧ Hid (Below w1.heap.size w1 wr)) (fun _ i _ => os.length - (intOf i).toNat)
    case atStart => exact ⟨0, by omega, rfl, World.ownsRow_nil _ _ _ _, Below.refl _ _⟩
    case round =>
      obtain ⟨j, hj, rfl, HO, HB⟩ := hrel
      have hszr := HB.out.size
      by_cases hlt : j < os.length
      · obtain ⟨x, hx⟩ : ∃ x, os[j]? = some x := ⟨os[j], List.getElem?_eq_getElem hlt⟩
        obtain ⟨b, off, rfl, d0⟩ := HOC.out wr (HB1.out.trans (HB.out.mono HB1.out.size)) j x hx
        have hxr := HOU.out x (List.mem_of_getElem? hx)
        obtain ⟨hx0, hx1⟩ := hxr
        obtain ⟨vg, voff, vcp, hvv, hvl, hcell⟩ := (HR.out wr HB.out).at hx0 (by omega)
        injection hvv with ea eb ec
        subst ea ec
        obtain ⟨A, rfl⟩ := Int.eq_ofNat_of_zero_le hx0
        rw [Int.toNat_natCast] at hcell
        have hml : ((os.take j).map (at' rl)).length = j := by rw [List.length_map, List.length_take_of_le (by omega)]
        have HNX : Hid (∀ (v2 : Value) (w2 : World), w2.ownsRow w1.heap.size 4 1 v2 (j + 1) (cellsB ((os.take j).map (at' rl)) ++ [.bool (at' rl A)]) → OwnBools w2 w1.heap.size v2 ((os.take (j + 1)).map (at' rl))) := by
          intro v2 w2 ho2
          show OwnBools w2 w1.heap.size v2 ((os.take (j + 1)).map (at' rl))
          rw [List.take_add_one, hx, List.map_append]
          unfold OwnBools
          rw [List.length_append, hml, cellsB_append]
          exact ho2
        have own5 : wr.ownsRow w1.heap.size 4 1 u8 j (cellsB ((os.take j).map (at' rl))) := by
          have h5 := HO.out
          unfold OwnBools at h5
          rw [hml] at h5
          exact h5
        obtain ⟨va, vc5, hv5⟩ := own_shape own5
        subst hv5
        generalize at' rl A = z at *
        have own6 := own5.alloc (.cells #[.bool z] 4)
        have hb6 : Below w1.heap.size w1 (wr.alloc (.cells #[.bool z] 4)) := HB.out.alloc hszr _
        have hs6 := hb6.size
        have hA : (A : Int) < rl.length := by omega
        clear hx HOC HOU HR HO own5 hml HB hx1
        generalize (cellsB ((os.take j).map (at' rl))) = cb at *
        generalize rl.length = rln at *
        go_wp2_with (at_builtin; refine wpList_append_own _ rfl _ _ 33 rfl w1.heap.size 4 i0 (.bool false) 1 1 Try.underlying33 hi hz0 hz1 hz2 rfl (by decide) _ _ _ rfl own6 ⟨wr.heap.size, 0, none⟩ 1 1 [.bool z] rfl rfl (oneB_cells wr z) (bools_one [z]) (by unfold maxLen; omega) (by omega) (by omega) ?_)
        intro v2 w2' own7 grow7 _
        have HB7 : Hid (Below w1.heap.size w1 w2') := below_app hb6 (by omega) (Nat.le_refl _) own6 grow7
        have HO7 : Hid (OwnBools w2' w1.heap.size v2 ((os.take (j + 1)).map (at' rl))) := HNX.out v2 w2' own7
        clear own6 own7 grow7 hb6 HNX
        go_wp2_with fail
        go_roundw
        case rel => exact ⟨j + 1, by omega, by go_num, HO7, HB7⟩
        case measure => simp [intOf]; omega
      · obtain rfl : j = os.length := by omega
        have HN : Hid (OwnBools wr w1.heap.size u8 (os.map (at' rl))) := by
          have h1 := HO.out
          rw [List.take_length] at h1
          exact h1
        have HB2 : Hid (Below w.heap.size w wr) := HB1.out.trans (HB.out.mono HB1.out.size)
        have hw1 := HB1.out.size
        clear HO HB HOC HOU HR
        go_wp2_with fail
        go_ret2
        exact ⟨_, rfl, rowIn_of (own_base HN.out hw1), HB2.out⟩
  · have e1 : outsL c il = [] := by unfold outsL; rw [if_neg hgood]
    have e2 : wiresB c il = false := by unfold wiresB; exact decide_eq_false hgood
    have e3 : wiresL c il = [] := by unfold wiresL; rw [if_neg hgood]
    rw [e2, e3] at g1
    rw [e1, e2]
    subst hiv'
    clear hoc h1 h2 hat e1 e2 e3 hgood h hiv
    generalize il.length = iln at *
    go_enter Try.func27, Try.ntmps27
    go_wp2_with fail
    refine g1.mono ?_
    rintro e w1 ⟨r, rfl, hor, hs⟩
    obtain ⟨ra, rcap, hr⟩ := own_shape hor
    subst hr
    have HB : Hid (Below w.heap.size w w1) := Below.step hb0 hb0.size hs
    clear g1 hor hs
    go_wp2_with fail
    go_ret2
    exact ⟨_, rfl, rowIn_of (World.ownsRow_nil _ _ _ _), HB.out⟩
end Go.Proofs.Ytmjeaceabjinfaa

namespace Go.Proofs.Ytmjeaceabjinfaa
open Go Go.RowKit
open M
set_option linter.unusedVariables false
set_option linter.unusedSimpArgs false

set_option maxRecDepth 100000 in
theorem sameInts_same (u v : Value) (t : List Int) (w : World) (h1 : IntsAt w u t) (h2 : IntsAt w v t) :
    Calls Try.prog 35 #[u, v] w fun e w' => e = .returned (.bool true) ∧ Below w.heap.size w w' := by
  obtain ⟨a, ac, rfl, ha⟩ := h1.opened
  obtain ⟨b, bc, rfl, hb⟩ := h2.opened
  have hl := h1.1
  clear h1 h2
  generalize hn : t.length = n at *
  go_enter Try.func35, Try.ntmps35
  go_wp2_with fail
  have HA : Hid (∀ w1 : World, Below w.heap.size w w1 → ∀ (i : Nat) (x : Int), t[i]? = some x → ∃ g off : Nat, a = some ⟨g, off, none⟩ ∧ w1.cell? ⟨g, off + i, none⟩ = some (.int .i64 x)) := fun w1 hw i x hx => by
    obtain ⟨g, off, e, hlt, hc⟩ := ha i x hx
    exact ⟨g, off, e, by rw [hw.cell (p := ⟨g, off + i, none⟩) hlt]; exact hc⟩
  have HB : Hid (∀ w1 : World, Below w.heap.size w w1 → ∀ (i : Nat) (x : Int), t[i]? = some x → ∃ g off : Nat, b = some ⟨g, off, none⟩ ∧ w1.cell? ⟨g, off + i, none⟩ = some (.int .i64 x)) := fun w1 hw i x hx => by
    obtain ⟨g, off, e, hlt, hc⟩ := hb i x hx
    exact ⟨g, off, e, by rw [hw.cell (p := ⟨g, off + i, none⟩) hlt]; exact hc⟩
  have HN : Hid (t.length = n) := hn
  clear ha hb hn
  go_loopw [13] (fun i wr => ∃ j : Nat, j ≤ n ∧ i = .int .i64 j ∧ Hid (Below w.heap.size w wr)) (fun i _ => n - (intOf i).toNat)
  case atStart => exact ⟨0, by omega, rfl, Below.refl _ _⟩
  case round =>
    obtain ⟨j, hj, rfl, HBl⟩ := hrel
    by_cases hlt : j < n
    · obtain ⟨x, hx⟩ : ∃ x, t[j]? = some x := ⟨t[j]'(by have := HN.out; omega), List.getElem?_eq_getElem (by have := HN.out; omega)⟩
      obtain ⟨ag, aoff, rfl, d0⟩ := HA.out wr HBl.out j x hx
      obtain ⟨bg, boff, rfl, d1⟩ := HB.out wr HBl.out j x hx
      have hjn : (j : Int) < (n : Int) := by omega
      have HD : Hid (Below w.heap.size w wr.drew) := HBl.out.drew
      clear hx HA HB HN HBl
      go_wp2_with fail
      go_region
      all_goals
        go_wp2_with fail
        go_roundw
        case rel => exact ⟨j + 1, by omega, by go_num, HD⟩
        case measure => simp [intOf]; omega
    · obtain rfl : j = n := by omega
      clear HA HB HN
      go_wp2_with fail
      go_ret
      exact ⟨rfl, HBl.out⟩
set_option maxRecDepth 100000 in
theorem sameBools_same (u v : Value) (t : List Bool) (w : World) (h1 : BoolsAt w u t) (h2 : BoolsAt w v t) :
    Calls Try.prog 31 #[u, v] w fun e w' => e = .returned (.bool true) ∧ Below w.heap.size w w' := by
  obtain ⟨a, ac, rfl, ha⟩ := h1.opened
  obtain ⟨b, bc, rfl, hb⟩ := h2.opened
  have hl := h1.1
  clear h1 h2
  generalize hn : t.length = n at *
  go_enter Try.func31, Try.ntmps31
  go_wp2_with fail
  have HA : Hid (∀ w1 : World, Below w.heap.size w w1 → ∀ (i : Nat) (x : Bool), t[i]? = some x → ∃ g off : Nat, a = some ⟨g, off, none⟩ ∧ w1.cell? ⟨g, off + i, none⟩ = some (.bool x)) := fun w1 hw i x hx => by
    obtain ⟨g, off, e, hlt, hc⟩ := ha i x hx
    exact ⟨g, off, e, by rw [hw.cell (p := ⟨g, off + i, none⟩) hlt]; exact hc⟩
  have HB : Hid (∀ w1 : World, Below w.heap.size w w1 → ∀ (i : Nat) (x : Bool), t[i]? = some x → ∃ g off : Nat, b = some ⟨g, off, none⟩ ∧ w1.cell? ⟨g, off + i, none⟩ = some (.bool x)) := fun w1 hw i x hx => by
    obtain ⟨g, off, e, hlt, hc⟩ := hb i x hx
    exact ⟨g, off, e, by rw [hw.cell (p := ⟨g, off + i, none⟩) hlt]; exact hc⟩
  have HN : Hid (t.length = n) := hn
  clear ha hb hn
  go_loopw [13] (fun i wr => ∃ j : Nat, j ≤ n ∧ i = .int .i64 j ∧ Hid (Below w.heap.size w wr)) (fun i _ => n - (intOf i).toNat)
  case atStart => exact ⟨0, by omega, rfl, Below.refl _ _⟩
  case round =>
    obtain ⟨j, hj, rfl, HBl⟩ := hrel
    by_cases hlt : j < n
    · obtain ⟨x, hx⟩ : ∃ x, t[j]? = some x := ⟨t[j]'(by have := HN.out; omega), List.getElem?_eq_getElem (by have := HN.out; omega)⟩
      obtain ⟨ag, aoff, rfl, d0⟩ := HA.out wr HBl.out j x hx
      obtain ⟨bg, boff, rfl, d1⟩ := HB.out wr HBl.out j x hx
      have hjn : (j : Int) < (n : Int) := by omega
      have HD : Hid (Below w.heap.size w wr.drew) := HBl.out.drew
      clear hx HA HB HN HBl
      go_wp2_with fail
      go_region
      all_goals
        go_wp2_with fail
        go_roundw
        case rel => exact ⟨j + 1, by omega, by go_num, HD⟩
        case measure => simp [intOf]; omega
    · obtain rfl : j = n := by omega
      clear HA HB HN
      go_wp2_with fail
      go_ret
      exact ⟨rfl, HBl.out⟩
end Go.Proofs.Ytmjeaceabjinfaa

namespace Go.Proofs.Ytmjeaceabjinfaa
open Go Go.RowKit
open M
set_option linter.unusedVariables false
set_option linter.unusedSimpArgs false

theorem below_drewN (B : Nat) (w : World) (n : Nat) : Below B w (w.drewN n) := ⟨rfl, rfl, rfl, Nat.le_refl _, fun _ _ => rfl⟩
set_option maxRecDepth 100000 in
set_option maxHeartbeats 2000000 in
theorem sameCircuit_same (u v : Value) (c : Ci) (w : World) (h1 : AtCirc w u c) (h2 : AtCirc w v c) :
    Calls Try.prog 20 #[u, v] w fun e w' => e = .returned (.bool true) ∧ Below w.heap.size w w' := by
  obtain ⟨_, g, o, rfl, g1, o1⟩ := h1
  obtain ⟨_, g', o', rfl, g2, o2⟩ := h2
  obtain ⟨ga, gc, rfl, hga⟩ := g1.opened
  obtain ⟨gb, gd, rfl, hgb⟩ := g2.opened
  obtain ⟨oa, oc, rfl⟩ := o1.shape
  obtain ⟨ob, od, rfl⟩ := o2.shape
  have hgl := g1.2.1
  have HI : Hid (∀ w1 : World, Below w.heap.size w w1 → Calls Try.prog 35 #[.slice oa c.2.2.length oc, .slice ob c.2.2.length od] w1 fun e w' => e = .returned (.bool true) ∧ Below w1.heap.size w1 w') := fun w1 hw => sameInts_same _ _ c.2.2 w1 (o1.below hw) (o2.below hw)
  have HA : Hid (∀ w1 : World, Below w.heap.size w w1 → ∀ (i : Nat) (x : Gt), c.2.1[i]? = some x → ∃ b off : Nat, ga = some ⟨b, off, none⟩ ∧ b < w1.heap.size ∧ GateAt w1 b (off + i * 3) x) := fun w1 hw i x hx => by
    obtain ⟨b, off, e, hlt, hat⟩ := hga i x hx
    exact ⟨b, off, e, Nat.lt_of_lt_of_le hlt hw.size, hat.below hw hlt⟩
  have HB : Hid (∀ w1 : World, Below w.heap.size w w1 → ∀ (i : Nat) (x : Gt), c.2.1[i]? = some x → ∃ b off : Nat, gb = some ⟨b, off, none⟩ ∧ b < w1.heap.size ∧ GateAt w1 b (off + i * 3) x) := fun w1 hw i x hx => by
    obtain ⟨b, off, e, hlt, hat⟩ := hgb i x hx
    exact ⟨b, off, e, Nat.lt_of_lt_of_le hlt hw.size, hat.below hw hlt⟩
  obtain ⟨ins, gs, os⟩ := c
  simp only at *
  clear g1 g2 o1 o2 hga hgb
  have hb0 : Below w.heap.size w ((w.alloc (.cells #[.int .i64 ins, .slice ga gs.length gc, .slice oa os.length oc] 27)).alloc (.cells #[.int .i64 ins, .slice gb gs.length gd, .slice ob os.length od] 27)) := below2 _ _ _
  have x0 := (box3_alloc w 27 (.int .i64 ins) (.slice ga gs.length gc) (.slice oa os.length oc)).alloc (.cells #[.int .i64 ins, .slice gb gs.length gd, .slice ob os.length od] 27)
  have x1 := box3_alloc (w.alloc (.cells #[.int .i64 ins, .slice ga gs.length gc, .slice oa os.length oc] 27)) 27 (.int .i64 ins) (.slice gb gs.length gd) (.slice ob os.length od)
  simp only [World.size_alloc] at x1
  have hsz : ((w.alloc (.cells #[.int .i64 ins, .slice ga gs.length gc, .slice oa os.length oc] 27)).alloc (.cells #[.int .i64 ins, .slice gb gs.length gd, .slice ob os.length od] 27)).heap.size = w.heap.size + 1 + 1 := by simp only [World.size_alloc]
  obtain ⟨n, hn⟩ : ∃ n, gs.length = n := ⟨_, rfl⟩
  have HN : Hid (gs.length = n) := hn
  rw [hn] at hb0 x0 x1 hsz hgl ⊢
  clear hn
  generalize os.length = on at *
  go_enter Try.func20, Try.ntmps20
  go_wp2_with fail
  refine (HI.out _ hb0).mono ?_
  rintro e w1 ⟨rfl, hs⟩
  have hs1 := hs.size
  rw [hsz] at hs1
  have HB1 : Hid (Below w.heap.size w w1) := hb0.trans (hs.mono (by rw [hsz]; omega))
  have y0 := x0.below hs (by omega)
  have y1 := x1.below hs (by omega)
  have HY0 : Hid (∀ w2 : World, Below w1.heap.size w1 w2 → Box3 w2 w.heap.size 27 (.int .i64 ins) (.slice ga n gc) (.slice oa on oc)) := fun w2 hw => y0.below hw y0.lt
  have HY1 : Hid (∀ w2 : World, Below w1.heap.size w1 w2 → Box3 w2 (w.heap.size + 1) 27 (.int .i64 ins) (.slice gb n gd) (.slice ob on od)) := fun w2 hw => y1.below hw y1.lt
  obtain ⟨c0, c1, c2⟩ := y0.cells
  have ch := y0.heap
  have cl := y0.lt
  clear hs hb0 x0 x1 hsz y0 y1 HI
  go_wp2_with fail
  clear c0 c1 c2 ch cl
  go_loopw [31] (fun i wr => ∃ j : Nat, j ≤ n ∧ i = .int .i64 j ∧ Hid (Below w1.heap.size w1 wr)) (fun i _ => n - (intOf i).toNat)
  case atStart => exact ⟨0, by omega, rfl, Below.refl _ _⟩
  case round =>
    obtain ⟨j, hj, rfl, HBl⟩ := hrel
    have hw1 := HB1.out.size
    by_cases hlt : j < n
    · obtain ⟨x, hx⟩ : ∃ x, gs[j]? = some x := ⟨gs[j]'(by have := HN.out; omega), List.getElem?_eq_getElem (by have := HN.out; omega)⟩
      obtain ⟨ag, aoff, rfl, hag, a0, a1, a2⟩ := HA.out wr (HB1.out.trans (HBl.out.mono hw1)) j x hx
      obtain ⟨bg, boff, rfl, hbg, b0, b1, b2⟩ := HB.out wr (HB1.out.trans (HBl.out.mono hw1)) j x hx
      obtain ⟨c0, c1, c2⟩ := (HY0.out wr HBl.out).cells
      have ch := (HY0.out wr HBl.out).heap
      have cl := (HY0.out wr HBl.out).lt
      obtain ⟨d0, d1, d2⟩ := (HY1.out wr HBl.out).cells
      have dh := (HY1.out wr HBl.out).heap
      have dl := (HY1.out wr HBl.out).lt
      obtain ⟨kk, xa, xb⟩ := x
      simp only at a0 a1 a2 b0 b1 b2
      have hjn : (j : Int) < (n : Int) := by omega
      have HD : Hid (Below w1.heap.size w1 wr.drew) := HBl.out.drew
      have HD2 : Hid (∀ nq : Nat, Below w1.heap.size w1 (wr.drewN nq)) := fun nq => HBl.out.trans (below_drewN _ _ nq)
      clear hx HA HB HN HY0 HY1 HB1
      go_wp2_with fail
      go_quiet (fail)
      go_wp2_with fail
      go_roundw
      case rel => exact ⟨j + 1, by omega, by go_num, HD2.out _⟩
      case measure => simp [intOf]; omega
    · obtain rfl : j = n := by omega
      have HBF : Hid (Below w.heap.size w wr) := HB1.out.trans (HBl.out.mono hw1)
      clear HA HB HN HY0 HY1
      go_wp2_with fail
      go_ret
      exact ⟨rfl, HBF.out⟩
end Go.Proofs.Ytmjeaceabjinfaa

namespace Go.Proofs.Ytmjeaceabjinfaa
open Go Go.RowKit
open M
set_option linter.unusedVariables false
set_option linter.unusedSimpArgs false

theorem i64_or_nat (a b : Nat) (ha : a < 4611686018427387904) (hb : b < 4611686018427387904) : bits .or .i64 (a : Int) (b : Int) = ((a ||| b : Nat) : Int) := by
  have hx : a ||| b < 2 ^ 62 := Nat.or_lt_two_pow (by omega) (by omega)
  show IntKind.i64.wrap ((BitVec.ofInt 64 (a : Int) ||| BitVec.ofInt 64 (b : Int)).toNat : Int) = _
  rw [BitVec.toNat_or, ofInt_u64 a (by omega), ofInt_u64 b (by omega)]
  exact IntWalk.i64_in _ ⟨by omega, by omega⟩
theorem or_bit (a j : Nat) (h : a < 2 ^ j) (hj : j ≤ 40) : bits .or .i64 (a : Int) (wrap64 (2 ^ j)) = ((a + 2 ^ j : Nat) : Int) := by
  have hp : (2 : Nat) ^ j ≤ 2 ^ 40 := Nat.pow_le_pow_right (by omega) hj
  have e0 : ((2 : Int) ^ j) = ((2 ^ j : Nat) : Int) := by simp
  have e1 : wrap64 (2 ^ j) = ((2 ^ j : Nat) : Int) := by
    rw [e0]
    unfold wrap64
    omega
  rw [e1, i64_or_nat a (2 ^ j) (by omega) (by omega)]
  have e2 := Nat.two_pow_add_eq_or_of_lt h 1
  rw [Nat.mul_one] at e2
  rw [Nat.or_comm, ← e2]
  congr 1
  omega
theorem carryN_snoc (o : List Bool) : ∀ (l : List Int) (x : Int), carryN o (l ++ [x]) = carryN o l + (if at' o x = true then 2 ^ l.length else 0)
  | [], x => by simp [carryN]
  | y :: l, x => by
    have ih := carryN_snoc o l x
    simp only [List.cons_append, carryN, ih, List.length_cons, Nat.pow_succ]
    split <;> split <;> omega
set_option maxRecDepth 100000 in
set_option maxHeartbeats 2000000 in
theorem carried_laws (av wv : Value) (o : List Bool) (ws : List Int) (hl : ws.length ≤ 20) (ho : o.length ≤ 1000) (hw : ∀ x ∈ ws, 0 ≤ x ∧ x < o.length) (w : World) (h1 : BoolsAt w av o) (h2 : IntsAt w wv ws) :
    Calls Try.prog 25 #[av, wv] w fun e w' => e = .returned (.int .i64 (carryN o ws)) ∧ Below w.heap.size w w' := by
  obtain ⟨a, ac, rfl, ha⟩ := h1.opened
  obtain ⟨b, bc, rfl, hb⟩ := h2.opened
  clear h1 h2
  go_enter Try.func25, Try.ntmps25
  go_wp2_with fail
  have HW : Hid (∀ x ∈ ws, 0 ≤ x ∧ x < o.length) := hw
  have HA : Hid _ := ha
  have HB : Hid _ := hb
  clear hw ha hb
  generalize hon : o.length = on at *
  obtain ⟨wn, hwn⟩ : ∃ wn, ws.length = wn := ⟨_, rfl⟩
  have HWN : Hid (ws.length = wn) := hwn
  go_loopw [5, 10] (fun vn i wr => ∃ j : Nat, j ≤ ws.length ∧ i = .int .i64 j ∧ vn = .int .i64 (carryN o (ws.take j)) ∧ Hid (Below w.heap.size w wr)) (fun _ i _ => ws.length - (intOf i).toNat)
  case atStart => exact ⟨0, by omega, rfl, rfl, Below.refl _ _⟩
  case round =>
    obtain ⟨j, hj, rfl, rfl, HBl⟩ := hrel
    by_cases hlt : j < ws.length
    · obtain ⟨x, hx⟩ : ∃ x, ws[j]? = some x := ⟨ws[j], List.getElem?_eq_getElem hlt⟩
      obtain ⟨hx0, hx1⟩ := HW.out x (List.mem_of_getElem? hx)
      obtain ⟨X, rfl⟩ := Int.eq_ofNat_of_zero_le hx0
      obtain ⟨bg, boff, rfl, hbl, d0⟩ := HB.out j _ hx
      obtain ⟨ag, aoff, rfl, hal, d1⟩ := HA.out X (at' o X) (by unfold at'; rw [Int.toNat_natCast, List.getD_eq_getElem?_getD, List.getElem?_eq_getElem (by omega)]; rfl)
      rw [← HBl.out.cell (p := ⟨bg, boff + j, none⟩) hbl] at d0
      rw [← HBl.out.cell (p := ⟨ag, aoff + X, none⟩) hal] at d1
      have hst : carryN o (ws.take (j + 1)) = carryN o (ws.take j) + (if at' o X = true then 2 ^ j else 0) := by
        rw [List.take_add_one, hx]
        have e := carryN_snoc o (ws.take j) (X : Int)
        rw [List.length_take_of_le (by omega)] at e
        exact e
      have hcl := carryN_lt o (ws.take j)
      rw [List.length_take_of_le (by omega)] at hcl
      have HST : Hid _ := hst
      clear hst hx HA HB HW
      generalize hcn : carryN o (ws.take j) = cn at *
      cases hz : at' o (X : Int) with
      | false =>
        rw [hz] at d1
        have HR : Hid (carryN o (ws.take (j + 1)) = cn) := by
          have h1 := HST.out
          rw [hz] at h1
          simp only [Bool.false_eq_true, if_false, Nat.add_zero] at h1
          exact h1
        clear HST hz hcn
        go_wp2_with fail
        go_roundw
        case rel => exact ⟨j + 1, by omega, by go_num, by rw [HR.out], HBl⟩
        case measure => simp [intOf]; omega
      | true =>
        rw [hz] at d1
        have HR : Hid (carryN o (ws.take (j + 1)) = cn + 2 ^ j) := by
          have h1 := HST.out
          rw [hz, if_pos rfl] at h1
          exact h1
        have HO : Hid (bits .or .i64 (cn : Int) (wrap64 (2 ^ j)) = ((cn + 2 ^ j : Nat) : Int)) := or_bit cn j hcl (by omega)
        clear HST hz hcn hcl
        go_wp2_with fail
        go_roundw
        case rel => exact ⟨j + 1, by omega, by go_num, by rw [HR.out, HO.out], HBl⟩
        case measure => simp [intOf]; omega
    · obtain rfl : j = ws.length := by omega
      rw [List.take_length]
      clear HA HB HW
      go_wp2_with fail
      go_ret
      exact ⟨rfl, HBl.out⟩
end Go.Proofs.Ytmjeaceabjinfaa

namespace Go.Proofs.Ytmjeaceabjinfaa
open Go Go.RowKit
open M
set_option linter.unusedVariables false
set_option linter.unusedSimpArgs false

theorem own_emptyG (w : World) (base : Nat) (hb : base ≤ w.heap.size) : (w.alloc (.cells #[] 108)).ownsRow base 108 3 (.slice (some ⟨w.heap.size, 0, none⟩) 0 0) 0 [] := by
  refine ⟨rfl, Or.inr ⟨w.heap.size, 0, #[], rfl, hb, ?_, Nat.le_refl _, by unfold maxLen; omega, rfl, rfl⟩⟩
  show (w.heap.push _)[w.heap.size]? = _
  simp
set_option maxRecDepth 100000 in
theorem l1Own_any (a : Option Addr) (cap : Nat) (os : List Int) (hO : os.length ≤ 1000) (w : World) (h : Src w (.slice a os.length cap) os.length (cellsI os)) :
    Calls Try.prog 141 #[.slice a os.length cap] w fun e w' => ∃ r, e = .returned r ∧ w'.ownsRow w.heap.size 3 1 r os.length (cellsI os) ∧ Below w.heap.size w w' := by
  obtain ⟨i0, hif, hz0, hz1, hz2⟩ := info_parts infoInt
  have own0 := own_emptyI w w.heap.size (Nat.le_refl _)
  have hb0 : Below w.heap.size w (w.alloc (.cells #[] 3)) := (Below.refl _ _).alloc (Nat.le_refl _) _
  have h0 := h.below hb0
  have sol : (cellsI os).length = os.length * 1 := by simp [cellsI]
  clear h
  go_enter Try.func141, Try.ntmps141
  go_wp2_with (at_builtin; refine wpList_append_src rfl _ _ 25 rfl w.heap.size 3 i0 (.int .i64 0) 1 8 Try.underlying25 hif hz0 hz1 hz2 rfl (by decide) _ _ _ rfl own0 (.slice a os.length cap) os.length (cellsI os) rfl h0 sol (ints_one os) (by unfold maxLen; omega) (by omega) hb0.size ?_)
  intro v5 w5 own5 grow5
  have HO : Hid _ := own5
  have HB : Hid (Below w.heap.size w w5) := hb0.grown grow5 hb0.size (fun k hk => (own_block own0 hk).1)
  clear own5 grow5 own0 h0
  go_wp2_with fail
  go_ret
  exact ⟨_, rfl, HO.out, HB.out⟩
set_option maxRecDepth 100000 in
set_option maxHeartbeats 4000000 in
theorem l4Own_any (v : Value) (c : Ci) (hI0 : 0 ≤ c.1) (hI1 : c.1 ≤ 16) (hG : c.2.1.length ≤ 300) (hO : c.2.2.length ≤ 16) (w : World) (h : AtC w v c) :
    Calls Try.prog 79 #[v] w fun e w' => ∃ gv ov, e = .returned (.agg #[.int .i64 c.1, gv, ov]) ∧ w'.ownsRow w.heap.size 108 3 gv c.2.1.length (flat3 c.2.1) ∧ w'.ownsRow w.heap.size 3 1 ov c.2.2.length (cellsI c.2.2) ∧ Below w.heap.size w w' := by
  obtain ⟨_, gw, ov, hv, h1, h2, h3, h4⟩ := h
  obtain ⟨ga, gc, hgw⟩ := h1.shape
  obtain ⟨oa, oc, ho⟩ := h2.shape
  have sg := src_gates h1 h3
  have so := src_ints h2 h4
  clear h1 h2 h3 h4
  subst hgw ho hv
  obtain ⟨ins, gs, os⟩ := c
  simp only at *
  obtain ⟨j0, hjf, hy0, hy1, hy2⟩ := info_parts infoGate
  have hb0 : Below w.heap.size w ((w.alloc (.cells #[.int .i64 ins, .slice ga gs.length gc, .slice oa os.length oc] 27)).alloc (.cells #[.int .i64 0, .slice none 0 0, .slice none 0 0] 27)) := below2 _ _ _
  have x0 := (box3_alloc w 27 (.int .i64 ins) (.slice ga gs.length gc) (.slice oa os.length oc)).alloc (.cells #[.int .i64 0, .slice none 0 0, .slice none 0 0] 27)
  have x1 := box3_alloc (w.alloc (.cells #[.int .i64 ins, .slice ga gs.length gc, .slice oa os.length oc] 27)) 27 (.int .i64 0) (.slice none 0 0) (.slice none 0 0)
  simp only [World.size_alloc] at x1
  have hsz : ((w.alloc (.cells #[.int .i64 ins, .slice ga gs.length gc, .slice oa os.length oc] 27)).alloc (.cells #[.int .i64 0, .slice none 0 0, .slice none 0 0] 27)).heap.size = w.heap.size + 1 + 1 := by simp only [World.size_alloc]
  have sg1 := sg.below hb0
  have so1 := so.below hb0
  clear sg so
  have HL : Hid (∀ w5 : World, Src w5 (.slice oa os.length oc) os.length (cellsI os) → Calls Try.prog 141 #[.slice oa os.length oc] w5 fun e w' => ∃ r, e = .returned r ∧ w'.ownsRow w5.heap.size 3 1 r os.length (cellsI os) ∧ Below w5.heap.size w5 w') := fun w5 h5 => l1Own_any oa oc os (by omega) w5 h5
  go_enter Try.func79, Try.ntmps79
  go_wp2_with fail
  generalize ((w.alloc (.cells #[.int .i64 ins, .slice ga gs.length gc, .slice oa os.length oc] 27)).alloc (.cells #[.int .i64 0, .slice none 0 0, .slice none 0 0] 27)) = wa at *
  have HSZ : Hid (wa.heap.size = w.heap.size + 1 + 1) := hsz
  clear hsz
  obtain ⟨c0, c1, c2⟩ := x0.cells
  have hh := x0.heap
  have hlt := x0.lt
  have own0 : (wa.drew.alloc (.cells #[] 108)).ownsRow wa.heap.size 108 3 (.slice (some ⟨wa.heap.size, 0, none⟩) 0 0) 0 [] := own_emptyG wa.drew wa.heap.size (Nat.le_refl _)
  have sg0 : Src (wa.drew.alloc (.cells #[] 108)) (.slice ga gs.length gc) gs.length (flat3 gs) := Src.below (w := wa.drew) sg1 ((Below.refl _ _).alloc (Nat.le_refl _) _)
  have hsb : wa.heap.size ≤ (wa.drew.alloc (.cells #[] 108)).heap.size := by
    rw [World.size_alloc]
    show wa.heap.size ≤ wa.heap.size + 1
    omega
  have HK : Hid (∀ w5 : World, (wa.drew.alloc (.cells #[] 108)).grownBy w5 (Value.slice (some ⟨wa.heap.size, 0, none⟩) 0 0).ownBlock → Below wa.heap.size wa w5) := by
    intro w5 g5
    have hba : Below wa.heap.size wa (wa.drew.alloc (.cells #[] 108)) := ((Below.refl wa.heap.size wa).drew).alloc (Nat.le_refl _) _
    exact hba.grown g5 hsb (fun k hk => by
      have e : wa.heap.size = k := Option.some.inj hk
      omega)
  have HC : Hid (∀ w5 : World, Below wa.heap.size wa w5 → Box3 w5 w.heap.size 27 (.int .i64 ins) (.slice ga gs.length gc) (.slice oa os.length oc) ∧ Box3 w5 (w.heap.size + 1) 27 (.int .i64 0) (.slice none 0 0) (.slice none 0 0) ∧ Src w5 (.slice oa os.length oc) os.length (cellsI os)) := fun w5 hb => ⟨x0.below hb x0.lt, x1.below hb x1.lt, so1.below hb⟩
  have HE : Hid (∀ (w5 : World) (v5 : Value) (w6 : World) (v6 : Value), Below wa.heap.size wa w5 → w5.ownsRow wa.heap.size 108 3 v5 gs.length (flat3 gs) → w6.ownsRow w5.heap.size 3 1 v6 os.length (cellsI os) → Below w5.heap.size w5 w6 →
      Box3 (((w6.setCell ⟨w.heap.size + 1, 0, none⟩ (.int .i64 ins)).setCell ⟨w.heap.size + 1, 1, none⟩ v5).setCell ⟨w.heap.size + 1, 2, none⟩ v6) (w.heap.size + 1) 27 (.int .i64 ins) v5 v6 ∧ (((w6.setCell ⟨w.heap.size + 1, 0, none⟩ (.int .i64 ins)).setCell ⟨w.heap.size + 1, 1, none⟩ v5).setCell ⟨w.heap.size + 1, 2, none⟩ v6).ownsRow w.heap.size 108 3 v5 gs.length (flat3 gs) ∧ (((w6.setCell ⟨w.heap.size + 1, 0, none⟩ (.int .i64 ins)).setCell ⟨w.heap.size + 1, 1, none⟩ v5).setCell ⟨w.heap.size + 1, 2, none⟩ v6).ownsRow w.heap.size 3 1 v6 os.length (cellsI os) ∧ Below w.heap.size w (((w6.setCell ⟨w.heap.size + 1, 0, none⟩ (.int .i64 ins)).setCell ⟨w.heap.size + 1, 1, none⟩ v5).setCell ⟨w.heap.size + 1, 2, none⟩ v6)) := by
    intro w5 v5 w6 v6 hb5 o5 o6 hb6
    have hs5 := hb5.size
    have hsz := HSZ.out
    have hba6 : Below wa.heap.size wa w6 := hb5.trans (hb6.mono hs5)
    obtain ⟨_, r6, _⟩ := HC.out w6 hba6
    have hbw : Below w.heap.size w w6 := hb0.trans (hba6.mono (by omega))
    have g6 : w6.ownsRow wa.heap.size 108 3 v5 gs.length (flat3 gs) := owns_below o5 hb6
    have i6 : w6.ownsRow wa.heap.size 3 1 v6 os.length (cellsI os) := own_base o6 hs5
    have s0 : w.heap.size ≤ w.heap.size + 1 := Nat.le_succ _
    exact ⟨((r6.set0 _).set1 _).set2 _, own_base (own_set (own_set (own_set g6 (by omega)) (by omega)) (by omega)) (by omega), own_base (own_set (own_set (own_set i6 (by omega)) (by omega)) (by omega)) (by omega), ((hbw.setCell (p := ⟨w.heap.size + 1, 0, none⟩) s0 _).setCell (p := ⟨w.heap.size + 1, 1, none⟩) s0 _).setCell (p := ⟨w.heap.size + 1, 2, none⟩) s0 _⟩
  have sgl : (flat3 gs).length = gs.length * 3 := flat3_len gs
  clear sg1 so1 hb0 x0 x1
  go_region_held_law (fun w' => w'.cell? ⟨w.heap.size, 0, none⟩ = some (.int .i64 ins) ∧ w'.cell? ⟨w.heap.size, 1, none⟩ = some (.slice ga gs.length gc) ∧ w'.cell? ⟨w.heap.size, 2, none⟩ = some (.slice oa os.length oc)) (first | exact ⟨la0, la1, la2⟩ | exact ⟨ka0, ka1, ka2⟩ | go_keep) (first | (refine step_append_src rfl _ _ 24 rfl wa.heap.size 108 j0 (.agg #[.int .i64 0, .int .i64 0, .int .i64 0]) 3 24 Try.underlying24 hjf hy0 hy1 hy2 rfl (by decide) (.slice (some ⟨wa.heap.size, 0, none⟩) 0 0) 0 [] (by simp [Act.eval, Act.put]) own0 (.slice ga gs.length gc) gs.length (flat3 gs) (by simp [Act.eval, Act.put]) sg0 sgl (flat3_one gs) (by unfold maxLen; omega) (by omega) hsb ?_; intro v5 w5 own5 grow5; rw [Nat.zero_add, List.nil_append] at own5; have HB5 : Hid _ := HK.out w5 grow5; obtain ⟨k1, k2, k3⟩ := HC.out w5 HB5.out; obtain ⟨ka0, ka1, ka2⟩ := k1.cells; have kh := k1.heap; have klt := k1.lt; obtain ⟨va5, vc5, hv5⟩ := own_shape own5; subst hv5; have OW5 : Hid _ := own5; clear k1 k2 own5 grow5) | (go_simp; go_at_call 141; refine (HL.out _ ?_).mono ?_; exact k3; rintro e w6 ⟨v6, rfl, own6, hs6⟩; obtain ⟨l1, l2, l3, l4⟩ := HE.out w5 _ w6 v6 HB5.out OW5.out own6 hs6; obtain ⟨m1, m2, m3⟩ := HC.out w6 (HB5.out.trans (hs6.mono HB5.out.size)); obtain ⟨la0, la1, la2⟩ := m1.cells; have lh := m1.heap; have llt := m1.lt; obtain ⟨lb0, lb1, lb2⟩ := m2.cells; have lbh := m2.heap; have lblt := m2.lt; have lf0 := m2.frozen 0; have lf1 := m2.frozen 1; have lf2 := m2.frozen 2; obtain ⟨va6, vc6, hv6⟩ := own_shape own6; subst hv6; have L1 : Hid _ := l1.heap; have L2 : Hid _ := l2; have L3 : Hid _ := l3; have L4 : Hid _ := l4; clear own6 hs6 l1 l2 l3 l4 m1 m2 m3))
  all_goals
    go_wp2_with fail
    refine bodyPost_ret (results_cell_row rfl _ _ (w.heap.size + 1) 27 _ (0, 0) _ rfl L1.out Try.underlying27 rfl (by kernel_rfl)) rfl ?_
    exact ⟨_, _, rfl, L2.out, L3.out, L4.out⟩
end Go.Proofs.Ytmjeaceabjinfaa
