/-
  Lassos as values: a struct of two lists of numbers; the laws' sizes, copies, comparisons and marks of them, and one that came in.
-/
import Derived.Test.YthamdefkcjfjpaaOff
import Derived.Test.YthamdefkcjfjpaaLassoM
import Derived.Test.YthamdefkcjfjpaaCnf
import Derived.Test.YthamdefkcjfjpaaArgC
namespace Go.Proofs.Ythamdefkcjfjpaa
open Go Go.RowKit
open M
set_option linter.unusedVariables false
set_option linter.unusedSimpArgs false

/-- two slices whose blocks are not the same -/
def Ap3 (r v : Value) : Prop := ∀ k, blkN r = some k → blkN v ≠ some k
theorem ap3_of {w w' : World} {lo hi lo' hi' : Nat} {v v' : Value} {xs xs' : List Value} (h : OffIn w lo hi v xs) (h' : OffIn w' lo' hi' v' xs') (hd : hi ≤ lo' ∨ hi' ≤ lo) : Ap3 v v' := fun k h1 h2 => by
  have h3 := h.in' k h1
  have h4 := h'.in' k h2
  omega
/-- nothing, or a slice with an address -/
def Sol (v : Value) : Prop := ∃ a n cap, v = .slice a n cap ∧ (a = none → n = 0 ∧ cap = 0) ∧ (∀ ad, a = some ad → ad.spot = none) ∧ n ≤ cap
def AtLa (w : World) (v : Value) (l : La) : Prop := ∃ g o, v = .agg #[g, o] ∧ IntsAt w g l.1 ∧ IntsAt w o l.2
def AtLS (w : World) (v : Value) (l : La) : Prop := ∃ g o, v = .agg #[g, o] ∧ IntsAt w g l.1 ∧ IntsAt w o l.2 ∧ Sol g ∧ Sol o
def LaOk (l : La) : Prop := l.1.length ≤ 1048576 ∧ l.2.length ≤ 1048576
def OwnLa (w : World) (lo hi : Nat) (v : Value) (l : La) : Prop := ∃ g o, v = .agg #[g, o] ∧ OwnOI w lo hi g l.1 ∧ OwnOI w lo hi o l.2 ∧ Ap3 g o
def MarkLa (w : World) (lo hi : Nat) (v : Value) (l : La) (k : Int) : Prop := ∃ g o, v = .agg #[g, o] ∧ MarkOI w lo hi g l.1 k ∧ MarkOI w lo hi o l.2 (k + l.1.length)
def lenLa (l : La) : Int := l.1.length + l.2.length
theorem AtLS.at {w : World} {v : Value} {l : La} (h : AtLS w v l) : AtLa w v l := by
  obtain ⟨g, o, hv, h1, h2, _⟩ := h
  exact ⟨g, o, hv, h1, h2⟩
theorem AtLa.below {w w' : World} {v : Value} {l : La} (h : AtLa w v l) (hb : Below w.heap.size w w') : AtLa w' v l := by
  obtain ⟨g, o, hv, h1, h2⟩ := h
  exact ⟨g, o, hv, h1.below hb, h2.below hb⟩
theorem AtLS.below {w w' : World} {v : Value} {l : La} (h : AtLS w v l) (hb : Below w.heap.size w w') : AtLS w' v l := by
  obtain ⟨g, o, hv, h1, h2, h3⟩ := h
  exact ⟨g, o, hv, h1.below hb, h2.below hb, h3⟩
theorem AtLa.shape {w : World} {v : Value} {l : La} (h : AtLa w v l) : ∃ sa sn sc oa on oc, v = .agg #[.slice sa sn sc, .slice oa on oc] := by
  obtain ⟨g, o, hv, h1, h2⟩ := h
  obtain ⟨a, cap, e⟩ := h1.shape
  obtain ⟨a2, cap2, e2⟩ := h2.shape
  exact ⟨a, _, cap, a2, _, cap2, by rw [hv, e, e2]⟩
theorem AtLS.shape {w : World} {v : Value} {l : La} (h : AtLS w v l) : ∃ sa sn sc oa on oc, v = .agg #[.slice sa sn sc, .slice oa on oc] := h.at.shape
theorem OwnLa.shape {w : World} {lo hi : Nat} {v : Value} {l : La} (h : OwnLa w lo hi v l) : ∃ sa sn sc oa on oc, v = .agg #[.slice sa sn sc, .slice oa on oc] := by
  obtain ⟨g, o, hv, h1, h2, _⟩ := h
  obtain ⟨a, n, cap, e⟩ := h1.shape
  obtain ⟨a2, n2, cap2, e2⟩ := h2.shape
  exact ⟨a, n, cap, a2, n2, cap2, by rw [hv, e, e2]⟩
theorem OwnLa.hi {w : World} {lo hi : Nat} {v : Value} {l : La} (h : OwnLa w lo hi v l) : hi ≤ w.heap.size := by
  obtain ⟨g, o, hv, h1, h2, _⟩ := h
  exact h1.hi
theorem MarkLa.hi {w : World} {lo hi : Nat} {v : Value} {l : La} {k : Int} (h : MarkLa w lo hi v l k) : hi ≤ w.heap.size := by
  obtain ⟨g, o, hv, h1, h2⟩ := h
  exact h1.hi
theorem OwnLa.same {w w' : World} {lo hi : Nat} {v : Value} {l : La} (h : OwnLa w lo hi v l) (hs : w.heap.size ≤ w'.heap.size) (hb : ∀ i, lo ≤ i → i < hi → w'.heap[i]? = w.heap[i]?) : OwnLa w' lo hi v l := by
  obtain ⟨g, o, hv, h1, h2, h3⟩ := h
  exact ⟨g, o, hv, h1.same hs hb, h2.same hs hb, h3⟩
theorem MarkLa.same {w w' : World} {lo hi : Nat} {v : Value} {l : La} {k : Int} (h : MarkLa w lo hi v l k) (hs : w.heap.size ≤ w'.heap.size) (hb : ∀ i, lo ≤ i → i < hi → w'.heap[i]? = w.heap[i]?) : MarkLa w' lo hi v l k := by
  obtain ⟨g, o, hv, h1, h2⟩ := h
  exact ⟨g, o, hv, h1.same hs hb, h2.same hs hb⟩
theorem OwnLa.reads {w : World} {lo hi : Nat} {v : Value} {l : La} (h : OwnLa w lo hi v l) (ok : LaOk l) : AtLa w v l := by
  obtain ⟨g, o, hv, h1, h2, _⟩ := h
  exact ⟨g, o, hv, h1.reads ok.1, h2.reads ok.2⟩
theorem OwnOI.sol {w : World} {lo hi : Nat} {v : Value} {t : List Int} (h : OwnOI w lo hi v t) : Sol v := by
  rcases h.2 with ⟨e, a, cap, hv, hz⟩ | ⟨g, off, cap, hv, _, _, _, _, hcp⟩
  · exact ⟨a, 0, cap, hv, fun e => ⟨rfl, hz.1 e⟩, hz.2, Nat.zero_le _⟩
  · exact ⟨_, _, cap, hv, (fun e => by cases e), (fun ad e => by cases e; rfl), hcp⟩
theorem OwnLa.hands {w : World} {lo hi : Nat} {v : Value} {l : La} (h : OwnLa w lo hi v l) (ok : LaOk l) : AtLS w v l := by
  obtain ⟨g, o, hv, h1, h2, _⟩ := h
  exact ⟨g, o, hv, h1.reads ok.1, h2.reads ok.2, h1.sol, h2.sol⟩
theorem OwnLa.weak {w : World} {lo lo' hi hi' : Nat} {v : Value} {l : La} (h : OwnLa w lo hi v l) (h1 : lo' ≤ lo) (h2 : hi ≤ hi') (h3 : hi' ≤ w.heap.size) : OwnLa w lo' hi' v l := by
  obtain ⟨g, o, hv, a, b, c⟩ := h
  exact ⟨g, o, hv, OffIn.weak a h1 h2 h3, OffIn.weak b h1 h2 h3, c⟩
set_option maxRecDepth 100000 in
theorem szLasso_ok (v : Value) (l : La) (left : Int) (h1 : left ≤ 1048576) (hok : (l.1.length : Int) + l.2.length ≤ left) (w : World) (h : AtLa w v l) :
    Calls Try.prog 36 #[v, .int .i64 left] w fun e w' => e = .returned (.int .i64 (left - (l.1.length : Int) - (l.2.length : Int))) ∧ Below w.heap.size w w' := by
  obtain ⟨g, o, rfl, k1, k2⟩ := h
  obtain ⟨a, cap, rfl⟩ := k1.shape
  obtain ⟨a', cap', rfl⟩ := k2.shape
  have g1 := fun w1 => szIntS_any a l.1.length cap left (by omega) (by omega) (by omega) w1
  have g2 := fun w1 => szIntS_any a' l.2.length cap' (left - (l.1.length : Int)) (by omega) (by omega) (by omega) w1
  rw [if_neg (by omega)] at g1 g2
  obtain ⟨L, hL⟩ : ∃ L : Int, left - (l.1.length : Int) = L := ⟨_, rfl⟩
  obtain ⟨L2, hL2⟩ : ∃ L2 : Int, L - (l.2.length : Int) = L2 := ⟨_, rfl⟩
  rw [hL] at g1 g2 ⊢
  rw [hL2] at g2 ⊢
  have hL0 : 0 ≤ L := by omega
  have hL20 : 0 ≤ L2 := by omega
  generalize l.1.length = n at *
  generalize l.2.length = m at *
  clear k1 k2 hL hL2 hok
  go_enter Try.func36, Try.ntmps36
  go_wp2_with fail
  refine (g1 _).mono ?_
  rintro e w1 ⟨rfl, rfl⟩
  go_wp2_with fail
  refine (g2 _).mono ?_
  rintro e w1 ⟨rfl, rfl⟩
  go_wp2_with fail
  go_ret
  exact ⟨rfl, (Below.refl _ _).alloc (Nat.le_refl _) _⟩
set_option maxRecDepth 100000 in
theorem szLasso_over (v : Value) (l : La) (left : Int) (h0 : 0 ≤ left) (h1 : left ≤ 1048576) (hok : left < (l.1.length : Int) + l.2.length) (w : World) (h : AtLa w v l) :
    Calls Try.prog 36 #[v, .int .i64 left] w fun e w' => e = .returned (.int .i64 (-1)) ∧ Below w.heap.size w w' := by
  obtain ⟨g, o, rfl, k1, k2⟩ := h
  obtain ⟨a, cap, rfl⟩ := k1.shape
  obtain ⟨a', cap', rfl⟩ := k2.shape
  have l1 := k1.1
  have l2 := k2.1
  by_cases hb : left < l.1.length
  · have g1 := fun w1 => szIntS_any a l.1.length cap left (by omega) (by omega) (by omega) w1
    rw [if_pos (by omega)] at g1
    generalize l.1.length = n at *
    generalize l.2.length = m at *
    clear k1 k2 hok hb
    go_enter Try.func36, Try.ntmps36
    go_wp2_with fail
    refine (g1 _).mono ?_
    rintro e w1 ⟨rfl, rfl⟩
    go_wp2_with fail
    go_ret
    exact ⟨rfl, (Below.refl _ _).alloc (Nat.le_refl _) _⟩
  · have g1 := fun w1 => szIntS_any a l.1.length cap left (by omega) (by omega) (by omega) w1
    have g2 := fun w1 => szIntS_any a' l.2.length cap' (left - (l.1.length : Int)) (by omega) (by omega) (by omega) w1
    rw [if_neg (by omega)] at g1
    rw [if_pos (by omega)] at g2
    obtain ⟨L, hL⟩ : ∃ L : Int, left - (l.1.length : Int) = L := ⟨_, rfl⟩
    rw [hL] at g1 g2
    have hL0 : 0 ≤ L := by omega
    generalize l.1.length = n at *
    generalize l.2.length = m at *
    clear k1 k2 hok hb hL
    go_enter Try.func36, Try.ntmps36
    go_wp2_with fail
    refine (g1 _).mono ?_
    rintro e w1 ⟨rfl, rfl⟩
    go_wp2_with fail
    refine (g2 _).mono ?_
    rintro e w1 ⟨rfl, rfl⟩
    go_wp2_with fail
    go_ret
    exact ⟨rfl, (Below.refl _ _).alloc (Nat.le_refl _) _⟩
theorem szLasso_small (v : Value) (l : La) (hok : l.1.length + l.2.length ≤ 1048576) (w : World) (h : AtLa w v l) :
    Calls Try.prog 36 #[v, .int .i64 1048576] w fun e w' => e = .returned (.int .i64 (1048576 - (l.1.length : Int) - (l.2.length : Int))) ∧ Below w.heap.size w w' := szLasso_ok v l 1048576 (by omega) (by omega) w h
theorem szLasso_big (v : Value) (l : La) (hok : 1048576 < l.1.length + l.2.length) (w : World) (h : AtLa w v l) :
    Calls Try.prog 36 #[v, .int .i64 1048576] w fun e w' => e = .returned (.int .i64 (-1)) ∧ Below w.heap.size w w' := szLasso_over v l 1048576 (by omega) (by omega) (by omega) w h
set_option maxRecDepth 100000 in
theorem eqLasso_any (u v : Value) (l l' : La) (w : World) (h : AtLa w u l) (h' : AtLa w v l') :
    Calls Try.prog 38 #[u, v] w fun e w' => e = .returned (.bool (decide (l = l'))) ∧ Below w.heap.size w w' := by
  obtain ⟨g, o, rfl, h1, h2⟩ := h
  obtain ⟨g', o', rfl, h1', h2'⟩ := h'
  have G1 : Hid (∀ w1 : World, Below w.heap.size w w1 → Calls Try.prog 39 #[g, g'] w1 fun e w' => e = .returned (.bool (decide (l.1 = l'.1))) ∧ Below w1.heap.size w1 w') := fun w1 hb => eqIntS_any g g' l.1 l'.1 w1 (h1.below hb) (h1'.below hb)
  have G2 : Hid (∀ w1 : World, Below w.heap.size w w1 → Calls Try.prog 39 #[o, o'] w1 fun e w' => e = .returned (.bool (decide (l.2 = l'.2))) ∧ Below w1.heap.size w1 w') := fun w1 hb => eqIntS_any o o' l.2 l'.2 w1 (h2.below hb) (h2'.below hb)
  have hall : decide (l = l') = (decide (l.1 = l'.1) && decide (l.2 = l'.2)) := by
    obtain ⟨a, b⟩ := l
    obtain ⟨c, d⟩ := l'
    rw [Bool.eq_iff_iff, Bool.and_eq_true, decide_eq_true_eq, decide_eq_true_eq, decide_eq_true_eq, Prod.mk.injEq]
  rw [hall]
  obtain ⟨ga, gc, rfl⟩ := h1.shape
  obtain ⟨oa, oc, rfl⟩ := h2.shape
  obtain ⟨ga', gc', rfl⟩ := h1'.shape
  obtain ⟨oa', oc', rfl⟩ := h2'.shape
  have hb0 : Below w.heap.size w ((w.alloc (.cells #[.slice ga l.1.length gc, .slice oa l.2.length oc] 26)).alloc (.cells #[.slice ga' l'.1.length gc', .slice oa' l'.2.length oc'] 26)) := ((Below.refl _ _).alloc (Nat.le_refl _) _).alloc (by simp) _
  have x0 := (box2_alloc w 26 (.slice ga l.1.length gc) (.slice oa l.2.length oc)).alloc (.cells #[.slice ga' l'.1.length gc', .slice oa' l'.2.length oc'] 26)
  have x1 := box2_alloc (w.alloc (.cells #[.slice ga l.1.length gc, .slice oa l.2.length oc] 26)) 26 (.slice ga' l'.1.length gc') (.slice oa' l'.2.length oc')
  simp only [World.size_alloc] at x1
  have HB0 : Hid _ := hb0
  clear h1 h2 h1' h2' hall hb0
  generalize l.1.length = n1 at *
  generalize l.2.length = n2 at *
  generalize l'.1.length = n3 at *
  generalize l'.2.length = n4 at *
  generalize decide (l.1 = l'.1) = B1 at *
  generalize decide (l.2 = l'.2) = B2 at *
  go_enter Try.func38, Try.ntmps38
  have hsz : ((w.alloc (.cells #[.slice ga n1 gc, .slice oa n2 oc] 26)).alloc (.cells #[.slice ga' n3 gc', .slice oa' n4 oc'] 26)).heap.size = w.heap.size + 1 + 1 := by simp only [World.size_alloc]
  go_wp2_with fail
  refine (G1.out _ HB0.out).mono ?_
  generalize ((w.alloc (.cells #[.slice ga n1 gc, .slice oa n2 oc] 26)).alloc (.cells #[.slice ga' n3 gc', .slice oa' n4 oc'] 26)) = wa at *
  rintro e w1 ⟨rfl, hs⟩
  have HB1 : Hid (Below w.heap.size w w1) := HB0.out.trans (hs.mono HB0.out.size)
  obtain ⟨c0, c1⟩ := (x0.below hs (by omega)).cells
  obtain ⟨d0, d1⟩ := (x1.below hs (by omega)).cells
  clear x0 x1 hs G1
  cases B1 with
  | false =>
    go_wp2_with fail
    go_ret
    exact ⟨rfl, HB1.out⟩
  | true =>
    go_wp2_with fail
    refine (G2.out _ HB1.out).mono ?_
    rintro e w2 ⟨rfl, hs2⟩
    have HB2 : Hid (Below w.heap.size w w2) := HB1.out.trans (hs2.mono HB1.out.size)
    clear hs2 c0 c1 d0 d1 G2
    cases B2 with
    | false =>
      go_wp2_with fail
      go_ret
      exact ⟨rfl, HB2.out⟩
    | true =>
      go_wp2_with fail
      go_ret
      exact ⟨rfl, HB2.out⟩
theorem eqLasso_same (u v : Value) (l : La) (w : World) (h : AtLa w u l) (h' : AtLa w v l) :
    Calls Try.prog 38 #[u, v] w fun e w' => e = .returned (.bool true) ∧ Below w.heap.size w w' := by
  have g := eqLasso_any u v l l w h h'
  rw [decide_eq_true rfl] at g
  exact g
set_option maxRecDepth 100000 in
set_option maxHeartbeats 1000000 in
theorem toLasso_any (v : Value) (l : La) (ok : LaOk l) (w : World) (h : AtLa w v l) :
    Calls Try.prog 37 #[v] w fun e w' => ∃ v', e = .returned v' ∧ OwnLa w' w.heap.size w'.heap.size v' l ∧ Below w.heap.size w w' := by
  obtain ⟨g, o, rfl, h1, h2⟩ := h
  obtain ⟨k1, k2⟩ := ok
  have G1 : Hid (∀ w1 : World, Below w.heap.size w w1 → Calls Try.prog 65 #[g] w1 fun e w' => ∃ v', e = .returned v' ∧ w'.ownsRow w1.heap.size 3 1 v' l.1.length (cellsI l.1) ∧ Below w1.heap.size w1 w') := fun w1 hb => toIntS_any g l.1 k1 w1 (h1.below hb)
  have G2 : Hid (∀ w1 : World, Below w.heap.size w w1 → Calls Try.prog 65 #[o] w1 fun e w' => ∃ v', e = .returned v' ∧ w'.ownsRow w1.heap.size 3 1 v' l.2.length (cellsI l.2) ∧ Below w1.heap.size w1 w') := fun w1 hb => toIntS_any o l.2 k2 w1 (h2.below hb)
  obtain ⟨gs, os⟩ := l
  simp only at *
  obtain ⟨gwa, gwc, rfl⟩ := h1.shape
  obtain ⟨owa, owc, rfl⟩ := h2.shape
  generalize hgn : gs.length = gn at *
  generalize hon : os.length = on at *
  have HGN : Hid _ := hgn
  have HON : Hid _ := hon
  clear h1 h2 hgn hon
  go_enter Try.func37, Try.ntmps37
  go_wp2_with fail
  have hb0 : Below w.heap.size w (((w.alloc (.cells #[.slice gwa gn gwc, .slice owa on owc] 44)).alloc (.cells #[.slice none 0 0, .slice none 0 0] 26)).alloc (.cells #[.slice none 0 0, .slice none 0 0] 26)) := (((Below.refl _ _).alloc (Nat.le_refl _) _).alloc (by simp) _).alloc (by simp; omega) _
  have x0 := box2_alloc w 44 (.slice gwa gn gwc) (.slice owa on owc)
  have x1 := box2_alloc (w.alloc (.cells #[.slice gwa gn gwc, .slice owa on owc] 44)) 26 (.slice none 0 0) (.slice none 0 0)
  have x2 := box2_alloc ((w.alloc (.cells #[.slice gwa gn gwc, .slice owa on owc] 44)).alloc (.cells #[.slice none 0 0, .slice none 0 0] 26)) 26 (.slice none 0 0) (.slice none 0 0)
  have y0 := (x0.alloc (.cells #[.slice none 0 0, .slice none 0 0] 26)).alloc (.cells #[.slice none 0 0, .slice none 0 0] 26)
  have y1 := x1.alloc (.cells #[.slice none 0 0, .slice none 0 0] 26)
  simp only [World.size_alloc] at x2 y1
  have g1 := G1.out _ hb0
  have hsz : (((w.alloc (.cells #[.slice gwa gn gwc, .slice owa on owc] 44)).alloc (.cells #[.slice none 0 0, .slice none 0 0] 26)).alloc (.cells #[.slice none 0 0, .slice none 0 0] 26)).heap.size = w.heap.size + 1 + 1 + 1 := by simp only [World.size_alloc]
  refine g1.mono ?_
  generalize (((w.alloc (.cells #[.slice gwa gn gwc, .slice owa on owc] 44)).alloc (.cells #[.slice none 0 0, .slice none 0 0] 26)).alloc (.cells #[.slice none 0 0, .slice none 0 0] 26)) = wa at *
  rintro e w1 ⟨gv1, rfl, og, hs⟩
  obtain ⟨ga, gc, rfl⟩ := own_shape og
  have z0 := (y0.below hs (by omega)).cells
  have z1 := y1.below hs (by omega)
  have z2 := x2.below hs (by omega)
  obtain ⟨c0, c1⟩ := z0
  obtain ⟨d0, d1⟩ := z2.cells
  have f0 := z2.frozen 0
  have zh2 := z2.heap
  clear x0 x1 x2 y0 y1
  have z3 := z2.set0 (.slice ga gn gc)
  have z4 := z1.other (o := 0) (b' := w.heap.size + 1 + 1) (by omega) (.slice ga gn gc)
  have hb1 : Below w.heap.size w (w1.setCell ⟨w.heap.size + 1 + 1, 0, none⟩ (.slice ga gn gc)) := (hb0.trans (hs.mono hb0.size)).setCell (by show w.heap.size ≤ w.heap.size + 1 + 1; omega) _
  have hs1 := hs.size
  have og1 : OffIn w1 wa.heap.size w1.heap.size (.slice ga gn gc) (cellsI gs) := offIn_of og
  have og2 : OffIn (w1.setCell ⟨w.heap.size + 1 + 1, 0, none⟩ (.slice ga gn gc)) wa.heap.size w1.heap.size (.slice ga gn gc) (cellsI gs) := og1.set (by omega)
  have g2 := G2.out _ hb1
  have hsz1 : (w1.setCell ⟨w.heap.size + 1 + 1, 0, none⟩ (.slice ga gn gc)).heap.size = w1.heap.size := by simp [World.setCell]
  have hl1 : w.heap.size + 1 + 1 < w1.heap.size := by omega
  clear g1 G1 G2 z1 z2 og og1
  go_wp2_with fail
  refine g2.mono ?_
  clear g2
  generalize w1.setCell ⟨w.heap.size + 1 + 1, 0, none⟩ (.slice ga gn gc) = wb at *
  rintro e w2 ⟨ov2, rfl, oo, hs2⟩
  obtain ⟨oa, oc, rfl⟩ := own_shape oo
  have z5 := z3.below hs2 (by omega)
  have z6 := z4.below hs2 (by omega)
  have hs2' := hs2.size
  have og3 := og2.same hs2' (fun i h1 h2 => hs2.block i (by omega))
  have hb2 := hb1.trans (hs2.mono hb1.size)
  have oo1 : OffIn w2 wb.heap.size w2.heap.size (.slice oa on oc) (cellsI os) := offIn_of oo
  have hap : Ap3 (.slice ga gn gc) (.slice oa on oc) := ap3_of og3 oo1 (Or.inl (by omega))
  obtain ⟨e0, e1⟩ := z5.cells
  have f3 := z5.frozen 1
  have z7 := z5.set1 (.slice oa on oc)
  have z8 := z6.other (o := 1) (b' := w.heap.size + 1 + 1) (by omega) (.slice oa on oc)
  have f4 := z8.frozen 0
  have f5 := z8.frozen 1
  obtain ⟨r0, r1⟩ := z8.cells
  have hh := z7.heap
  have OG : Hid _ := og3
  have OO : Hid _ := oo1
  have HAP : Hid (Ap3 (.slice ga gn gc) (.slice oa on oc)) := hap
  have HB2 : Hid _ := hb2
  clear oo og2 c0 c1 d0 d1 og3 oo1 hap hb2
  go_wp2_with fail
  have z9 := (z8.set0 (.slice ga gn gc)).set1 (.slice oa on oc)
  refine bodyPost_ret (results_cell_row rfl _ _ (w.heap.size + 1) 26 _ (0, 0) _ rfl z9.heap Try.underlying26 rfl (by kernel_rfl)) rfl ?_
  refine ⟨_, rfl, ⟨_, _, rfl, ?_, ?_, HAP.out⟩, ?_⟩
  · exact OffIn.weak (OffIn.set (OffIn.set (OffIn.set (show OffIn _ _ _ _ (cellsI gs) from OG.out) (Or.inl (by omega))) (Or.inl (by omega))) (Or.inl (by omega))) (by omega) (by simp [World.setCell]; omega) (Nat.le_refl _)
  · exact OffIn.weak (OffIn.set (OffIn.set (OffIn.set (show OffIn _ _ _ _ (cellsI os) from OO.out) (Or.inl (by omega))) (Or.inl (by omega))) (Or.inl (by omega))) (by omega) (by simp [World.setCell]) (Nat.le_refl _)
  · exact ((HB2.out.setCell (by show w.heap.size ≤ w.heap.size + 1 + 1; omega) _).setCell (by show w.heap.size ≤ w.heap.size + 1; omega) _).setCell (by show w.heap.size ≤ w.heap.size + 1; omega) _
theorem Box2.grown {w w' : World} {b : Nat} {e : TypeId} {x y : Value} {row : Option Nat} (h : Box2 w b e x y) (hg : w.grownBy w' row) (hr : row ≠ some b) : Box2 w' b e x y := ⟨by rw [hg.block b h.lt (fun e => hr e.symm)]; exact h.heap⟩
set_option maxRecDepth 100000 in
theorem markLasso_any (v : Value) (l : La) (lo hi : Nat) (k : Int) (ok : LaOk l) (hk0 : 0 ≤ k) (hk : k ≤ 100000000000) (w : World) (h : OwnLa w lo hi v l) :
    Calls Try.prog 40 #[v, .int .i64 k] w fun e w' => e = .returned (.int .i64 (k + lenLa l)) ∧ MarkLa w' lo hi v l k ∧ Touch lo hi w w' := by
  obtain ⟨g, o, rfl, r1, r2, hap⟩ := h
  obtain ⟨k1, k2⟩ := ok
  obtain ⟨gs, os⟩ := l
  simp only at *
  have r1' : OffIn _ lo hi g (cellsI gs) := OffIn.belowR r1 ((Below.refl w.heap.size w).alloc (Nat.le_refl _) (.cells #[g, o] 26)) r1.1
  have r2' : OffIn _ lo hi o (cellsI os) := OffIn.belowR r2 ((Below.refl w.heap.size w).alloc (Nat.le_refl _) (.cells #[g, o] 26)) r2.1
  have x0 := box2_alloc w 26 g o
  have t0 : Touch lo hi w (w.alloc (.cells #[g, o] 26)) := ⟨rfl, rfl, rfl, by simp, fun i hi' _ => by
    show (w.heap.push _)[i]? = _
    rw [Array.getElem?_push_lt hi']
    simp [hi']⟩
  have hhi := r1.1
  obtain ⟨ga, gn, gc, rfl⟩ := OwnOI.shape r1
  obtain ⟨oa, on, oc, rfl⟩ := OwnOI.shape r2
  have g1 := markOff_any (.slice ga gn gc) lo hi _ k (by rw [cellsI_len]; omega) hk0 (by omega) _ r1'
  rw [cellsI_len] at g1
  have hsz : (w.alloc (.cells #[.slice ga gn gc, .slice oa on oc] 26)).heap.size = w.heap.size + 1 := by simp only [World.size_alloc]
  have HL : Hid (k + lenLa (gs, os) = k + gs.length + os.length) := by
    show k + lenLa (gs, os) = _
    unfold lenLa
    simp only
    omega
  obtain ⟨K1, hK1⟩ : ∃ K1 : Int, k + (gs.length : Int) = K1 := ⟨_, rfl⟩
  have hK0 : 0 ≤ K1 := by omega
  have hKu : K1 ≤ 200000000000 := by omega
  rw [hK1] at g1 HL
  have HK1 : Hid _ := hK1
  have HR2 : Hid _ := r2'
  have HAP : Hid (Ap3 (.slice ga gn gc) (.slice oa on oc)) := hap
  have HR1 : Hid _ := r1'
  have HT0 : Hid _ := t0
  clear r1 r2 r1' r2' hK1 hap t0
  go_enter Try.func40, Try.ntmps40
  go_wp2_with fail
  refine g1.mono ?_
  generalize (w.alloc (.cells #[.slice ga gn gc, .slice oa on oc] 26)) = wa at *
  rintro e w1 ⟨rfl, m1, row1, gr1, a1, b1⟩
  have q2 : OffIn w1 lo hi (.slice oa on oc) (cellsI os) := OffIn.kept HR2.out gr1 (fun j hj e => HAP.out j (a1 j e) hj)
  have x1 := x0.grown gr1 (fun e => by have := b1 _ e; omega)
  have t1 := HT0.out.trans (touch_of_grown gr1 b1)
  have g2 := markOff_any (.slice oa on oc) lo hi _ K1 (by rw [cellsI_len]; omega) hK0 (by omega) _ q2
  rw [cellsI_len] at g2
  obtain ⟨c0, c1⟩ := x1.cells
  have M1 : Hid _ := m1
  have T1 : Hid _ := t1
  clear g1 m1 gr1 x0 x1 a1 b1 t1 q2 HR1 HR2 HT0
  go_wp2_with fail
  refine g2.mono ?_
  rintro e w2 ⟨rfl, m2, row2, gr2, a2, b2⟩
  have HM : Hid (MarkLa w2 lo hi (.agg #[.slice ga gn gc, .slice oa on oc]) (gs, os) k) := by
    refine ⟨_, _, rfl, OffIn.kept M1.out gr2 (fun j hj e => HAP.out j hj (a2 j e)), ?_⟩
    show OffIn w2 lo hi _ (marks (k + gs.length) os.length)
    rw [HK1.out]
    exact m2
  have HT : Hid (Touch lo hi w w2) := T1.out.trans (touch_of_grown gr2 b2)
  clear g2 m2 gr2 a2 b2 M1 T1 HK1
  go_wp2_with fail
  go_ret
  exact ⟨ret_int HL.out.symm, HM.out, HT.out⟩
set_option maxRecDepth 100000 in
theorem heldLasso_any (v : Value) (l : La) (lo hi : Nat) (k : Int) (ok : LaOk l) (hk0 : 0 ≤ k) (hk : k ≤ 100000000000) (w : World) (h : MarkLa w lo hi v l k) :
    Calls Try.prog 43 #[v, .int .i64 k] w fun e w' => e = .returned (.int .i64 (k + lenLa l)) ∧ Below w.heap.size w w' := by
  obtain ⟨g, o, rfl, r1, r2⟩ := h
  obtain ⟨k1, k2⟩ := ok
  obtain ⟨gs, os⟩ := l
  simp only at *
  have HB : Hid (Below w.heap.size w (w.alloc (.cells #[g, o] 26))) := (Below.refl w.heap.size w).alloc (Nat.le_refl _) _
  have r1' : OffIn _ lo hi g (marks k gs.length) := OffIn.belowR r1 HB.out r1.1
  have r2' : OffIn _ lo hi o (marks (k + gs.length) os.length) := OffIn.belowR r2 HB.out r2.1
  obtain ⟨ga, gc, rfl⟩ := r1'.shape
  obtain ⟨oa, oc, rfl⟩ := r2'.shape
  simp only [marks_len] at HB r1' r2' ⊢
  have g1 := heldOff_any _ lo hi _ k (by omega) hk0 (by omega) _ r1'
  have g2 := heldOff_any _ lo hi _ (k + gs.length) (by omega) (by omega) (by omega) _ r2'
  have HL : Hid (k + lenLa (gs, os) = k + gs.length + os.length) := by
    show k + lenLa (gs, os) = _
    unfold lenLa
    simp only
    omega
  obtain ⟨K1, hK1⟩ : ∃ K1 : Int, k + (gs.length : Int) = K1 := ⟨_, rfl⟩
  have hK0 : 0 ≤ K1 := by omega
  have hKu : K1 ≤ 200000000000 := by omega
  rw [hK1] at g1 g2
  rw [hK1] at HL
  obtain ⟨K2, hK2⟩ : ∃ K2 : Int, K1 + (os.length : Int) = K2 := ⟨_, rfl⟩
  have hK20 : 0 ≤ K2 := by omega
  have hK2u : K2 ≤ 300000000000 := by omega
  rw [hK2] at g2 HL
  clear r1 r2 r1' r2' hK1 hK2
  go_enter Try.func43, Try.ntmps43
  go_wp2_with fail
  refine g1.mono ?_
  rintro e w1 ⟨rfl, rfl⟩
  clear g1
  go_wp2_with fail
  refine g2.mono ?_
  rintro e w1 ⟨rfl, rfl⟩
  clear g2
  go_wp2_with fail
  go_ret
  exact ⟨ret_int HL.out.symm, HB.out⟩
set_option maxRecDepth 100000 in
open Go.ChangeShapes Go.WideShapes Go.ChangeAt in
theorem lassoAt_of {H : Type} {enc : TypeId × Value → H} {W : World} {base : Nat} {v : Value} {d : DataW H} {p : List MemPlace} (hv : Value.okWide Try.prog W .any base 44 v)
    (h : DataW.Trod enc Try.prog W 0 (fun _ => true) true 44 v d p) : ∃ l : La, AtLa W v l := by
  obtain ⟨cs, rfl, hsz⟩ := okWide_struct Try.underlying44 hv
  obtain ⟨fuel, hf⟩ := h
  obtain ⟨y0, y1, m, _, hl, h0, h1⟩ := trod_two Try.underlying44 hf
  have cS : Try.prog.cellsOf 24 = 1 := by kernel_rfl
  simp only [cS] at h0 h1
  have hsz2 : cs.size = 2 := hsz.trans (by kernel_rfl)
  obtain ⟨l⟩ := cs
  match l, hsz2 with
  | [c0, c1], _ =>
    have sl : ∀ (c : Value) (cs : List Value), cs = [c] → (∃ y, DataW.trod enc Try.prog W 0 (fun _ => true) true m 24 cs = some y) → ∃ a n k, c = .slice a n k := by
      rintro c cs rfl ⟨y, hy⟩
      rcases Deep.open_slice Try.underlying24 hy with ⟨hcs, _⟩ | ⟨x, len, cap, m', n', D, Pl, hcs, _⟩
      · exact ⟨_, _, _, (List.cons.inj hcs).1⟩
      · exact ⟨_, _, _, (List.cons.inj hcs).1⟩
    obtain ⟨a0, n0, k0, rfl⟩ := sl c0 _ (by simp [Value.cells]) ⟨_, h0⟩
    obtain ⟨a1, n1, k1, rfl⟩ := sl c1 _ (by simp [Value.cells]) ⟨_, h1⟩
    have e0 : (List.take 1 (List.drop 0 (Value.agg ⟨[.slice a0 n0 k0, .slice a1 n1 k1]⟩).cells.toList)) = (Value.slice a0 n0 k0).cells.toList := by simp [Value.cells]
    have e1 : (List.take 1 (List.drop 1 (Value.agg ⟨[.slice a0 n0 k0, .slice a1 n1 k1]⟩).cells.toList)) = (Value.slice a1 n1 k1).cells.toList := by simp [Value.cells]
    rw [e0] at h0
    rw [e1] at h1
    obtain ⟨as_, b0⟩ := intsAt_arg ⟨_, h0⟩
    obtain ⟨bs_, b1⟩ := intsAt_arg ⟨_, h1⟩
    exact ⟨(as_, bs_), _, _, rfl, b0, b1⟩
end Go.Proofs.Ythamdefkcjfjpaa
