/-
  The model's LessGates and EqGates.
  The model's AddGates.
  The model's cone: wires that others are made from, put into a list from the last one on.
  ConeOf of the model and of the program.
  The program's AddGates.
  What the model's LessGates, EqGates and AddGates answer, and the program's AddGates, each as one.
  The program's compareGates, with both of its layers.
  The program's LessGates and EqGates; what all six answer, in the form that the laws ask.
  The law of comparing: what the gates of less and of equal carry, for drawn circuits.
-/
import Derived.Test.YtmjeaceabjinfaaKL41
import Derived.Test.YtmjeaceabjinfaaICone
import Derived.Test.YtmjeaceabjinfaaVars
import Derived.Test.YtmjeaceabjinfaaDraw2
import Derived.Test.YtmjeaceabjinfaaRun
import Derived.Deep.CutRange
import Derived.Deep.RegionWith
namespace Go.Proofs.Ytmjeaceabjinfaa
open Go Go.RowKit
open M
set_option linter.unusedVariables false
set_option linter.unusedSimpArgs false

set_option maxRecDepth 100000 in
set_option maxHeartbeats 8000000 in
theorem sLessGates_bad (v av bv : Value) (c : Ci) (a b : List Int) (hsd : sidesB c a b = false) (w : World) (h : AtC w v c) (ha : AtIS w av a) (hb : AtIS w bv b) :
    Calls Try.prog 19 #[v, av, bv] w fun e w' => ∃ r, e = .returned (.tuple #[r, .int .i64 0, .bool false]) ∧ OwnCirc w' w.heap.size w'.heap.size r (0, [], []) ∧ Below w.heap.size w w' := by
  obtain ⟨ga, gn, gc, oa, on, oc, hv⟩ := h.at.shape
  have hgn : gn = c.2.1.length := by
    obtain ⟨_, g, o, hv', h1, _⟩ := h
    obtain ⟨a', cap, hg⟩ := h1.shape
    rw [hv] at hv'
    rw [hg] at hv'
    simp at hv'
    exact hv'.1.2.1
  subst hv
  obtain ⟨aa, ac, hav⟩ := ha.1.shape
  obtain ⟨ba, bc, hbv⟩ := hb.1.shape
  have hb0 : Below w.heap.size w ((w.alloc (.cells #[.int .i64 c.1, .slice ga gn gc, .slice oa on oc] 27)).alloc (.cells #[.int .i64 0, .slice none 0 0, .slice none 0 0] 27)) := below2 _ _ _
  have x0 := (box3_alloc w 27 (.int .i64 c.1) (.slice ga gn gc) (.slice oa on oc)).alloc (.cells #[.int .i64 0, .slice none 0 0, .slice none 0 0] 27)
  have x1 := box3_alloc (w.alloc (.cells #[.int .i64 c.1, .slice ga gn gc, .slice oa on oc] 27)) 27 (.int .i64 0) (.slice none 0 0) (.slice none 0 0)
  simp only [World.size_alloc] at x1
  have g1 := sSides_any _ _ _ c a b _ (h.below hb0).at (ha.1.below hb0) (hb.1.below hb0)
  rw [hsd] at g1
  have hsz : ((w.alloc (.cells #[.int .i64 c.1, .slice ga gn gc, .slice oa on oc] 27)).alloc (.cells #[.int .i64 0, .slice none 0 0, .slice none 0 0] 27)).heap.size = w.heap.size + 1 + 1 := by simp only [World.size_alloc]
  subst hav hbv
  clear hgn h ha hb
  generalize a.length = an at *
  generalize b.length = bn at *
  go_enter Try.func19, Try.ntmps19
  go_wp2_with fail
  refine g1.mono ?_
  rintro e w1 ⟨rfl, hs⟩
  have hb1 := Below.step hb0 hb0.size hs
  have y0 := x0.below hs (by omega)
  have y1 := x1.below hs (by omega)
  have hsz1 := hs.size
  rw [hsz] at hsz1
  clear g1 hs hb0 x0 x1 hsz
  clear y0
  obtain ⟨r0, r1, r2⟩ := y1.cells
  have rh := y1.heap
  have rl := y1.lt
  have rf0 := y1.frozen 0
  have rf1 := y1.frozen 1
  have rf2 := y1.frozen 2
  go_wp2_with fail
  have z1 := ((y1.set0 (.int .i64 0)).set1 (.slice none 0 0)).set2 (.slice none 0 0)
  have hbz := ((hb1.setCell (p := ⟨w.heap.size + 1, 0, none⟩) (Nat.le_succ _) (.int .i64 0)).setCell (p := ⟨w.heap.size + 1, 1, none⟩) (Nat.le_succ _) (.slice none 0 0)).setCell (p := ⟨w.heap.size + 1, 2, none⟩) (Nat.le_succ _) (.slice none 0 0)
  refine bodyPost_ret (results_c2 rfl _ _ (w.heap.size + 1) 27 _ (0, 0) _ rfl z1.heap Try.underlying27 rfl (by kernel_rfl)) rfl ?_
  exact ⟨_, rfl, ⟨_, _, rfl, rowIn_of (World.ownsRow_nil _ _ _ _), rowIn_of (World.ownsRow_nil _ _ _ _)⟩, hbz⟩
set_option maxRecDepth 100000 in
set_option maxHeartbeats 8000000 in
theorem sLessGates_no (v av bv : Value) (c : Ci) (a b : List Int) (hsd : sidesB c a b = true) (hgD : goodC (lessC c a b) = false) (w : World) (h : AtC w v c) (ha : AtIS w av a) (hb : AtIS w bv b) :
    Calls Try.prog 19 #[v, av, bv] w fun e w' => ∃ r, e = .returned (.tuple #[r, .int .i64 0, .bool false]) ∧ OwnCirc w' w.heap.size w'.heap.size r (0, [], []) ∧ Below w.heap.size w w' := by
  obtain ⟨hgd, hl, h16, _, _⟩ := sides_parts hsd
  obtain ⟨hI0, hI1, hG, hO, _, _⟩ := goodC_ins hgd
  obtain ⟨ga, gn, gc, oa, on, oc, hv⟩ := h.at.shape
  have hgn : gn = c.2.1.length := by
    obtain ⟨_, g, o, hv', h1, _⟩ := h
    obtain ⟨a', cap, hg⟩ := h1.shape
    rw [hv] at hv'
    rw [hg] at hv'
    simp at hv'
    exact hv'.1.2.1
  subst hv
  obtain ⟨aa, ac, hav⟩ := ha.1.shape
  obtain ⟨ba, bc, hbv⟩ := hb.1.shape
  have hb0 : Below w.heap.size w ((w.alloc (.cells #[.int .i64 c.1, .slice ga gn gc, .slice oa on oc] 27)).alloc (.cells #[.int .i64 0, .slice none 0 0, .slice none 0 0] 27)) := below2 _ _ _
  have x0 := (box3_alloc w 27 (.int .i64 c.1) (.slice ga gn gc) (.slice oa on oc)).alloc (.cells #[.int .i64 0, .slice none 0 0, .slice none 0 0] 27)
  have x1 := box3_alloc (w.alloc (.cells #[.int .i64 c.1, .slice ga gn gc, .slice oa on oc] 27)) 27 (.int .i64 0) (.slice none 0 0) (.slice none 0 0)
  simp only [World.size_alloc] at x1
  have g1 := sSides_any _ _ _ c a b _ (h.below hb0).at (ha.1.below hb0) (hb.1.below hb0)
  rw [hsd] at g1
  have hsz : ((w.alloc (.cells #[.int .i64 c.1, .slice ga gn gc, .slice oa on oc] 27)).alloc (.cells #[.int .i64 0, .slice none 0 0, .slice none 0 0] 27)).heap.size = w.heap.size + 1 + 1 := by simp only [World.size_alloc]
  have GG : Hid (∀ w1 : World, Below w.heap.size w w1 → Calls Try.prog 79 #[.agg #[.int .i64 c.1, .slice ga gn gc, .slice oa on oc]] w1 fun e w' => ∃ gv ov, e = .returned (.agg #[.int .i64 c.1, gv, ov]) ∧ w'.ownsRow w1.heap.size 108 3 gv c.2.1.length (flat3 c.2.1) ∧ w'.ownsRow w1.heap.size 3 1 ov c.2.2.length (cellsI c.2.2) ∧ Below w1.heap.size w1 w') := fun w1 hw => l4Own_any _ c hI0 hI1 hG hO w1 (h.below hw)
  have GL : Hid (∀ (lo hi bl : Nat) (w1 : World), Bld w1 lo hi bl 105 c → hi ≤ w1.heap.size → w.heap.size ≤ lo → Below w.heap.size w w1 → Calls Try.prog 80 #[.pointer (some ⟨bl, 0, none⟩), av, bv] w1 fun e w' => e = .returned (.int .i64 (onW (wiresN c) (wiresN c + 1) 6 5 a.length)) ∧ Bld w' lo hi bl 105 (lessC c a b) ∧ Below lo w1 w') := fun lo hi bl w1 hB hhi hlo hb' => sLess_any lo hi bl c.1 c.2.1 c.2.2 av bv a b (wiresN c) rfl hI0 hI1 hG hl h16 w1 hB hhi (fun w' hw => ha.1.below (hb'.trans (hw.mono hlo))) (fun w' hw => hb.1.below (hb'.trans (hw.mono hlo)))
  have HGO : Hid (∀ (u : Value) (w1 : World), AtCirc w1 u (lessC c a b) → Calls Try.prog 81 #[u] w1 fun e w' => e = .returned (.bool false) ∧ Below w1.heap.size w1 w') := fun u w1 h1 => by
    have g := sGood_any u _ w1 h1
    rw [hgD] at g
    exact g
  have hfit : Fit (lessC c a b).1 := h.1
  have hDs := lessC_sm hsd
  have hD2 : (lessC c a b).2.2.length ≤ 16 := hO
  rw [hav, hbv] at GL
  obtain ⟨DD, hDD⟩ : ∃ DD, (lessC c a b) = DD := ⟨_, rfl⟩
  rw [hDD] at GL HGO hfit hDs hD2
  obtain ⟨AN, hAN⟩ : ∃ AN : Int, onW (wiresN c) (wiresN c + 1) 6 5 a.length = AN := ⟨_, rfl⟩
  rw [hAN] at GL
  clear hAN
  clear hDD hgD
  subst hav hbv
  clear hgn h ha hb hsd hl h16
  generalize a.length = an at *
  generalize b.length = bn at *
  go_enter Try.func19, Try.ntmps19
  go_wp2_with fail
  refine g1.mono ?_
  rintro e w1 ⟨rfl, hs⟩
  have hb1 := Below.step hb0 hb0.size hs
  have y0 := x0.below hs (by omega)
  have y1 := x1.below hs (by omega)
  have hsz1 := hs.size
  rw [hsz] at hsz1
  clear g1 hs hb0 x0 x1 hsz
  obtain ⟨c0, c1, c2⟩ := y0.cells
  have ch := y0.heap
  have cl := y0.lt
  go_wp2_with fail
  refine (GG.out w1 hb1).mono ?_
  rintro e w3b ⟨gv, ov, rfl, hog, hoo, hst⟩
  clear c0 c1 c2 ch cl
  have hlo : w.heap.size + 1 + 1 ≤ w1.heap.size := by omega
  have hb' : Below w.heap.size w w3b := hb1.trans (hst.mono hb1.size)
  have hst' := hst.size
  have y0' := y0.below hst y0.lt
  have y1' := y1.below hst y1.lt
  clear hst hb1 y0 y1
  have hb1 := hb'
  clear hb'
  have y0 := y0'
  clear y0'
  have y1 := y1'
  clear y1'
  obtain ⟨gva, gvc, hgv⟩ := own_shape hog
  obtain ⟨ova, ovc, hov⟩ := own_shape hoo
  subst hgv hov
  have hB : Bld (w3b.alloc (.cells #[.int .i64 c.1, .slice gva c.2.1.length gvc, .slice ova c.2.2.length ovc] 105)) w1.heap.size w3b.heap.size w3b.heap.size 105 c := ⟨hst', _, _, box3_alloc _ _ _ _ _, hog.alloc _, hoo.alloc _, fun k' hk' => (own_block hoo hk').2⟩
  have hb1a : Below w.heap.size w (w3b.alloc (.cells #[.int .i64 c.1, .slice gva c.2.1.length gvc, .slice ova c.2.2.length ovc] 105)) := hb1.alloc hb1.size _
  have y0a := y0.alloc (.cells #[.int .i64 c.1, .slice gva c.2.1.length gvc, .slice ova c.2.2.length ovc] 105)
  have y1a := y1.alloc (.cells #[.int .i64 c.1, .slice gva c.2.1.length gvc, .slice ova c.2.2.length ovc] 105)
  have hsza : (w3b.alloc (.cells #[.int .i64 c.1, .slice gva c.2.1.length gvc, .slice ova c.2.2.length ovc] 105)).heap.size = w3b.heap.size + 1 := by simp only [World.size_alloc]
  go_wp2_with fail
  generalize (w3b.alloc (.cells #[.int .i64 c.1, .slice gva c.2.1.length gvc, .slice ova c.2.2.length ovc] 105)) = w4 at *
  have hhi : w3b.heap.size ≤ w4.heap.size := by omega
  clear hb1 y0 y1 hog hoo hsza
  have hb1 := hb1a
  clear hb1a
  have y0 := y0a
  clear y0a
  have y1 := y1a
  clear y1a
  refine (GL.out w1.heap.size w3b.heap.size w3b.heap.size w4 hB hhi (by omega) hb1).mono ?_
  rintro e w5 ⟨rfl, hB5, hs5⟩
  have hst : Below w.heap.size w w5 := hb1.trans (hs5.mono (by omega))
  have y1' := y1.below hs5 (by omega)
  have hs5' := hs5.size
  obtain ⟨gsl, osl, hx5, hat, hog5, hoo5, hob5⟩ := hB5.reads hfit hDs.1 (by omega) (by omega)
  clear hB hB5 y0 y1 hs5 GG GL hb1
  have hb1 := hst
  clear hst
  have y1 := y1'
  clear y1'
  obtain ⟨sga, sgc, hsg⟩ := own_shape hog5
  obtain ⟨soa, soc, hso⟩ := own_shape hoo5
  subst hsg hso
  have hblo : w1.heap.size ≤ w3b.heap.size := by first | exact hst' | omega
  obtain ⟨c0, c1, c2⟩ := hx5.cells
  have ch := hx5.heap
  have cl := hx5.lt
  go_wp2_with fail
  refine (HGO.out _ w5 hat).mono ?_
  rintro e w6 ⟨rfl, hst⟩
  have hb' : Below w.heap.size w w6 := hb1.trans (hst.mono hb1.size)
  have y1' := y1.below hst y1.lt
  have hx6 := hx5.below hst hx5.lt
  have hog6 := owns_below hog5 hst
  have hoo6 := owns_below hoo5 hst
  have hst6 := hst.size
  clear hst hb1 y1 hx5 hog5 hoo5 hat HGO c0 c1 c2 ch cl
  have hb1 := hb'
  clear hb'
  have y1 := y1'
  clear y1'
  have y0 := True.intro
  clear y0
  obtain ⟨r0, r1, r2⟩ := y1.cells
  have rh := y1.heap
  have rl := y1.lt
  have rf0 := y1.frozen 0
  have rf1 := y1.frozen 1
  have rf2 := y1.frozen 2
  go_wp2_with fail
  have z1 := ((y1.set0 (.int .i64 0)).set1 (.slice none 0 0)).set2 (.slice none 0 0)
  have hbz := ((hb1.setCell (p := ⟨w.heap.size + 1, 0, none⟩) (Nat.le_succ _) (.int .i64 0)).setCell (p := ⟨w.heap.size + 1, 1, none⟩) (Nat.le_succ _) (.slice none 0 0)).setCell (p := ⟨w.heap.size + 1, 2, none⟩) (Nat.le_succ _) (.slice none 0 0)
  refine bodyPost_ret (results_c2 rfl _ _ (w.heap.size + 1) 27 _ (0, 0) _ rfl z1.heap Try.underlying27 rfl (by kernel_rfl)) rfl ?_
  exact ⟨_, rfl, ⟨_, _, rfl, rowIn_of (World.ownsRow_nil _ _ _ _), rowIn_of (World.ownsRow_nil _ _ _ _)⟩, hbz⟩
set_option maxRecDepth 100000 in
set_option maxHeartbeats 8000000 in
theorem sLessGates_yes (v av bv : Value) (c : Ci) (a b : List Int) (hsd : sidesB c a b = true) (hgD : goodC (lessC c a b) = true) (w : World) (h : AtC w v c) (ha : AtIS w av a) (hb : AtIS w bv b) :
    Calls Try.prog 19 #[v, av, bv] w fun e w' => ∃ r, e = .returned (.tuple #[r, .int .i64 (onW (wiresN c) (wiresN c + 1) 6 5 a.length), .bool true]) ∧ OwnCirc w' w.heap.size w'.heap.size r (lessC c a b) ∧ Below w.heap.size w w' := by
  obtain ⟨hgd, hl, h16, _, _⟩ := sides_parts hsd
  obtain ⟨hI0, hI1, hG, hO, _, _⟩ := goodC_ins hgd
  obtain ⟨ga, gn, gc, oa, on, oc, hv⟩ := h.at.shape
  have hgn : gn = c.2.1.length := by
    obtain ⟨_, g, o, hv', h1, _⟩ := h
    obtain ⟨a', cap, hg⟩ := h1.shape
    rw [hv] at hv'
    rw [hg] at hv'
    simp at hv'
    exact hv'.1.2.1
  subst hv
  obtain ⟨aa, ac, hav⟩ := ha.1.shape
  obtain ⟨ba, bc, hbv⟩ := hb.1.shape
  have hb0 : Below w.heap.size w ((w.alloc (.cells #[.int .i64 c.1, .slice ga gn gc, .slice oa on oc] 27)).alloc (.cells #[.int .i64 0, .slice none 0 0, .slice none 0 0] 27)) := below2 _ _ _
  have x0 := (box3_alloc w 27 (.int .i64 c.1) (.slice ga gn gc) (.slice oa on oc)).alloc (.cells #[.int .i64 0, .slice none 0 0, .slice none 0 0] 27)
  have x1 := box3_alloc (w.alloc (.cells #[.int .i64 c.1, .slice ga gn gc, .slice oa on oc] 27)) 27 (.int .i64 0) (.slice none 0 0) (.slice none 0 0)
  simp only [World.size_alloc] at x1
  have g1 := sSides_any _ _ _ c a b _ (h.below hb0).at (ha.1.below hb0) (hb.1.below hb0)
  rw [hsd] at g1
  have hsz : ((w.alloc (.cells #[.int .i64 c.1, .slice ga gn gc, .slice oa on oc] 27)).alloc (.cells #[.int .i64 0, .slice none 0 0, .slice none 0 0] 27)).heap.size = w.heap.size + 1 + 1 := by simp only [World.size_alloc]
  have GG : Hid (∀ w1 : World, Below w.heap.size w w1 → Calls Try.prog 79 #[.agg #[.int .i64 c.1, .slice ga gn gc, .slice oa on oc]] w1 fun e w' => ∃ gv ov, e = .returned (.agg #[.int .i64 c.1, gv, ov]) ∧ w'.ownsRow w1.heap.size 108 3 gv c.2.1.length (flat3 c.2.1) ∧ w'.ownsRow w1.heap.size 3 1 ov c.2.2.length (cellsI c.2.2) ∧ Below w1.heap.size w1 w') := fun w1 hw => l4Own_any _ c hI0 hI1 hG hO w1 (h.below hw)
  have GL : Hid (∀ (lo hi bl : Nat) (w1 : World), Bld w1 lo hi bl 105 c → hi ≤ w1.heap.size → w.heap.size ≤ lo → Below w.heap.size w w1 → Calls Try.prog 80 #[.pointer (some ⟨bl, 0, none⟩), av, bv] w1 fun e w' => e = .returned (.int .i64 (onW (wiresN c) (wiresN c + 1) 6 5 a.length)) ∧ Bld w' lo hi bl 105 (lessC c a b) ∧ Below lo w1 w') := fun lo hi bl w1 hB hhi hlo hb' => sLess_any lo hi bl c.1 c.2.1 c.2.2 av bv a b (wiresN c) rfl hI0 hI1 hG hl h16 w1 hB hhi (fun w' hw => ha.1.below (hb'.trans (hw.mono hlo))) (fun w' hw => hb.1.below (hb'.trans (hw.mono hlo)))
  have HGO : Hid (∀ (u : Value) (w1 : World), AtCirc w1 u (lessC c a b) → Calls Try.prog 81 #[u] w1 fun e w' => e = .returned (.bool true) ∧ Below w1.heap.size w1 w') := fun u w1 h1 => by
    have g := sGood_any u _ w1 h1
    rw [hgD] at g
    exact g
  have hfit : Fit (lessC c a b).1 := h.1
  have hDs := lessC_sm hsd
  have hD2 : (lessC c a b).2.2.length ≤ 16 := hO
  rw [hav, hbv] at GL
  obtain ⟨DD, hDD⟩ : ∃ DD, (lessC c a b) = DD := ⟨_, rfl⟩
  rw [hDD] at GL HGO hfit hDs hD2 ⊢
  obtain ⟨AN, hAN⟩ : ∃ AN : Int, onW (wiresN c) (wiresN c + 1) 6 5 a.length = AN := ⟨_, rfl⟩
  rw [hAN] at GL ⊢
  clear hAN
  clear hDD hgD
  subst hav hbv
  clear hgn h ha hb hsd hl h16
  generalize a.length = an at *
  generalize b.length = bn at *
  go_enter Try.func19, Try.ntmps19
  go_wp2_with fail
  refine g1.mono ?_
  rintro e w1 ⟨rfl, hs⟩
  have hb1 := Below.step hb0 hb0.size hs
  have y0 := x0.below hs (by omega)
  have y1 := x1.below hs (by omega)
  have hsz1 := hs.size
  rw [hsz] at hsz1
  clear g1 hs hb0 x0 x1 hsz
  obtain ⟨c0, c1, c2⟩ := y0.cells
  have ch := y0.heap
  have cl := y0.lt
  go_wp2_with fail
  refine (GG.out w1 hb1).mono ?_
  rintro e w3b ⟨gv, ov, rfl, hog, hoo, hst⟩
  clear c0 c1 c2 ch cl
  have hlo : w.heap.size + 1 + 1 ≤ w1.heap.size := by omega
  have hb' : Below w.heap.size w w3b := hb1.trans (hst.mono hb1.size)
  have hst' := hst.size
  have y0' := y0.below hst y0.lt
  have y1' := y1.below hst y1.lt
  clear hst hb1 y0 y1
  have hb1 := hb'
  clear hb'
  have y0 := y0'
  clear y0'
  have y1 := y1'
  clear y1'
  obtain ⟨gva, gvc, hgv⟩ := own_shape hog
  obtain ⟨ova, ovc, hov⟩ := own_shape hoo
  subst hgv hov
  have hB : Bld (w3b.alloc (.cells #[.int .i64 c.1, .slice gva c.2.1.length gvc, .slice ova c.2.2.length ovc] 105)) w1.heap.size w3b.heap.size w3b.heap.size 105 c := ⟨hst', _, _, box3_alloc _ _ _ _ _, hog.alloc _, hoo.alloc _, fun k' hk' => (own_block hoo hk').2⟩
  have hb1a : Below w.heap.size w (w3b.alloc (.cells #[.int .i64 c.1, .slice gva c.2.1.length gvc, .slice ova c.2.2.length ovc] 105)) := hb1.alloc hb1.size _
  have y0a := y0.alloc (.cells #[.int .i64 c.1, .slice gva c.2.1.length gvc, .slice ova c.2.2.length ovc] 105)
  have y1a := y1.alloc (.cells #[.int .i64 c.1, .slice gva c.2.1.length gvc, .slice ova c.2.2.length ovc] 105)
  have hsza : (w3b.alloc (.cells #[.int .i64 c.1, .slice gva c.2.1.length gvc, .slice ova c.2.2.length ovc] 105)).heap.size = w3b.heap.size + 1 := by simp only [World.size_alloc]
  go_wp2_with fail
  generalize (w3b.alloc (.cells #[.int .i64 c.1, .slice gva c.2.1.length gvc, .slice ova c.2.2.length ovc] 105)) = w4 at *
  have hhi : w3b.heap.size ≤ w4.heap.size := by omega
  clear hb1 y0 y1 hog hoo hsza
  have hb1 := hb1a
  clear hb1a
  have y0 := y0a
  clear y0a
  have y1 := y1a
  clear y1a
  refine (GL.out w1.heap.size w3b.heap.size w3b.heap.size w4 hB hhi (by omega) hb1).mono ?_
  rintro e w5 ⟨rfl, hB5, hs5⟩
  have hst : Below w.heap.size w w5 := hb1.trans (hs5.mono (by omega))
  have y1' := y1.below hs5 (by omega)
  have hs5' := hs5.size
  obtain ⟨gsl, osl, hx5, hat, hog5, hoo5, hob5⟩ := hB5.reads hfit hDs.1 (by omega) (by omega)
  clear hB hB5 y0 y1 hs5 GG GL hb1
  have hb1 := hst
  clear hst
  have y1 := y1'
  clear y1'
  obtain ⟨sga, sgc, hsg⟩ := own_shape hog5
  obtain ⟨soa, soc, hso⟩ := own_shape hoo5
  subst hsg hso
  have hblo : w1.heap.size ≤ w3b.heap.size := by first | exact hst' | omega
  obtain ⟨c0, c1, c2⟩ := hx5.cells
  have ch := hx5.heap
  have cl := hx5.lt
  go_wp2_with fail
  refine (HGO.out _ w5 hat).mono ?_
  rintro e w6 ⟨rfl, hst⟩
  have hb' : Below w.heap.size w w6 := hb1.trans (hst.mono hb1.size)
  have y1' := y1.below hst y1.lt
  have hx6 := hx5.below hst hx5.lt
  have hog6 := owns_below hog5 hst
  have hoo6 := owns_below hoo5 hst
  have hst6 := hst.size
  clear hst hb1 y1 hx5 hog5 hoo5 hat HGO c0 c1 c2 ch cl
  have hb1 := hb'
  clear hb'
  have y1 := y1'
  clear y1'
  obtain ⟨c0, c1, c2⟩ := hx6.cells
  have ch := hx6.heap
  have cl := hx6.lt
  obtain ⟨r0, r1, r2⟩ := y1.cells
  have rh := y1.heap
  have rl := y1.lt
  have rf0 := y1.frozen 0
  have rf1 := y1.frozen 1
  have rf2 := y1.frozen 2
  have hgl : DD.2.1.length ≤ 500 := hDs.2
  have HZ : Hid _ := ((y1.set0 (.int .i64 DD.1)).set1 (.slice sga DD.2.1.length sgc)).set2 (.slice soa DD.2.2.length soc)
  have HBZ : Hid _ := ((hb1.setCell (p := ⟨w.heap.size + 1, 0, none⟩) (Nat.le_succ _) (.int .i64 DD.1)).setCell (p := ⟨w.heap.size + 1, 1, none⟩) (Nat.le_succ _) (.slice sga DD.2.1.length sgc)).setCell (p := ⟨w.heap.size + 1, 2, none⟩) (Nat.le_succ _) (.slice soa DD.2.2.length soc)
  have HGZ : Hid _ := own_set (b := w.heap.size + 1) (o := 2) (u := .slice soa DD.2.2.length soc) (own_set (b := w.heap.size + 1) (o := 1) (u := .slice sga DD.2.1.length sgc) (own_set (b := w.heap.size + 1) (o := 0) (u := .int .i64 DD.1) hog6 (by omega)) (by omega)) (by omega)
  have HOZ : Hid _ := own_set (b := w.heap.size + 1) (o := 2) (u := .slice soa DD.2.2.length soc) (own_set (b := w.heap.size + 1) (o := 1) (u := .slice sga DD.2.1.length sgc) (own_set (b := w.heap.size + 1) (o := 0) (u := .int .i64 DD.1) hoo6 (by omega)) (by omega)) (by omega)
  have hne : w3b.heap.size ≠ w.heap.size + 1 := by omega
  clear hx6 y1 hog6 hoo6 hb1 hob5
  generalize hdg : DD.2.1.length = dg at *
  generalize hdo : DD.2.2.length = dq at *
  go_wp2_with fail
  refine bodyPost_ret (results_c2 rfl _ _ (w.heap.size + 1) 27 _ (0, 0) _ rfl HZ.out.heap Try.underlying27 rfl (by kernel_rfl)) rfl ?_
  exact ⟨_, rfl, ⟨.slice sga dg sgc, .slice soa dq soc, rfl, by rw [hdg]; exact rowIn_of (own_base HGZ.out (by omega)), by rw [hdo]; exact rowIn_of (own_base HOZ.out (by omega))⟩, HBZ.out⟩
set_option maxRecDepth 100000 in
set_option maxHeartbeats 8000000 in
theorem sEqGates_bad (v av bv : Value) (c : Ci) (a b : List Int) (hsd : sidesB c a b = false) (w : World) (h : AtC w v c) (ha : AtIS w av a) (hb : AtIS w bv b) :
    Calls Try.prog 22 #[v, av, bv] w fun e w' => ∃ r, e = .returned (.tuple #[r, .int .i64 0, .bool false]) ∧ OwnCirc w' w.heap.size w'.heap.size r (0, [], []) ∧ Below w.heap.size w w' := by
  obtain ⟨ga, gn, gc, oa, on, oc, hv⟩ := h.at.shape
  have hgn : gn = c.2.1.length := by
    obtain ⟨_, g, o, hv', h1, _⟩ := h
    obtain ⟨a', cap, hg⟩ := h1.shape
    rw [hv] at hv'
    rw [hg] at hv'
    simp at hv'
    exact hv'.1.2.1
  subst hv
  obtain ⟨aa, ac, hav⟩ := ha.1.shape
  obtain ⟨ba, bc, hbv⟩ := hb.1.shape
  have hb0 : Below w.heap.size w ((w.alloc (.cells #[.int .i64 c.1, .slice ga gn gc, .slice oa on oc] 27)).alloc (.cells #[.int .i64 0, .slice none 0 0, .slice none 0 0] 27)) := below2 _ _ _
  have x0 := (box3_alloc w 27 (.int .i64 c.1) (.slice ga gn gc) (.slice oa on oc)).alloc (.cells #[.int .i64 0, .slice none 0 0, .slice none 0 0] 27)
  have x1 := box3_alloc (w.alloc (.cells #[.int .i64 c.1, .slice ga gn gc, .slice oa on oc] 27)) 27 (.int .i64 0) (.slice none 0 0) (.slice none 0 0)
  simp only [World.size_alloc] at x1
  have g1 := sSides_any _ _ _ c a b _ (h.below hb0).at (ha.1.below hb0) (hb.1.below hb0)
  rw [hsd] at g1
  have hsz : ((w.alloc (.cells #[.int .i64 c.1, .slice ga gn gc, .slice oa on oc] 27)).alloc (.cells #[.int .i64 0, .slice none 0 0, .slice none 0 0] 27)).heap.size = w.heap.size + 1 + 1 := by simp only [World.size_alloc]
  subst hav hbv
  clear hgn h ha hb
  generalize a.length = an at *
  generalize b.length = bn at *
  go_enter Try.func22, Try.ntmps22
  go_wp2_with fail
  refine g1.mono ?_
  rintro e w1 ⟨rfl, hs⟩
  have hb1 := Below.step hb0 hb0.size hs
  have y0 := x0.below hs (by omega)
  have y1 := x1.below hs (by omega)
  have hsz1 := hs.size
  rw [hsz] at hsz1
  clear g1 hs hb0 x0 x1 hsz
  clear y0
  obtain ⟨r0, r1, r2⟩ := y1.cells
  have rh := y1.heap
  have rl := y1.lt
  have rf0 := y1.frozen 0
  have rf1 := y1.frozen 1
  have rf2 := y1.frozen 2
  go_wp2_with fail
  have z1 := ((y1.set0 (.int .i64 0)).set1 (.slice none 0 0)).set2 (.slice none 0 0)
  have hbz := ((hb1.setCell (p := ⟨w.heap.size + 1, 0, none⟩) (Nat.le_succ _) (.int .i64 0)).setCell (p := ⟨w.heap.size + 1, 1, none⟩) (Nat.le_succ _) (.slice none 0 0)).setCell (p := ⟨w.heap.size + 1, 2, none⟩) (Nat.le_succ _) (.slice none 0 0)
  refine bodyPost_ret (results_c2 rfl _ _ (w.heap.size + 1) 27 _ (0, 0) _ rfl z1.heap Try.underlying27 rfl (by kernel_rfl)) rfl ?_
  exact ⟨_, rfl, ⟨_, _, rfl, rowIn_of (World.ownsRow_nil _ _ _ _), rowIn_of (World.ownsRow_nil _ _ _ _)⟩, hbz⟩
set_option maxRecDepth 100000 in
set_option maxHeartbeats 8000000 in
theorem sEqGates_no (v av bv : Value) (c : Ci) (a b : List Int) (hsd : sidesB c a b = true) (hgD : goodC (eqC c a b) = false) (w : World) (h : AtC w v c) (ha : AtIS w av a) (hb : AtIS w bv b) :
    Calls Try.prog 22 #[v, av, bv] w fun e w' => ∃ r, e = .returned (.tuple #[r, .int .i64 0, .bool false]) ∧ OwnCirc w' w.heap.size w'.heap.size r (0, [], []) ∧ Below w.heap.size w w' := by
  obtain ⟨hgd, hl, h16, _, _⟩ := sides_parts hsd
  obtain ⟨hI0, hI1, hG, hO, _, _⟩ := goodC_ins hgd
  obtain ⟨ga, gn, gc, oa, on, oc, hv⟩ := h.at.shape
  have hgn : gn = c.2.1.length := by
    obtain ⟨_, g, o, hv', h1, _⟩ := h
    obtain ⟨a', cap, hg⟩ := h1.shape
    rw [hv] at hv'
    rw [hg] at hv'
    simp at hv'
    exact hv'.1.2.1
  subst hv
  obtain ⟨aa, ac, hav⟩ := ha.1.shape
  obtain ⟨ba, bc, hbv⟩ := hb.1.shape
  have hb0 : Below w.heap.size w ((w.alloc (.cells #[.int .i64 c.1, .slice ga gn gc, .slice oa on oc] 27)).alloc (.cells #[.int .i64 0, .slice none 0 0, .slice none 0 0] 27)) := below2 _ _ _
  have x0 := (box3_alloc w 27 (.int .i64 c.1) (.slice ga gn gc) (.slice oa on oc)).alloc (.cells #[.int .i64 0, .slice none 0 0, .slice none 0 0] 27)
  have x1 := box3_alloc (w.alloc (.cells #[.int .i64 c.1, .slice ga gn gc, .slice oa on oc] 27)) 27 (.int .i64 0) (.slice none 0 0) (.slice none 0 0)
  simp only [World.size_alloc] at x1
  have g1 := sSides_any _ _ _ c a b _ (h.below hb0).at (ha.1.below hb0) (hb.1.below hb0)
  rw [hsd] at g1
  have hsz : ((w.alloc (.cells #[.int .i64 c.1, .slice ga gn gc, .slice oa on oc] 27)).alloc (.cells #[.int .i64 0, .slice none 0 0, .slice none 0 0] 27)).heap.size = w.heap.size + 1 + 1 := by simp only [World.size_alloc]
  have GG : Hid (∀ w1 : World, Below w.heap.size w w1 → Calls Try.prog 79 #[.agg #[.int .i64 c.1, .slice ga gn gc, .slice oa on oc]] w1 fun e w' => ∃ gv ov, e = .returned (.agg #[.int .i64 c.1, gv, ov]) ∧ w'.ownsRow w1.heap.size 108 3 gv c.2.1.length (flat3 c.2.1) ∧ w'.ownsRow w1.heap.size 3 1 ov c.2.2.length (cellsI c.2.2) ∧ Below w1.heap.size w1 w') := fun w1 hw => l4Own_any _ c hI0 hI1 hG hO w1 (h.below hw)
  have GL : Hid (∀ (lo hi bl : Nat) (w1 : World), Bld w1 lo hi bl 105 c → hi ≤ w1.heap.size → w.heap.size ≤ lo → Below w.heap.size w w1 → Calls Try.prog 83 #[.pointer (some ⟨bl, 0, none⟩), av, bv] w1 fun e w' => e = .returned (.int .i64 (onW (wiresN c) (wiresN c + 1) 3 2 a.length)) ∧ Bld w' lo hi bl 105 (eqC c a b) ∧ Below lo w1 w') := fun lo hi bl w1 hB hhi hlo hb' => sEq_any lo hi bl c.1 c.2.1 c.2.2 av bv a b (wiresN c) rfl hI0 hI1 hG hl h16 w1 hB hhi (fun w' hw => ha.1.below (hb'.trans (hw.mono hlo))) (fun w' hw => hb.1.below (hb'.trans (hw.mono hlo)))
  have HGO : Hid (∀ (u : Value) (w1 : World), AtCirc w1 u (eqC c a b) → Calls Try.prog 81 #[u] w1 fun e w' => e = .returned (.bool false) ∧ Below w1.heap.size w1 w') := fun u w1 h1 => by
    have g := sGood_any u _ w1 h1
    rw [hgD] at g
    exact g
  have hfit : Fit (eqC c a b).1 := h.1
  have hDs := eqC_sm hsd
  have hD2 : (eqC c a b).2.2.length ≤ 16 := hO
  rw [hav, hbv] at GL
  obtain ⟨DD, hDD⟩ : ∃ DD, (eqC c a b) = DD := ⟨_, rfl⟩
  rw [hDD] at GL HGO hfit hDs hD2
  obtain ⟨AN, hAN⟩ : ∃ AN : Int, onW (wiresN c) (wiresN c + 1) 3 2 a.length = AN := ⟨_, rfl⟩
  rw [hAN] at GL
  clear hAN
  clear hDD hgD
  subst hav hbv
  clear hgn h ha hb hsd hl h16
  generalize a.length = an at *
  generalize b.length = bn at *
  go_enter Try.func22, Try.ntmps22
  go_wp2_with fail
  refine g1.mono ?_
  rintro e w1 ⟨rfl, hs⟩
  have hb1 := Below.step hb0 hb0.size hs
  have y0 := x0.below hs (by omega)
  have y1 := x1.below hs (by omega)
  have hsz1 := hs.size
  rw [hsz] at hsz1
  clear g1 hs hb0 x0 x1 hsz
  obtain ⟨c0, c1, c2⟩ := y0.cells
  have ch := y0.heap
  have cl := y0.lt
  go_wp2_with fail
  refine (GG.out w1 hb1).mono ?_
  rintro e w3b ⟨gv, ov, rfl, hog, hoo, hst⟩
  clear c0 c1 c2 ch cl
  have hlo : w.heap.size + 1 + 1 ≤ w1.heap.size := by omega
  have hb' : Below w.heap.size w w3b := hb1.trans (hst.mono hb1.size)
  have hst' := hst.size
  have y0' := y0.below hst y0.lt
  have y1' := y1.below hst y1.lt
  clear hst hb1 y0 y1
  have hb1 := hb'
  clear hb'
  have y0 := y0'
  clear y0'
  have y1 := y1'
  clear y1'
  obtain ⟨gva, gvc, hgv⟩ := own_shape hog
  obtain ⟨ova, ovc, hov⟩ := own_shape hoo
  subst hgv hov
  have hB : Bld (w3b.alloc (.cells #[.int .i64 c.1, .slice gva c.2.1.length gvc, .slice ova c.2.2.length ovc] 105)) w1.heap.size w3b.heap.size w3b.heap.size 105 c := ⟨hst', _, _, box3_alloc _ _ _ _ _, hog.alloc _, hoo.alloc _, fun k' hk' => (own_block hoo hk').2⟩
  have hb1a : Below w.heap.size w (w3b.alloc (.cells #[.int .i64 c.1, .slice gva c.2.1.length gvc, .slice ova c.2.2.length ovc] 105)) := hb1.alloc hb1.size _
  have y0a := y0.alloc (.cells #[.int .i64 c.1, .slice gva c.2.1.length gvc, .slice ova c.2.2.length ovc] 105)
  have y1a := y1.alloc (.cells #[.int .i64 c.1, .slice gva c.2.1.length gvc, .slice ova c.2.2.length ovc] 105)
  have hsza : (w3b.alloc (.cells #[.int .i64 c.1, .slice gva c.2.1.length gvc, .slice ova c.2.2.length ovc] 105)).heap.size = w3b.heap.size + 1 := by simp only [World.size_alloc]
  go_wp2_with fail
  generalize (w3b.alloc (.cells #[.int .i64 c.1, .slice gva c.2.1.length gvc, .slice ova c.2.2.length ovc] 105)) = w4 at *
  have hhi : w3b.heap.size ≤ w4.heap.size := by omega
  clear hb1 y0 y1 hog hoo hsza
  have hb1 := hb1a
  clear hb1a
  have y0 := y0a
  clear y0a
  have y1 := y1a
  clear y1a
  refine (GL.out w1.heap.size w3b.heap.size w3b.heap.size w4 hB hhi (by omega) hb1).mono ?_
  rintro e w5 ⟨rfl, hB5, hs5⟩
  have hst : Below w.heap.size w w5 := hb1.trans (hs5.mono (by omega))
  have y1' := y1.below hs5 (by omega)
  have hs5' := hs5.size
  obtain ⟨gsl, osl, hx5, hat, hog5, hoo5, hob5⟩ := hB5.reads hfit hDs.1 (by omega) (by omega)
  clear hB hB5 y0 y1 hs5 GG GL hb1
  have hb1 := hst
  clear hst
  have y1 := y1'
  clear y1'
  obtain ⟨sga, sgc, hsg⟩ := own_shape hog5
  obtain ⟨soa, soc, hso⟩ := own_shape hoo5
  subst hsg hso
  have hblo : w1.heap.size ≤ w3b.heap.size := by first | exact hst' | omega
  obtain ⟨c0, c1, c2⟩ := hx5.cells
  have ch := hx5.heap
  have cl := hx5.lt
  go_wp2_with fail
  refine (HGO.out _ w5 hat).mono ?_
  rintro e w6 ⟨rfl, hst⟩
  have hb' : Below w.heap.size w w6 := hb1.trans (hst.mono hb1.size)
  have y1' := y1.below hst y1.lt
  have hx6 := hx5.below hst hx5.lt
  have hog6 := owns_below hog5 hst
  have hoo6 := owns_below hoo5 hst
  have hst6 := hst.size
  clear hst hb1 y1 hx5 hog5 hoo5 hat HGO c0 c1 c2 ch cl
  have hb1 := hb'
  clear hb'
  have y1 := y1'
  clear y1'
  have y0 := True.intro
  clear y0
  obtain ⟨r0, r1, r2⟩ := y1.cells
  have rh := y1.heap
  have rl := y1.lt
  have rf0 := y1.frozen 0
  have rf1 := y1.frozen 1
  have rf2 := y1.frozen 2
  go_wp2_with fail
  have z1 := ((y1.set0 (.int .i64 0)).set1 (.slice none 0 0)).set2 (.slice none 0 0)
  have hbz := ((hb1.setCell (p := ⟨w.heap.size + 1, 0, none⟩) (Nat.le_succ _) (.int .i64 0)).setCell (p := ⟨w.heap.size + 1, 1, none⟩) (Nat.le_succ _) (.slice none 0 0)).setCell (p := ⟨w.heap.size + 1, 2, none⟩) (Nat.le_succ _) (.slice none 0 0)
  refine bodyPost_ret (results_c2 rfl _ _ (w.heap.size + 1) 27 _ (0, 0) _ rfl z1.heap Try.underlying27 rfl (by kernel_rfl)) rfl ?_
  exact ⟨_, rfl, ⟨_, _, rfl, rowIn_of (World.ownsRow_nil _ _ _ _), rowIn_of (World.ownsRow_nil _ _ _ _)⟩, hbz⟩
set_option maxRecDepth 100000 in
set_option maxHeartbeats 8000000 in
theorem sEqGates_yes (v av bv : Value) (c : Ci) (a b : List Int) (hsd : sidesB c a b = true) (hgD : goodC (eqC c a b) = true) (w : World) (h : AtC w v c) (ha : AtIS w av a) (hb : AtIS w bv b) :
    Calls Try.prog 22 #[v, av, bv] w fun e w' => ∃ r, e = .returned (.tuple #[r, .int .i64 (onW (wiresN c) (wiresN c + 1) 3 2 a.length), .bool true]) ∧ OwnCirc w' w.heap.size w'.heap.size r (eqC c a b) ∧ Below w.heap.size w w' := by
  obtain ⟨hgd, hl, h16, _, _⟩ := sides_parts hsd
  obtain ⟨hI0, hI1, hG, hO, _, _⟩ := goodC_ins hgd
  obtain ⟨ga, gn, gc, oa, on, oc, hv⟩ := h.at.shape
  have hgn : gn = c.2.1.length := by
    obtain ⟨_, g, o, hv', h1, _⟩ := h
    obtain ⟨a', cap, hg⟩ := h1.shape
    rw [hv] at hv'
    rw [hg] at hv'
    simp at hv'
    exact hv'.1.2.1
  subst hv
  obtain ⟨aa, ac, hav⟩ := ha.1.shape
  obtain ⟨ba, bc, hbv⟩ := hb.1.shape
  have hb0 : Below w.heap.size w ((w.alloc (.cells #[.int .i64 c.1, .slice ga gn gc, .slice oa on oc] 27)).alloc (.cells #[.int .i64 0, .slice none 0 0, .slice none 0 0] 27)) := below2 _ _ _
  have x0 := (box3_alloc w 27 (.int .i64 c.1) (.slice ga gn gc) (.slice oa on oc)).alloc (.cells #[.int .i64 0, .slice none 0 0, .slice none 0 0] 27)
  have x1 := box3_alloc (w.alloc (.cells #[.int .i64 c.1, .slice ga gn gc, .slice oa on oc] 27)) 27 (.int .i64 0) (.slice none 0 0) (.slice none 0 0)
  simp only [World.size_alloc] at x1
  have g1 := sSides_any _ _ _ c a b _ (h.below hb0).at (ha.1.below hb0) (hb.1.below hb0)
  rw [hsd] at g1
  have hsz : ((w.alloc (.cells #[.int .i64 c.1, .slice ga gn gc, .slice oa on oc] 27)).alloc (.cells #[.int .i64 0, .slice none 0 0, .slice none 0 0] 27)).heap.size = w.heap.size + 1 + 1 := by simp only [World.size_alloc]
  have GG : Hid (∀ w1 : World, Below w.heap.size w w1 → Calls Try.prog 79 #[.agg #[.int .i64 c.1, .slice ga gn gc, .slice oa on oc]] w1 fun e w' => ∃ gv ov, e = .returned (.agg #[.int .i64 c.1, gv, ov]) ∧ w'.ownsRow w1.heap.size 108 3 gv c.2.1.length (flat3 c.2.1) ∧ w'.ownsRow w1.heap.size 3 1 ov c.2.2.length (cellsI c.2.2) ∧ Below w1.heap.size w1 w') := fun w1 hw => l4Own_any _ c hI0 hI1 hG hO w1 (h.below hw)
  have GL : Hid (∀ (lo hi bl : Nat) (w1 : World), Bld w1 lo hi bl 105 c → hi ≤ w1.heap.size → w.heap.size ≤ lo → Below w.heap.size w w1 → Calls Try.prog 83 #[.pointer (some ⟨bl, 0, none⟩), av, bv] w1 fun e w' => e = .returned (.int .i64 (onW (wiresN c) (wiresN c + 1) 3 2 a.length)) ∧ Bld w' lo hi bl 105 (eqC c a b) ∧ Below lo w1 w') := fun lo hi bl w1 hB hhi hlo hb' => sEq_any lo hi bl c.1 c.2.1 c.2.2 av bv a b (wiresN c) rfl hI0 hI1 hG hl h16 w1 hB hhi (fun w' hw => ha.1.below (hb'.trans (hw.mono hlo))) (fun w' hw => hb.1.below (hb'.trans (hw.mono hlo)))
  have HGO : Hid (∀ (u : Value) (w1 : World), AtCirc w1 u (eqC c a b) → Calls Try.prog 81 #[u] w1 fun e w' => e = .returned (.bool true) ∧ Below w1.heap.size w1 w') := fun u w1 h1 => by
    have g := sGood_any u _ w1 h1
    rw [hgD] at g
    exact g
  have hfit : Fit (eqC c a b).1 := h.1
  have hDs := eqC_sm hsd
  have hD2 : (eqC c a b).2.2.length ≤ 16 := hO
  rw [hav, hbv] at GL
  obtain ⟨DD, hDD⟩ : ∃ DD, (eqC c a b) = DD := ⟨_, rfl⟩
  rw [hDD] at GL HGO hfit hDs hD2 ⊢
  obtain ⟨AN, hAN⟩ : ∃ AN : Int, onW (wiresN c) (wiresN c + 1) 3 2 a.length = AN := ⟨_, rfl⟩
  rw [hAN] at GL ⊢
  clear hAN
  clear hDD hgD
  subst hav hbv
  clear hgn h ha hb hsd hl h16
  generalize a.length = an at *
  generalize b.length = bn at *
  go_enter Try.func22, Try.ntmps22
  go_wp2_with fail
  refine g1.mono ?_
  rintro e w1 ⟨rfl, hs⟩
  have hb1 := Below.step hb0 hb0.size hs
  have y0 := x0.below hs (by omega)
  have y1 := x1.below hs (by omega)
  have hsz1 := hs.size
  rw [hsz] at hsz1
  clear g1 hs hb0 x0 x1 hsz
  obtain ⟨c0, c1, c2⟩ := y0.cells
  have ch := y0.heap
  have cl := y0.lt
  go_wp2_with fail
  refine (GG.out w1 hb1).mono ?_
  rintro e w3b ⟨gv, ov, rfl, hog, hoo, hst⟩
  clear c0 c1 c2 ch cl
  have hlo : w.heap.size + 1 + 1 ≤ w1.heap.size := by omega
  have hb' : Below w.heap.size w w3b := hb1.trans (hst.mono hb1.size)
  have hst' := hst.size
  have y0' := y0.below hst y0.lt
  have y1' := y1.below hst y1.lt
  clear hst hb1 y0 y1
  have hb1 := hb'
  clear hb'
  have y0 := y0'
  clear y0'
  have y1 := y1'
  clear y1'
  obtain ⟨gva, gvc, hgv⟩ := own_shape hog
  obtain ⟨ova, ovc, hov⟩ := own_shape hoo
  subst hgv hov
  have hB : Bld (w3b.alloc (.cells #[.int .i64 c.1, .slice gva c.2.1.length gvc, .slice ova c.2.2.length ovc] 105)) w1.heap.size w3b.heap.size w3b.heap.size 105 c := ⟨hst', _, _, box3_alloc _ _ _ _ _, hog.alloc _, hoo.alloc _, fun k' hk' => (own_block hoo hk').2⟩
  have hb1a : Below w.heap.size w (w3b.alloc (.cells #[.int .i64 c.1, .slice gva c.2.1.length gvc, .slice ova c.2.2.length ovc] 105)) := hb1.alloc hb1.size _
  have y0a := y0.alloc (.cells #[.int .i64 c.1, .slice gva c.2.1.length gvc, .slice ova c.2.2.length ovc] 105)
  have y1a := y1.alloc (.cells #[.int .i64 c.1, .slice gva c.2.1.length gvc, .slice ova c.2.2.length ovc] 105)
  have hsza : (w3b.alloc (.cells #[.int .i64 c.1, .slice gva c.2.1.length gvc, .slice ova c.2.2.length ovc] 105)).heap.size = w3b.heap.size + 1 := by simp only [World.size_alloc]
  go_wp2_with fail
  generalize (w3b.alloc (.cells #[.int .i64 c.1, .slice gva c.2.1.length gvc, .slice ova c.2.2.length ovc] 105)) = w4 at *
  have hhi : w3b.heap.size ≤ w4.heap.size := by omega
  clear hb1 y0 y1 hog hoo hsza
  have hb1 := hb1a
  clear hb1a
  have y0 := y0a
  clear y0a
  have y1 := y1a
  clear y1a
  refine (GL.out w1.heap.size w3b.heap.size w3b.heap.size w4 hB hhi (by omega) hb1).mono ?_
  rintro e w5 ⟨rfl, hB5, hs5⟩
  have hst : Below w.heap.size w w5 := hb1.trans (hs5.mono (by omega))
  have y1' := y1.below hs5 (by omega)
  have hs5' := hs5.size
  obtain ⟨gsl, osl, hx5, hat, hog5, hoo5, hob5⟩ := hB5.reads hfit hDs.1 (by omega) (by omega)
  clear hB hB5 y0 y1 hs5 GG GL hb1
  have hb1 := hst
  clear hst
  have y1 := y1'
  clear y1'
  obtain ⟨sga, sgc, hsg⟩ := own_shape hog5
  obtain ⟨soa, soc, hso⟩ := own_shape hoo5
  subst hsg hso
  have hblo : w1.heap.size ≤ w3b.heap.size := by first | exact hst' | omega
  obtain ⟨c0, c1, c2⟩ := hx5.cells
  have ch := hx5.heap
  have cl := hx5.lt
  go_wp2_with fail
  refine (HGO.out _ w5 hat).mono ?_
  rintro e w6 ⟨rfl, hst⟩
  have hb' : Below w.heap.size w w6 := hb1.trans (hst.mono hb1.size)
  have y1' := y1.below hst y1.lt
  have hx6 := hx5.below hst hx5.lt
  have hog6 := owns_below hog5 hst
  have hoo6 := owns_below hoo5 hst
  have hst6 := hst.size
  clear hst hb1 y1 hx5 hog5 hoo5 hat HGO c0 c1 c2 ch cl
  have hb1 := hb'
  clear hb'
  have y1 := y1'
  clear y1'
  obtain ⟨c0, c1, c2⟩ := hx6.cells
  have ch := hx6.heap
  have cl := hx6.lt
  obtain ⟨r0, r1, r2⟩ := y1.cells
  have rh := y1.heap
  have rl := y1.lt
  have rf0 := y1.frozen 0
  have rf1 := y1.frozen 1
  have rf2 := y1.frozen 2
  have hgl : DD.2.1.length ≤ 500 := hDs.2
  have HZ : Hid _ := ((y1.set0 (.int .i64 DD.1)).set1 (.slice sga DD.2.1.length sgc)).set2 (.slice soa DD.2.2.length soc)
  have HBZ : Hid _ := ((hb1.setCell (p := ⟨w.heap.size + 1, 0, none⟩) (Nat.le_succ _) (.int .i64 DD.1)).setCell (p := ⟨w.heap.size + 1, 1, none⟩) (Nat.le_succ _) (.slice sga DD.2.1.length sgc)).setCell (p := ⟨w.heap.size + 1, 2, none⟩) (Nat.le_succ _) (.slice soa DD.2.2.length soc)
  have HGZ : Hid _ := own_set (b := w.heap.size + 1) (o := 2) (u := .slice soa DD.2.2.length soc) (own_set (b := w.heap.size + 1) (o := 1) (u := .slice sga DD.2.1.length sgc) (own_set (b := w.heap.size + 1) (o := 0) (u := .int .i64 DD.1) hog6 (by omega)) (by omega)) (by omega)
  have HOZ : Hid _ := own_set (b := w.heap.size + 1) (o := 2) (u := .slice soa DD.2.2.length soc) (own_set (b := w.heap.size + 1) (o := 1) (u := .slice sga DD.2.1.length sgc) (own_set (b := w.heap.size + 1) (o := 0) (u := .int .i64 DD.1) hoo6 (by omega)) (by omega)) (by omega)
  have hne : w3b.heap.size ≠ w.heap.size + 1 := by omega
  clear hx6 y1 hog6 hoo6 hb1 hob5
  generalize hdg : DD.2.1.length = dg at *
  generalize hdo : DD.2.2.length = dq at *
  go_wp2_with fail
  refine bodyPost_ret (results_c2 rfl _ _ (w.heap.size + 1) 27 _ (0, 0) _ rfl HZ.out.heap Try.underlying27 rfl (by kernel_rfl)) rfl ?_
  exact ⟨_, rfl, ⟨.slice sga dg sgc, .slice soa dq soc, rfl, by rw [hdg]; exact rowIn_of (own_base HGZ.out (by omega)), by rw [hdo]; exact rowIn_of (own_base HOZ.out (by omega))⟩, HBZ.out⟩
end Go.Proofs.Ytmjeaceabjinfaa

namespace Go.Proofs.Ytmjeaceabjinfaa
open Go Go.RowKit
open M
set_option linter.unusedVariables false
set_option linter.unusedSimpArgs false

end Go.Proofs.Ytmjeaceabjinfaa

namespace Go.Proofs.Ytmjeaceabjinfaa
open Go Go.RowKit
open M
set_option linter.unusedVariables false

theorem own_apart_set {w : World} {B B' g cap n n' i : Nat} {e e' : TypeId} {s : Nat} {v u : Value} {xs xs' : List Value} (h : w.ownsRow B e s v n xs) (h' : w.ownsRow B' e' 1 (.slice (some ⟨g, 0, none⟩) n' cap) n' xs') (he : e ≠ e') : (w.setCell ⟨g, i, none⟩ u).ownsRow B e s v n xs :=
  ((rowIn_of h).apart (rowIn_of h') he (h'.stored i u).2).1
theorem VarsOwn.set {w : World} {B B' g cap n' i : Nat} {v u : Value} {l : List Int} {xs' : List Value} (h : VarsOwn w B v l) (h' : w.ownsRow B' 4 1 (.slice (some ⟨g, 0, none⟩) n' cap) n' xs') : VarsOwn (w.setCell ⟨g, i, none⟩ u) B v l := ⟨own_apart_set h.1 h' (by decide), h.2⟩
set_option maxRecDepth 100000 in
set_option maxHeartbeats 4000000 in
theorem l4Cone_any (v wv : Value) (c : Ci) (ws : List Int) (hgd : goodC c = true) (hws : ∀ x ∈ ws, 0 ≤ x ∧ x < c.1 + c.2.1.length) (w : World) (h : AtCirc w v c) (hw : IntsAt w wv ws) :
    Calls Try.prog 92 #[v, wv] w fun e w' => ∃ r, e = .returned r ∧ VarsOwn w' w.heap.size r (upF (coneF c ws) (coneF c ws).length) ∧ Below w.heap.size w w' := by
  obtain ⟨hfit, gw, o, hv, h1, h2⟩ := h
  obtain ⟨ga, gc, hgw, hg⟩ := h1.opened
  obtain ⟨oa, oc, ho⟩ := h2.shape
  subst hgw ho hv
  have hwl := hw.1
  obtain ⟨wa', wcap, hwv, hwc⟩ := hw.opened
  subst hwv
  obtain ⟨hI0, hI1, hG, hO, hgb, _⟩ := goodC_ins hgd
  have hb0 : Below w.heap.size w (w.alloc (.cells #[.int .i64 c.1, .slice ga c.2.1.length gc, .slice oa c.2.2.length oc] 27)) := (Below.refl _ _).alloc (Nat.le_refl _) _
  have x0 := box3_alloc w 27 (.int .i64 c.1) (.slice ga c.2.1.length gc) (.slice oa c.2.2.length oc)
  have hsz : (w.alloc (.cells #[.int .i64 c.1, .slice ga c.2.1.length gc, .slice oa c.2.2.length oc] 27)).heap.size = w.heap.size + 1 := by simp only [World.size_alloc]
  have HG : Hid (∀ (w1 : World), Below w.heap.size w w1 → ∀ (i : Nat) (x : Gt), c.2.1[i]? = some x → ∃ b off : Nat, ga = some ⟨b, off, none⟩ ∧ b < w.heap.size ∧ GateAt w1 b (off + i * 3) x) := fun w1 hb i x hx => by
    obtain ⟨b, off, e, hlt, hat⟩ := hg i x hx
    exact ⟨b, off, e, hlt, hat.below hb hlt⟩
  have HW : Hid (∀ (w1 : World), Below w.heap.size w w1 → ∀ (i : Nat) (x : Int), ws[i]? = some x → ∃ b off : Nat, wa' = some ⟨b, off, none⟩ ∧ w1.cell? ⟨b, off + i, none⟩ = some (.int .i64 x)) := fun w1 hb i x hx => by
    obtain ⟨b, off, e, hlt, hat⟩ := hwc i x hx
    exact ⟨b, off, e, by rw [hb.cell (p := ⟨b, off + i, none⟩) hlt]; exact hat⟩
  have HGB : Hid (∀ (i : Nat) (x : Gt), c.2.1[i]? = some x → gateB (c.1 + i) x = true) := fun i x hx => gatesB_at hgb hx
  have HWS : Hid (∀ x ∈ ws, 0 ≤ x ∧ x < c.1 + c.2.1.length) := hws
  obtain ⟨i0, hi, hz0, hz1, hz2⟩ := info_parts infoBool
  have hFl := coneF_len c ws
  unfold coneF at *
  obtain ⟨ins, gs, os⟩ := c
  simp only at *
  clear hg hwc h1 h2 hgb hfit hgd hws hw
  obtain ⟨I, rfl⟩ := Int.eq_ofNat_of_zero_le hI0
  rw [Int.toNat_natCast]
  obtain ⟨N, hN⟩ : ∃ N : Nat, I + gs.length = N := ⟨_, rfl⟩
  have hNI : (I : Int) + (gs.length : Int) = (N : Int) := by omega
  obtain ⟨F, HF⟩ : ∃ F, Hid (coneD (I : Int) gs gs.length (markB (List.replicate N false) ws) = F) := ⟨_, rfl⟩
  rw [Int.toNat_natCast, hN, HF.out] at hFl
  rw [hN, HF.out, hFl, ← down_all]
  clear hFl
  have g2 := l4Wires_raw (I : Int) ga gs.length gc (.slice oa os.length oc) (by omega) (by omega) (by omega) (w.alloc (.cells #[.int .i64 (I : Int), .slice ga gs.length gc, .slice oa os.length oc] 27))
  rw [hNI] at g2
  have HNI : Hid ((I : Int) + (gs.length : Int) = (N : Int)) := hNI
  have hlt0 := x0.lt
  go_enter Try.func92, Try.ntmps92
  go_wp2_with fail
  refine g2.mono ?_
  clear g2 hNI
  generalize (w.alloc (.cells #[.int .i64 (I : Int), .slice ga gs.length gc, .slice oa os.length oc] 27)) = wa at *
  clear hsz
  rintro e w2 ⟨rfl, hw2⟩
  have hb2 : Below wa.heap.size wa w2 := by
    rw [hw2]
    exact (Below.refl _ _).alloc (Nat.le_refl _) _
  clear hw2
  have hs2 := hb2.size
  go_wp2_with (at_make; refine wpList_make_full _ rfl _ _ 33 rfl wa.heap.size 4 i0 (.bool false) 1 Try.underlying33 hi hz0 hz1 .i64 .i64 _ _ N rfl rfl (by omega) (by omega) (by rw [hz2]; omega) (by unfold maxLen; omega) (by omega) ?_)
  intro w3 hown hgrow
  have hb3 : Below wa.heap.size wa w3 := hb2.grown hgrow hb2.size (fun k hk => by cases hk)
  have HO1 : Hid (w3.ownsRow wa.heap.size 4 1 (.slice (some ⟨w2.heap.size, 0, none⟩) N N) N (cellsB (List.replicate N false))) := by
    have h2 := hown
    rw [toList_madeCells_one] at h2
    show w3.ownsRow wa.heap.size 4 1 (.slice (some ⟨w2.heap.size, 0, none⟩) N N) N (cellsB (List.replicate N false))
    unfold cellsB
    rw [List.map_replicate]
    exact h2
  have HB3 : Hid (Below wa.heap.size wa w3) := hb3
  have HB0 : Hid (Below w.heap.size w wa) := hb0
  have HX : Hid (Box3 wa w.heap.size 27 (.int .i64 (I : Int)) (.slice ga gs.length gc) (.slice oa os.length oc)) := x0
  clear hown hgrow hb3 hb0 hb2 x0
  generalize hQ : w2.heap.size = q at *
  have hq : wa.heap.size ≤ q := by omega
  clear hs2 hQ
  go_wp2_with fail
  go_loopw [15] (fun i wr => ∃ j : Nat, j ≤ ws.length ∧ i = .int .i64 j ∧ Hid (wr.ownsRow wa.heap.size 4 1 (.slice (some ⟨q, 0, none⟩) N N) N (cellsB (markB (List.replicate N false) (ws.take j)))) ∧ Hid (Below wa.heap.size wa wr)) (fun i _ => ws.length - (intOf i).toNat)
  case atStart => exact ⟨0, by omega, rfl, HO1, HB3⟩
  case round =>
    obtain ⟨j, hj, rfl, HO, HB⟩ := hrel
    by_cases hlt : j < ws.length
    · obtain ⟨x, hx⟩ : ∃ x, ws[j]? = some x := ⟨ws[j], List.getElem?_eq_getElem hlt⟩
      obtain ⟨b, off, rfl, d0⟩ := HW.out wr (HB0.out.trans (HB.out.mono HB0.out.size)) j x hx
      obtain ⟨hx0, hx1⟩ := HWS.out x (List.mem_of_getElem? hx)
      obtain ⟨X, rfl⟩ := Int.eq_ofNat_of_zero_le hx0
      have hXN : X < N := by have := HNI.out; omega
      obtain ⟨⟨u0, e0⟩, f0, o0⟩ := mark_at HO.out X hXN
      have HN : Hid ((wr.setCell ⟨q, X, none⟩ (.bool true)).ownsRow wa.heap.size 4 1 (.slice (some ⟨q, 0, none⟩) N N) N (cellsB (markB (List.replicate N false) (ws.take (j + 1))))) := by
        have h1 := o0
        show (wr.setCell ⟨q, X, none⟩ (.bool true)).ownsRow wa.heap.size 4 1 (.slice (some ⟨q, 0, none⟩) N N) N (cellsB (markB (List.replicate N false) (ws.take (j + 1))))
        rw [List.take_add_one, hx]
        show (wr.setCell ⟨q, X, none⟩ (.bool true)).ownsRow wa.heap.size 4 1 (.slice (some ⟨q, 0, none⟩) N N) N (cellsB (markB (List.replicate N false) (ws.take j ++ [(X : Int)])))
        rw [markB_snoc, Int.toNat_natCast]
        exact h1
      have HBN : Hid (Below wa.heap.size wa (wr.setCell ⟨q, X, none⟩ (.bool true))) := HB.out.setCell (by show wa.heap.size ≤ q; omega) _
      clear hx HO HB o0 HG HW HGB HWS HO1 HB3 hx1 HNI HF HX HB0
      go_wp2_with fail
      go_roundw
      case rel => exact ⟨j + 1, by omega, by go_num, HN, HBN⟩
      case measure => simp [intOf]; omega
    · obtain rfl : j = ws.length := by omega
      have HO2 : Hid (wr.ownsRow wa.heap.size 4 1 (.slice (some ⟨q, 0, none⟩) N N) N (cellsB (markB (List.replicate N false) ws))) := by
        have h1 := HO.out
        rw [List.take_length] at h1
        exact h1
      have HB2 : Hid (Below wa.heap.size wa wr) := HB.out
      have y1 := HX.out.below HB.out (by omega)
      obtain ⟨c0, c1, c2⟩ := y1.cells
      have hh := y1.heap
      have hlt1 := y1.lt
      have HS : Hid (wa.heap.size ≤ wr.heap.size) := HB.out.size
      clear HO HB HO1 HB3 HW HWS hlt
      go_wp2_with fail
      clear c0 c1 c2 hh hlt1 y1
      go_loopw [8, 9] (fun vo i wr => ∃ (j : Nat) (m : List Bool), j ≤ N ∧ i = .int .i64 ((j : Int) - 1) ∧ Hid (wr.ownsRow wa.heap.size 4 1 (.slice (some ⟨q, 0, none⟩) N N) N (cellsB m)) ∧ Hid (Below wa.heap.size wa wr) ∧ Hid (coneD (I : Int) gs (j - I) m = F) ∧ Hid (VarsOwn wr wa.heap.size vo (downF F N (N - j)))) (fun _ i _ => (intOf i + 1).toNat)
      case atStart =>
        have e1 : N - I = gs.length := by omega
        refine ⟨N, _, by omega, rfl, HO2, HB2, ?_, ?_⟩
        · show coneD (I : Int) gs (N - I) _ = F
          rw [e1]
          exact HF.out
        · show VarsOwn _ _ _ (downF F N (N - N))
          rw [Nat.sub_self]
          exact ⟨World.ownsRow_nil _ _ _ _, fun _ => rfl⟩
      case round =>
        clear HO2 HB2 HF HS
        obtain ⟨j, m, hj, rfl, HO, HB, HC, HV⟩ := hrel
        have y2 := HX.out.below HB.out (by omega)
        obtain ⟨c0, c1, c2⟩ := y2.cells
        have hh := y2.heap
        have hlt2 := y2.lt
        have hszr := HB.out.size
        clear y2
        match j, hj, HC, HV with
        | 0, hj, HC, HV =>
          have HN : Hid (VarsOwn wr w.heap.size u8 (downF F N N)) := ⟨own_base HV.out.1 HB0.out.size, HV.out.2⟩
          have HBN : Hid (Below w.heap.size w wr) := HB0.out.trans (HB.out.mono HB0.out.size)
          clear HO HB HC HG HGB HX HB0 HV
          go_wp2_with fail
          go_ret
          exact ⟨_, rfl, HN.out, HBN.out⟩
        | J + 1, hj, HC, HV =>
          have hJ : (((J + 1 : Nat) : Int) - 1) = (J : Int) := by omega
          rw [hJ]
          have hJN : J < N := by omega
          have r0 := own_read HO.out J hJN
          have hread := cone_read HGB.out (show J < I + gs.length by omega) HC.out
          obtain ⟨va, vcp, hv8⟩ := own_shape HV.out.1
          have hdl := downF_len F N (N - (J + 1))
          cases hb : at' m (J : Int) with
          | false =>
            rw [hb] at r0
            have HC3 : Hid (coneD (I : Int) gs (J - I) m = F) := cone_skip hb HC.out
            have HV3 : Hid (VarsOwn wr wa.heap.size u8 (downF F N (N - J))) := by
              have h1 := HV.out
              rw [← down_no hJN (hread.trans hb)] at h1
              exact h1
            clear HC hb HG HGB HV hread hv8
            go_wp2_with fail
            go_roundw
            case rel => exact ⟨J, m, by omega, by go_num, HO, HB, HC3, HV3⟩
            case measure => simp [intOf]
          | true =>
            rw [hb] at r0
            have g3 := l1Put_any u8 (downF F N (N - (J + 1))) (J : Int) (by omega) (by omega) (by omega) wr wa.heap.size hszr HV.out
            rw [← down_yes hJN (hread.trans hb)] at g3
            subst hv8
            generalize (downF F N (N - (J + 1))).length = dl at *
            clear hread HV
            go_wp2_with fail
            refine g3.mono ?_
            rintro e w5 ⟨rv, rfl, hv5, hs5⟩
            clear g3
            have HO5 : Hid (w5.ownsRow wa.heap.size 4 1 (.slice (some ⟨q, 0, none⟩) N N) N (cellsB m)) := owns_below HO.out hs5
            have HB5 : Hid (Below wa.heap.size wa w5) := HB.out.trans (hs5.mono hszr)
            have HV5 : Hid (VarsOwn w5 wa.heap.size rv (downF F N (N - J))) := hv5
            have y3 := HX.out.below HB5.out (by omega)
            obtain ⟨c0, c1, c2⟩ := y3.cells
            have hh := y3.heap
            have hlt3 := y3.lt
            clear hv5 hs5 HO HB y3 hszr
            by_cases hIJ : J < I
            · have HC3 : Hid (coneD (I : Int) gs (J - I) m = F) := cone_low hIJ HC.out
              clear HC HG HGB hb
              go_wp2_with fail
              go_roundw
              case rel => exact ⟨J, m, by omega, by go_num, HO5, HB5, HC3, HV5⟩
              case measure => simp [intOf]
            · obtain ⟨G, hG1⟩ : ∃ G : Nat, J - I = G := ⟨_, rfl⟩
              have hGI : (J : Int) - (I : Int) = (G : Int) := by omega
              have hGW : IntKind.i64.wrap ((J : Int) - (I : Int)) = (G : Int) := by rw [hGI]; exact IntWalk.i64_in _ (by omega)
              have hGl : G < gs.length := by omega
              obtain ⟨x, hx⟩ : ∃ x, gs[G]? = some x := ⟨gs[G], List.getElem?_eq_getElem hGl⟩
              obtain ⟨b, off, rfl, hbw, d0, d1, d2⟩ := HG.out w5 (HB0.out.trans (HB5.out.mono HB0.out.size)) G x hx
              have hgk := gateB_kind (HGB.out G x hx)
              have HC3 : Hid (coneD (I : Int) gs (J - I) (markB m (takenL x)) = F) := cone_gate (by omega) (by rw [hG1]; exact hx) hb HC.out
              obtain ⟨kk, xa, xb⟩ := x
              simp only at d0 d1 d2 hgk
              have hIJ' : (I : Int) ≤ (J : Int) := by omega
              clear HC HG HGB hb hx
              rcases hgk with ⟨rfl, ha0, ha1, rfl⟩ | ⟨rfl, ⟨ha0, ha1⟩, rfl⟩ | ⟨hk, ⟨ha0, ha1⟩, ⟨hb0, hb1⟩⟩
              · go_wp2_with fail
                go_roundw
                case rel => exact ⟨J, m, by omega, by go_num, HO5, HB5, HC3, HV5⟩
                case measure => simp [intOf]
              · obtain ⟨A, rfl⟩ := Int.eq_ofNat_of_zero_le ha0
                have hAN : A < N := by omega
                obtain ⟨⟨u0, e0⟩, f0, o0⟩ := mark_at HO5.out A hAN
                have HO6 : Hid ((w5.setCell ⟨q, A, none⟩ (.bool true)).ownsRow wa.heap.size 4 1 (.slice (some ⟨q, 0, none⟩) N N) N (cellsB (m.set A true))) := o0
                have HB6 : Hid (Below wa.heap.size wa (w5.setCell ⟨q, A, none⟩ (.bool true))) := HB5.out.setCell (by show wa.heap.size ≤ q; omega) _
                have HV6 : Hid (VarsOwn (w5.setCell ⟨q, A, none⟩ (.bool true)) wa.heap.size rv (downF F N (N - J))) := HV5.out.set HO5.out
                have HC6 : Hid (coneD (I : Int) gs (J - I) (m.set A true) = F) := HC3.out
                have z1 := (HX.out.below HB6.out (by omega)).cells
                obtain ⟨k0, k1, k2⟩ := z1
                have hqb : b ≠ q := by omega
                have hqb2 : w.heap.size ≠ q := by omega
                clear o0 HO5 HB5 HV5 HC3
                go_wp2_with fail
                go_roundw
                case rel => exact ⟨J, m.set A true, by omega, by go_num, HO6, HB6, HC6, HV6⟩
                case measure => simp [intOf]
              · obtain ⟨A, rfl⟩ := Int.eq_ofNat_of_zero_le ha0
                obtain ⟨Bw, rfl⟩ := Int.eq_ofNat_of_zero_le hb0
                have hAN : A < N := by omega
                have hBN : Bw < N := by omega
                obtain ⟨⟨u0, e0⟩, f0, o0⟩ := mark_at HO5.out A hAN
                obtain ⟨⟨u1, e1⟩, f1, o1⟩ := mark_at o0 Bw hBN
                have HO6 : Hid (((w5.setCell ⟨q, A, none⟩ (.bool true)).setCell ⟨q, Bw, none⟩ (.bool true)).ownsRow wa.heap.size 4 1 (.slice (some ⟨q, 0, none⟩) N N) N (cellsB ((m.set A true).set Bw true))) := o1
                have HB6 : Hid (Below wa.heap.size wa ((w5.setCell ⟨q, A, none⟩ (.bool true)).setCell ⟨q, Bw, none⟩ (.bool true))) := (HB5.out.setCell (by show wa.heap.size ≤ q; omega) _).setCell (by show wa.heap.size ≤ q; omega) _
                have HV6 : Hid (VarsOwn ((w5.setCell ⟨q, A, none⟩ (.bool true)).setCell ⟨q, Bw, none⟩ (.bool true)) wa.heap.size rv (downF F N (N - J))) := (HV5.out.set HO5.out).set o0
                have HC6 : Hid (coneD (I : Int) gs (J - I) ((m.set A true).set Bw true) = F) := by
                  have h1 := HC3.out
                  unfold takenL at h1
                  rw [if_pos hk] at h1
                  show coneD (I : Int) gs (J - I) ((m.set A true).set Bw true) = F
                  rw [set_swap]
                  exact h1
                have hqb : b ≠ q := by omega
                have hqb2 : w.heap.size ≠ q := by omega
                clear o0 o1 HO5 HB5 HV5 HC3
                rcases hk with rfl | rfl | rfl
                all_goals
                  go_wp2_with fail
                  go_roundw
                  case rel => exact ⟨J, (m.set A true).set Bw true, by omega, by go_num, HO6, HB6, HC6, HV6⟩
                  case measure => simp [intOf]
end Go.Proofs.Ytmjeaceabjinfaa

namespace Go.Proofs.Ytmjeaceabjinfaa
open Go Go.RowKit
open M
set_option linter.unusedVariables false

/-- what ConeOf tells -/
def coneB (c : Ci) (x : Int) : Bool := goodC c && inB (c.1 + c.2.1.length) x
def coneL (c : Ci) (x : Int) : List Int := if coneB c x = true then upF (coneF c [x]) (coneF c [x]).length else []
theorem coneL_len (c : Ci) (x : Int) : (coneL c x).length ≤ 1048576 := by
  unfold coneL
  split
  · rename_i h
    unfold coneB at h
    simp only [Bool.and_eq_true] at h
    obtain ⟨h0, h1, h2, _⟩ := goodC_ins h.1
    have := upF_len (coneF c [x]) (coneF c [x]).length
    rw [coneF_len] at *
    omega
  · simp
theorem ints_lit (w : World) (x : Int) : IntsAt (w.alloc (.cells #[.int .i64 x] 3)) (.slice (some ⟨w.heap.size, 0, none⟩) 1 1) [x] := ints_of_own (by simp) (own_ints_one w x)
set_option maxRecDepth 100000 in
set_option maxHeartbeats 4000000 in
theorem sConeOf_any (v : Value) (c : Ci) (x : Int) (hfx : Fit x) (w : World) (h : AtC w v c) :
    Calls Try.prog 34 #[v, .int .i64 x] w fun e w' => ∃ r, e = .returned (.tuple #[r, .bool (coneB c x)]) ∧ OwnIS w' w.heap.size w'.heap.size r (coneL c x) ∧ Below w.heap.size w w' := by
  obtain ⟨ga, gn, gc, oa, on, oc, hv⟩ := h.at.shape
  have hgn : gn = c.2.1.length := by
    obtain ⟨_, g, o, hv', h1, _⟩ := h
    obtain ⟨a, cap, hg⟩ := h1.shape
    rw [hv] at hv'
    rw [hg] at hv'
    simp at hv'
    exact hv'.1.2.1
  subst hv hgn
  have x0 := box3_alloc w 27 (.int .i64 c.1) (.slice ga c.2.1.length gc) (.slice oa on oc)
  have hb0 : Below w.heap.size w (w.alloc (.cells #[.int .i64 c.1, .slice ga c.2.1.length gc, .slice oa on oc] 27)) := (Below.refl _ _).alloc (Nat.le_refl _) _
  have g1 := sGood_any _ c _ (h.below hb0).at
  have hsz : (w.alloc (.cells #[.int .i64 c.1, .slice ga c.2.1.length gc, .slice oa on oc] 27)).heap.size = w.heap.size + 1 := by simp only [World.size_alloc]
  have hlt0 := x0.lt
  obtain ⟨hf0, hf1⟩ := hfx
  cases hgd : goodC c with
  | false =>
    have e1 : coneB c x = false := by unfold coneB; rw [hgd]; rfl
    have e2 : coneL c x = [] := by unfold coneL; rw [e1]; rfl
    rw [e1, e2]
    rw [hgd] at g1
    go_enter Try.func34, Try.ntmps34
    go_wp2_with fail
    refine g1.mono ?_
    rintro e w1 ⟨rfl, hs⟩
    have HB : Hid (Below w.heap.size w w1) := Below.step hb0 hb0.size hs
    clear g1 h
    go_wp2_with fail
    go_ret2
    exact ⟨_, rfl, rowIn_of (World.ownsRow_nil _ _ _ _), HB.out⟩
  | true =>
    rw [hgd] at g1
    obtain ⟨hI0, hI1, hG, hO, _, _⟩ := goodC_ins hgd
    have GC : Hid (∀ (w1 : World), Below w.heap.size w w1 → 0 ≤ x ∧ x < c.1 + c.2.1.length → Calls Try.prog 92 #[.agg #[.int .i64 c.1, .slice ga c.2.1.length gc, .slice oa on oc], .slice (some ⟨w1.heap.size, 0, none⟩) 1 1] (w1.alloc (.cells #[.int .i64 x] 3)) fun e w' => ∃ r, e = .returned r ∧ VarsOwn w' (w1.heap.size + 1) r (upF (coneF c [x]) (coneF c [x]).length) ∧ Below (w1.heap.size + 1) (w1.alloc (.cells #[.int .i64 x] 3)) w') := fun w1 hb hx => by
      have g := l4Cone_any (.agg #[.int .i64 c.1, .slice ga c.2.1.length gc, .slice oa on oc]) _ c [x] hgd (by intro y hy; simp at hy; subst hy; exact hx) (w1.alloc (.cells #[.int .i64 x] 3)) (h.at.below (hb.alloc hb.size _)) (ints_lit w1 x)
      rw [World.size_alloc] at g
      exact g
    have GW : Hid (∀ w1 : World, Calls Try.prog 91 #[.agg #[.int .i64 c.1, .slice ga c.2.1.length gc, .slice oa on oc]] w1 _) := fun w1 => l4Wires_raw c.1 ga c.2.1.length gc (.slice oa on oc) (by omega) (by omega) (by omega) w1
    obtain ⟨n0, hn0⟩ : ∃ n0 : Int, c.1 + (c.2.1.length : Int) = n0 := ⟨_, rfl⟩
    have hn1 : 0 ≤ n0 := by omega
    have hn2 : n0 ≤ 1000 := by omega
    have e1 : coneB c x = decide (0 ≤ x ∧ x < n0) := by unfold coneB; rw [hgd, hn0]; rfl
    by_cases hx : 0 ≤ x ∧ x < n0
    · rw [decide_eq_true hx] at e1
      have e2 : coneL c x = upF (coneF c [x]) (coneF c [x]).length := by unfold coneL; rw [e1]; rfl
      rw [e1, e2]
      have GA : Hid (∀ w1 : World, Calls Try.prog 97 #[.int .i64 x, .int .i64 0, .int .i64 (n0 - 1)] w1 fun e w' => e = .returned (.bool true) ∧ w' = w1) := fun w1 => by
        have g := l1In_any x 0 (n0 - 1) w1
        rw [decide_eq_true (by omega)] at g
        exact g
      rw [hn0] at GC GW
      generalize hcl : upF (coneF c [x]) (coneF c [x]).length = cl at *
      clear e1 e2 hcl h
      go_enter Try.func34, Try.ntmps34
      go_wp2_with fail
      refine g1.mono ?_
      rintro e w1 ⟨rfl, hs⟩
      have hb1 := Below.step hb0 hb0.size hs
      have x1 := x0.below hs (by omega)
      obtain ⟨c0, c1, c2⟩ := x1.cells
      have hh := x1.heap
      have hlt1 := x1.lt
      clear g1
      go_wp2_with fail
      refine (GW.out _).mono ?_
      rintro e w2 ⟨rfl, hw2⟩
      have hb2 : Below w.heap.size w w2 := by
        rw [hw2]
        exact hb1.alloc hb1.size _
      have x2 : Box3 w2 w.heap.size 27 (.int .i64 c.1) (.slice ga c.2.1.length gc) (.slice oa on oc) := by
        rw [hw2]
        exact x1.alloc _
      clear hw2 c0 c1 c2 hh hlt1 x1 hb1
      obtain ⟨c0, c1, c2⟩ := x2.cells
      have hh := x2.heap
      have hlt1 := x2.lt
      have g3 := GA.out w2
      go_wp2_with fail
      refine g3.mono ?_
      rintro e w3 ⟨rfl, rfl⟩
      have g4 := GC.out w3 hb2 hx
      have hb4 : Below w.heap.size w (w3.alloc (.cells #[.int .i64 x] 3)) := hb2.alloc hb2.size _
      have hs2 := hb2.size
      have x4 := x2.alloc (.cells #[.int .i64 x] 3)
      obtain ⟨k0, k1, k2⟩ := x4.cells
      clear g3
      go_wp2_with fail
      refine g4.mono ?_
      rintro e w4 ⟨r, rfl, ho, hs4⟩
      have HO : Hid (OwnIS w4 w.heap.size w4.heap.size r cl) := rowIn_of (own_base ho.1 (by omega))
      have HB : Hid (Below w.heap.size w w4) := hb4.trans (hs4.mono (by omega))
      clear g4 ho hs4 hb4
      go_wp2_with fail
      go_ret2
      exact ⟨_, rfl, HO.out, HB.out⟩
    · rw [decide_eq_false hx] at e1
      have e2 : coneL c x = [] := by unfold coneL; rw [e1]; rfl
      rw [e1, e2]
      have GA : Hid (∀ w1 : World, Calls Try.prog 97 #[.int .i64 x, .int .i64 0, .int .i64 (n0 - 1)] w1 fun e w' => e = .returned (.bool false) ∧ w' = w1) := fun w1 => by
        have g := l1In_any x 0 (n0 - 1) w1
        rw [decide_eq_false (by omega)] at g
        exact g
      rw [hn0] at GW
      clear e1 e2 h GC
      go_enter Try.func34, Try.ntmps34
      go_wp2_with fail
      refine g1.mono ?_
      rintro e w1 ⟨rfl, hs⟩
      have hb1 := Below.step hb0 hb0.size hs
      have x1 := x0.below hs (by omega)
      obtain ⟨c0, c1, c2⟩ := x1.cells
      have hh := x1.heap
      have hlt1 := x1.lt
      clear g1
      go_wp2_with fail
      refine (GW.out _).mono ?_
      rintro e w2 ⟨rfl, hw2⟩
      have HB2 : Hid (Below w.heap.size w w2) := by
        show Below w.heap.size w w2
        rw [hw2]
        exact hb1.alloc hb1.size _
      clear hw2 c0 c1 c2 hh hlt1 x1 hb1
      have g3 := GA.out w2
      go_wp2_with fail
      refine g3.mono ?_
      rintro e w3 ⟨rfl, rfl⟩
      clear g3
      go_wp2_with fail
      go_ret2
      exact ⟨_, rfl, rowIn_of (World.ownsRow_nil _ _ _ _), HB2.out⟩
set_option maxRecDepth 100000 in
set_option maxHeartbeats 4000000 in
theorem iConeOf_any (v : Value) (c : Ci) (x : Int) (hfx : Fit x) (w : World) (h : AtC w v c) :
    Calls Try.prog 33 #[v, .int .i64 x] w fun e w' => ∃ r, e = .returned (.tuple #[r, .bool (coneB c x)]) ∧ OwnIS w' w.heap.size w'.heap.size r (coneL c x) ∧ Below w.heap.size w w' := by
  obtain ⟨ga, gn, gc, oa, on, oc, hv⟩ := h.at.shape
  have hgn : gn = c.2.1.length := by
    obtain ⟨_, g, o, hv', h1, _⟩ := h
    obtain ⟨a, cap, hg⟩ := h1.shape
    rw [hv] at hv'
    rw [hg] at hv'
    simp at hv'
    exact hv'.1.2.1
  subst hv hgn
  have x0 := box3_alloc w 27 (.int .i64 c.1) (.slice ga c.2.1.length gc) (.slice oa on oc)
  have hb0 : Below w.heap.size w (w.alloc (.cells #[.int .i64 c.1, .slice ga c.2.1.length gc, .slice oa on oc] 27)) := (Below.refl _ _).alloc (Nat.le_refl _) _
  have g1 := iGood_any _ c _ (h.below hb0).at
  have hsz : (w.alloc (.cells #[.int .i64 c.1, .slice ga c.2.1.length gc, .slice oa on oc] 27)).heap.size = w.heap.size + 1 := by simp only [World.size_alloc]
  have hlt0 := x0.lt
  obtain ⟨hf0, hf1⟩ := hfx
  cases hgd : goodC c with
  | false =>
    have e1 : coneB c x = false := by unfold coneB; rw [hgd]; rfl
    have e2 : coneL c x = [] := by unfold coneL; rw [e1]; rfl
    rw [e1, e2]
    rw [hgd] at g1
    go_enter Try.func33, Try.ntmps33
    go_wp2_with fail
    refine g1.mono ?_
    rintro e w1 ⟨rfl, hs⟩
    have HB : Hid (Below w.heap.size w w1) := Below.step hb0 hb0.size hs
    clear g1 h
    go_wp2_with fail
    go_ret2
    exact ⟨_, rfl, rowIn_of (World.ownsRow_nil _ _ _ _), HB.out⟩
  | true =>
    rw [hgd] at g1
    obtain ⟨hI0, hI1, hG, hO, _, _⟩ := goodC_ins hgd
    have GC : Hid (∀ (w1 : World), Below w.heap.size w w1 → 0 ≤ x ∧ x < c.1 + c.2.1.length → Calls Try.prog 89 #[.agg #[.int .i64 c.1, .slice ga c.2.1.length gc, .slice oa on oc], .slice (some ⟨w1.heap.size, 0, none⟩) 1 1] (w1.alloc (.cells #[.int .i64 x] 3)) fun e w' => ∃ r, e = .returned r ∧ OwnBools w' (w1.heap.size + 1) r (coneF c [x]) ∧ Below (w1.heap.size + 1) (w1.alloc (.cells #[.int .i64 x] 3)) w') := fun w1 hb hx => by
      have g := cone_any (.agg #[.int .i64 c.1, .slice ga c.2.1.length gc, .slice oa on oc]) _ c [x] hgd (by intro y hy; simp at hy; subst hy; exact hx) (w1.alloc (.cells #[.int .i64 x] 3)) (h.at.below (hb.alloc hb.size _)) (ints_lit w1 x)
      rw [World.size_alloc] at g
      exact g
    have GW : Hid (∀ w1 : World, Calls Try.prog 85 #[.agg #[.int .i64 c.1, .slice ga c.2.1.length gc, .slice oa on oc]] w1 _) := fun w1 => size_raw c.1 ga c.2.1.length gc (.slice oa on oc) (by omega) (by omega) (by omega) w1
    obtain ⟨n0, hn0⟩ : ∃ n0 : Int, c.1 + (c.2.1.length : Int) = n0 := ⟨_, rfl⟩
    have hn1 : 0 ≤ n0 := by omega
    have hn2 : n0 ≤ 1000 := by omega
    have e1 : coneB c x = decide (0 ≤ x ∧ x < n0) := by unfold coneB; rw [hgd, hn0]; rfl
    have GA : Hid (∀ w1 : World, Calls Try.prog 96 #[.int .i64 n0, .slice (some ⟨w1.heap.size, 0, none⟩) 1 1] (w1.alloc (.cells #[.int .i64 x] 3)) fun e w' => e = .returned (.bool (decide (0 ≤ x ∧ x < n0))) ∧ w' = (w1.alloc (.cells #[.int .i64 x] 3))) := fun w1 => by
      have g := goodWires_any _ [x] n0 _ (ints_lit w1 x)
      rw [show ([x].all (inB n0)) = decide (0 ≤ x ∧ x < n0) from by simp [inB]] at g
      exact g
    have hFl := coneF_len c [x]
    by_cases hx : 0 ≤ x ∧ x < n0
    · rw [decide_eq_true hx] at e1 GA
      have e2 : coneL c x = upF (coneF c [x]) (coneF c [x]).length := by unfold coneL; rw [e1]; rfl
      rw [e1, e2]
      rw [hn0] at GC GW
      generalize coneF c [x] = F at *
      obtain ⟨i0, hi, hz0, hz1, hz2⟩ := info_parts infoInt
      have hFb : F.length ≤ 1000 := by omega
      clear e1 e2 h hFl
      go_enter Try.func33, Try.ntmps33
      go_wp2_with fail
      refine g1.mono ?_
      rintro e w1 ⟨rfl, hs⟩
      have hb1 := Below.step hb0 hb0.size hs
      have x1 := x0.below hs (by omega)
      obtain ⟨c0, c1, c2⟩ := x1.cells
      have hh := x1.heap
      have hlt1 := x1.lt
      clear g1
      go_wp2_with fail
      refine (GW.out _).mono ?_
      rintro e w2 ⟨rfl, hw2⟩
      have hb2 : Below w.heap.size w w2 := by
        rw [hw2]
        exact hb1.alloc hb1.size _
      have x2 : Box3 w2 w.heap.size 27 (.int .i64 c.1) (.slice ga c.2.1.length gc) (.slice oa on oc) := by
        rw [hw2]
        exact x1.alloc _
      clear hw2 c0 c1 c2 hh hlt1 x1 hb1
      have g3 := GA.out w2
      go_wp2_with fail
      refine g3.mono ?_
      rintro e w3 ⟨rfl, hw3⟩
      have hb3 : Below w.heap.size w w3 := by
        rw [hw3]
        exact hb2.alloc hb2.size _
      have x3 : Box3 w3 w.heap.size 27 (.int .i64 c.1) (.slice ga c.2.1.length gc) (.slice oa on oc) := by
        rw [hw3]
        exact x2.alloc _
      clear hw3 g3 x2 hb2
      have g4 := GC.out w3 hb3 hx
      have hs3 := hb3.size
      have hb4 : Below w.heap.size w (w3.alloc (.cells #[.int .i64 x] 3)) := hb3.alloc hb3.size _
      have x4 := x3.alloc (.cells #[.int .i64 x] 3)
      obtain ⟨k0, k1, k2⟩ := x3.cells
      have hh := x3.heap
      have hlt1 := x3.lt
      go_wp2_with fail
      refine g4.mono ?_
      rintro e w4 ⟨r, rfl, ho, hs4⟩
      have HB4 : Hid (Below w.heap.size w w4) := hb4.trans (hs4.mono (by omega))
      have hw4 := HB4.out.size
      obtain ⟨ra, rcap, hr⟩ := own_shape ho
      subst hr
      have HR : Hid (∀ w2 : World, Below w4.heap.size w4 w2 → BoolsAt w2 (.slice ra F.length rcap) F) := fun w2 hb => (bools_of_own (by omega) ho).below hb
      clear g4 ho hs4 hb4 x4 k0 k1 k2 hh hlt1 x3 GC GW GA
      go_wp2_with fail
      go_loopw [6, 25] (fun v i wr => ∃ j : Nat, j ≤ F.length ∧ i = .int .i64 j ∧ Hid (OwnInts wr w4.heap.size v (upF F j)) ∧ Hid (Below w4.heap.size w4 wr)) (fun _ i _ => F.length - (intOf i).toNat)
      case atStart => exact ⟨0, by omega, rfl, World.ownsRow_nil _ _ _ _, Below.refl _ _⟩
      case round =>
        obtain ⟨j, hj, rfl, HO, HB⟩ := hrel
        have hszr := HB.out.size
        by_cases hlt : j < F.length
        · obtain ⟨z, hz⟩ : ∃ z, F[j]? = some z := ⟨F[j], List.getElem?_eq_getElem hlt⟩
          obtain ⟨_, _, hrr, hrc⟩ := (HR.out wr HB.out).opened
          injection hrr with er1 er2 er3
          subst er1 er3
          obtain ⟨rb, roff, rfl, hrb, d0⟩ := hrc j z hz
          have hgd' : F.getD j false = z := by rw [List.getD_eq_getElem?_getD, hz]; rfl
          have hul := upF_len F j
          cases z with
          | false =>
            have HN : Hid (OwnInts wr w4.heap.size u6 (upF F (j + 1))) := by
              have h1 := HO.out
              show OwnInts wr w4.heap.size u6 (upF F (j + 1))
              rw [upF, if_neg (by rw [hgd']; decide), List.append_nil]
              exact h1
            clear HO hz hrc HR hgd'
            go_wp2_with fail
            go_roundw
            case rel => exact ⟨j + 1, by omega, by go_num, HN, HB⟩
            case measure => simp [intOf]; omega
          | true =>
            have HNX : Hid (∀ (v2 : Value) (w2 : World), w2.ownsRow w4.heap.size 3 1 v2 ((upF F j).length + 1) ((upF F j).map (Value.int .i64) ++ [.int .i64 (j : Int)]) → OwnInts w2 w4.heap.size v2 (upF F (j + 1))) := by
              intro v2 w2 ho2
              show OwnInts w2 w4.heap.size v2 (upF F (j + 1))
              rw [upF, if_pos hgd']
              unfold OwnInts
              rw [List.length_append, List.map_append]
              exact ho2
            have own5 : wr.ownsRow w4.heap.size 3 1 u6 (upF F j).length ((upF F j).map (Value.int .i64)) := HO.out
            obtain ⟨va, vc5, hv5⟩ := own_shape own5
            subst hv5
            have own6 := own5.alloc (.cells #[.int .i64 (j : Int)] 3)
            have hb6 : Below w4.heap.size w4 (wr.alloc (.cells #[.int .i64 (j : Int)] 3)) := HB.out.alloc hszr _
            have hs6 := hb6.size
            clear HO hz hrc HR hgd' own5 HB
            generalize (upF F j).length = un at *
            generalize ((upF F j).map (Value.int .i64)) = cb at *
            go_wp2_with (at_builtin; refine wpList_append_own _ rfl _ _ 25 rfl w4.heap.size 3 i0 (.int .i64 0) 1 8 Try.underlying25 hi hz0 hz1 hz2 rfl (by decide) _ _ _ rfl own6 ⟨wr.heap.size, 0, none⟩ 1 1 [.int .i64 (j : Int)] rfl rfl (oneI_cells wr j) (ints_one [(j : Int)]) (by unfold maxLen; omega) (by omega) (by omega) ?_)
            intro v2 w2' own7 grow7 _
            have HB7 : Hid (Below w4.heap.size w4 w2') := below_app hb6 (by omega) (Nat.le_refl _) own6 grow7
            have HO7 : Hid (OwnInts w2' w4.heap.size v2 (upF F (j + 1))) := HNX.out v2 w2' own7
            clear own6 own7 grow7 hb6 HNX
            go_wp2_with fail
            go_roundw
            case rel => exact ⟨j + 1, by omega, by go_num, HO7, HB7⟩
            case measure => simp [intOf]; omega
        · obtain rfl : j = F.length := by omega
          have HN : Hid (OwnIS wr w.heap.size wr.heap.size u6 (upF F F.length)) := rowIn_of (own_base HO.out hw4)
          have HB2 : Hid (Below w.heap.size w wr) := HB4.out.trans (HB.out.mono hw4)
          clear HO HB HR
          go_wp2_with fail
          go_ret2
          exact ⟨_, rfl, HN.out, HB2.out⟩
    · rw [decide_eq_false hx] at e1 GA
      have e2 : coneL c x = [] := by unfold coneL; rw [e1]; rfl
      rw [e1, e2]
      rw [hn0] at GW
      clear e1 e2 h hFl GC
      go_enter Try.func33, Try.ntmps33
      go_wp2_with fail
      refine g1.mono ?_
      rintro e w1 ⟨rfl, hs⟩
      have hb1 := Below.step hb0 hb0.size hs
      have x1 := x0.below hs (by omega)
      obtain ⟨c0, c1, c2⟩ := x1.cells
      have hh := x1.heap
      have hlt1 := x1.lt
      clear g1
      go_wp2_with fail
      refine (GW.out _).mono ?_
      rintro e w2 ⟨rfl, hw2⟩
      have hb2 : Below w.heap.size w w2 := by
        rw [hw2]
        exact hb1.alloc hb1.size _
      clear hw2 c0 c1 c2 hh hlt1 x1 hb1
      have g3 := GA.out w2
      go_wp2_with fail
      refine g3.mono ?_
      rintro e w3 ⟨rfl, hw3⟩
      have HB3 : Hid (Below w.heap.size w w3) := by
        show Below w.heap.size w w3
        rw [hw3]
        exact hb2.alloc hb2.size _
      clear hw3 g3 hb2
      go_wp2_with fail
      go_ret2
      exact ⟨_, rfl, rowIn_of (World.ownsRow_nil _ _ _ _), HB3.out⟩
end Go.Proofs.Ytmjeaceabjinfaa

namespace Go.Proofs.Ytmjeaceabjinfaa
open Go Go.RowKit
open M
set_option linter.unusedVariables false
set_option linter.unusedSimpArgs false

end Go.Proofs.Ytmjeaceabjinfaa

namespace Go.Proofs.Ytmjeaceabjinfaa
open Go Go.RowKit
open M
set_option linter.unusedVariables false
set_option linter.unusedSimpArgs false

theorem sLessGates_any (v av bv : Value) (c : Ci) (a b : List Int) (w : World) (h : AtC w v c) (ha : AtIS w av a) (hb : AtIS w bv b) :
    Calls Try.prog 19 #[v, av, bv] w fun e w' => ∃ r, e = .returned (.tuple #[r, .int .i64 (lessW c a b), .bool (lessB c a b)]) ∧ OwnCirc w' w.heap.size w'.heap.size r (lessR c a b) ∧ Below w.heap.size w w' := by
  unfold lessW lessR
  cases hsd : sidesB c a b with
  | false =>
    have e : lessB c a b = false := by unfold lessB; rw [hsd]; rfl
    rw [e]
    exact sLessGates_bad v av bv c a b hsd w h ha hb
  | true =>
    cases hgD : goodC (lessC c a b) with
    | false =>
      have e : lessB c a b = false := by unfold lessB; rw [hsd, hgD]; rfl
      rw [e]
      exact sLessGates_no v av bv c a b hsd hgD w h ha hb
    | true =>
      have e : lessB c a b = true := by unfold lessB; rw [hsd, hgD]; rfl
      rw [e]
      exact sLessGates_yes v av bv c a b hsd hgD w h ha hb
theorem sEqGates_any (v av bv : Value) (c : Ci) (a b : List Int) (w : World) (h : AtC w v c) (ha : AtIS w av a) (hb : AtIS w bv b) :
    Calls Try.prog 22 #[v, av, bv] w fun e w' => ∃ r, e = .returned (.tuple #[r, .int .i64 (eqW c a b), .bool (eqB c a b)]) ∧ OwnCirc w' w.heap.size w'.heap.size r (eqR c a b) ∧ Below w.heap.size w w' := by
  unfold eqW eqR
  cases hsd : sidesB c a b with
  | false =>
    have e : eqB c a b = false := by unfold eqB; rw [hsd]; rfl
    rw [e]
    exact sEqGates_bad v av bv c a b hsd w h ha hb
  | true =>
    cases hgD : goodC (eqC c a b) with
    | false =>
      have e : eqB c a b = false := by unfold eqB; rw [hsd, hgD]; rfl
      rw [e]
      exact sEqGates_no v av bv c a b hsd hgD w h ha hb
    | true =>
      have e : eqB c a b = true := by unfold eqB; rw [hsd, hgD]; rfl
      rw [e]
      exact sEqGates_yes v av bv c a b hsd hgD w h ha hb
end Go.Proofs.Ytmjeaceabjinfaa

namespace Go.Proofs.Ytmjeaceabjinfaa
open Go Go.RowKit
open M
set_option linter.unusedVariables false
set_option linter.unusedSimpArgs false

set_option maxRecDepth 100000 in
set_option maxHeartbeats 8000000 in
theorem iLessCmp_bad (v av bv : Value) (c : Ci) (a b : List Int) (hsd : sidesB c a b = false) (w : World) (h : AtC w v c) (ha : AtIS w av a) (hb : AtIS w bv b) :
    Calls Try.prog 76 #[v, av, bv, .func (.func 77) #[] #[]] w fun e w' => ∃ r, e = .returned (.tuple #[r, .int .i64 0, .bool false]) ∧ OwnCirc w' w.heap.size w'.heap.size r (0, [], []) ∧ Below w.heap.size w w' := by
  obtain ⟨ga, gn, gc, oa, on, oc, hv⟩ := h.at.shape
  have hgn : gn = c.2.1.length := by
    obtain ⟨_, g, o, hv', h1, _⟩ := h
    obtain ⟨a', cap, hg⟩ := h1.shape
    rw [hv] at hv'
    rw [hg] at hv'
    simp at hv'
    exact hv'.1.2.1
  subst hv
  obtain ⟨aa, ac, hav⟩ := ha.1.shape
  obtain ⟨ba, bc, hbv⟩ := hb.1.shape
  have hb0 : Below w.heap.size w ((w.alloc (.cells #[.int .i64 c.1, .slice ga gn gc, .slice oa on oc] 27)).alloc (.cells #[.int .i64 0, .slice none 0 0, .slice none 0 0] 27)) := below2 _ _ _
  have x0 := (box3_alloc w 27 (.int .i64 c.1) (.slice ga gn gc) (.slice oa on oc)).alloc (.cells #[.int .i64 0, .slice none 0 0, .slice none 0 0] 27)
  have x1 := box3_alloc (w.alloc (.cells #[.int .i64 c.1, .slice ga gn gc, .slice oa on oc] 27)) 27 (.int .i64 0) (.slice none 0 0) (.slice none 0 0)
  simp only [World.size_alloc] at x1
  have g1 := iSides_any _ _ _ c a b _ (h.below hb0).at (ha.1.below hb0) (hb.1.below hb0)
  rw [hsd] at g1
  have hsz : ((w.alloc (.cells #[.int .i64 c.1, .slice ga gn gc, .slice oa on oc] 27)).alloc (.cells #[.int .i64 0, .slice none 0 0, .slice none 0 0] 27)).heap.size = w.heap.size + 1 + 1 := by simp only [World.size_alloc]
  subst hav hbv
  clear hgn h ha hb
  generalize a.length = an at *
  generalize b.length = bn at *
  go_enter Try.func76, Try.ntmps76
  go_wp2_with fail
  refine g1.mono ?_
  rintro e w1 ⟨rfl, hs⟩
  have hb1 := Below.step hb0 hb0.size hs
  have y0 := x0.below hs (by omega)
  have y1 := x1.below hs (by omega)
  have hsz1 := hs.size
  rw [hsz] at hsz1
  clear g1 hs hb0 x0 x1 hsz
  clear y0
  obtain ⟨r0, r1, r2⟩ := y1.cells
  have rh := y1.heap
  have rl := y1.lt
  have rf0 := y1.frozen 0
  have rf1 := y1.frozen 1
  have rf2 := y1.frozen 2
  go_wp2_with fail
  have z1 := ((y1.set0 (.int .i64 0)).set1 (.slice none 0 0)).set2 (.slice none 0 0)
  have hbz := ((hb1.setCell (p := ⟨w.heap.size + 1, 0, none⟩) (Nat.le_succ _) (.int .i64 0)).setCell (p := ⟨w.heap.size + 1, 1, none⟩) (Nat.le_succ _) (.slice none 0 0)).setCell (p := ⟨w.heap.size + 1, 2, none⟩) (Nat.le_succ _) (.slice none 0 0)
  refine bodyPost_ret (results_c2 rfl _ _ (w.heap.size + 1) 27 _ (0, 0) _ rfl z1.heap Try.underlying27 rfl (by kernel_rfl)) rfl ?_
  exact ⟨_, rfl, ⟨_, _, rfl, rowIn_of (World.ownsRow_nil _ _ _ _), rowIn_of (World.ownsRow_nil _ _ _ _)⟩, hbz⟩
set_option maxRecDepth 100000 in
set_option maxHeartbeats 8000000 in
theorem iLessCmp_no (v av bv : Value) (c : Ci) (a b : List Int) (hsd : sidesB c a b = true) (hgD : goodC (lessC c a b) = false) (w : World) (h : AtC w v c) (ha : AtIS w av a) (hb : AtIS w bv b) :
    Calls Try.prog 76 #[v, av, bv, .func (.func 77) #[] #[]] w fun e w' => ∃ r, e = .returned (.tuple #[r, .int .i64 0, .bool false]) ∧ OwnCirc w' w.heap.size w'.heap.size r (0, [], []) ∧ Below w.heap.size w w' := by
  obtain ⟨hgd, hl, h16, _, _⟩ := sides_parts hsd
  obtain ⟨hI0, hI1, hG, hO, _, _⟩ := goodC_ins hgd
  obtain ⟨ga, gn, gc, oa, on, oc, hv⟩ := h.at.shape
  have hgn : gn = c.2.1.length := by
    obtain ⟨_, g, o, hv', h1, _⟩ := h
    obtain ⟨a', cap, hg⟩ := h1.shape
    rw [hv] at hv'
    rw [hg] at hv'
    simp at hv'
    exact hv'.1.2.1
  subst hv
  obtain ⟨aa, ac, hav⟩ := ha.1.shape
  obtain ⟨ba, bc, hbv⟩ := hb.1.shape
  have hb0 : Below w.heap.size w ((w.alloc (.cells #[.int .i64 c.1, .slice ga gn gc, .slice oa on oc] 27)).alloc (.cells #[.int .i64 0, .slice none 0 0, .slice none 0 0] 27)) := below2 _ _ _
  have x0 := (box3_alloc w 27 (.int .i64 c.1) (.slice ga gn gc) (.slice oa on oc)).alloc (.cells #[.int .i64 0, .slice none 0 0, .slice none 0 0] 27)
  have x1 := box3_alloc (w.alloc (.cells #[.int .i64 c.1, .slice ga gn gc, .slice oa on oc] 27)) 27 (.int .i64 0) (.slice none 0 0) (.slice none 0 0)
  simp only [World.size_alloc] at x1
  have g1 := iSides_any _ _ _ c a b _ (h.below hb0).at (ha.1.below hb0) (hb.1.below hb0)
  rw [hsd] at g1
  have hsz : ((w.alloc (.cells #[.int .i64 c.1, .slice ga gn gc, .slice oa on oc] 27)).alloc (.cells #[.int .i64 0, .slice none 0 0, .slice none 0 0] 27)).heap.size = w.heap.size + 1 + 1 := by simp only [World.size_alloc]
  have GG : Hid (∀ w1 : World, Below w.heap.size w w1 → Calls Try.prog 138 #[.agg #[.int .i64 c.1, .slice ga gn gc, .slice oa on oc]] w1 fun e w' => ∃ b, e = .returned (.pointer (some ⟨b, 0, none⟩)) ∧ Bld w' w1.heap.size w'.heap.size b 27 c ∧ Below w1.heap.size w1 w') := fun w1 hw => grown_any _ c hI0 hI1 hG hO w1 (h.below hw)
  have GL : Hid (∀ (lo hi bl : Nat) (w1 : World), Bld w1 lo hi bl 27 c → hi ≤ w1.heap.size → w.heap.size ≤ lo → Below w.heap.size w w1 → Calls Try.prog 77 #[.pointer (some ⟨bl, 0, none⟩), av, bv] w1 fun e w' => e = .returned (.int .i64 (onW (wiresN c) (wiresN c + 1) 6 5 a.length)) ∧ Bld w' lo hi bl 27 (lessC c a b) ∧ Below lo w1 w') := fun lo hi bl w1 hB hhi hlo hb' => iLess_any lo hi bl c.1 c.2.1 c.2.2 av bv a b (wiresN c) rfl hI0 hI1 hG hl h16 w1 hB hhi (fun w' hw => ha.1.below (hb'.trans (hw.mono hlo))) (fun w' hw => hb.1.below (hb'.trans (hw.mono hlo)))
  have HGO : Hid (∀ (u : Value) (w1 : World), AtCirc w1 u (lessC c a b) → Calls Try.prog 84 #[u] w1 fun e w' => e = .returned (.bool false) ∧ Below w1.heap.size w1 w') := fun u w1 h1 => by
    have g := iGood_any u _ w1 h1
    rw [hgD] at g
    exact g
  have hfit : Fit (lessC c a b).1 := h.1
  have hDs := lessC_sm hsd
  have hD2 : (lessC c a b).2.2.length ≤ 16 := hO
  rw [hav, hbv] at GL
  obtain ⟨DD, hDD⟩ : ∃ DD, (lessC c a b) = DD := ⟨_, rfl⟩
  rw [hDD] at GL HGO hfit hDs hD2
  obtain ⟨AN, hAN⟩ : ∃ AN : Int, onW (wiresN c) (wiresN c + 1) 6 5 a.length = AN := ⟨_, rfl⟩
  rw [hAN] at GL
  clear hAN
  clear hDD hgD
  subst hav hbv
  clear hgn h ha hb hsd hl h16
  generalize a.length = an at *
  generalize b.length = bn at *
  go_enter Try.func76, Try.ntmps76
  go_wp2_with fail
  refine g1.mono ?_
  rintro e w1 ⟨rfl, hs⟩
  have hb1 := Below.step hb0 hb0.size hs
  have y0 := x0.below hs (by omega)
  have y1 := x1.below hs (by omega)
  have hsz1 := hs.size
  rw [hsz] at hsz1
  clear g1 hs hb0 x0 x1 hsz
  obtain ⟨c0, c1, c2⟩ := y0.cells
  have ch := y0.heap
  have cl := y0.lt
  go_wp2_with fail
  refine (GG.out w1 hb1).mono ?_
  rintro e w4 ⟨bl, rfl, hB, hst⟩
  clear c0 c1 c2 ch cl
  have hlo : w.heap.size + 1 + 1 ≤ w1.heap.size := by omega
  have hblo := hB.1
  have hb' : Below w.heap.size w w4 := hb1.trans (hst.mono hb1.size)
  have hst' := hst.size
  have y0' := y0.below hst y0.lt
  have y1' := y1.below hst y1.lt
  clear hst hb1 y0 y1
  have hb1 := hb'
  clear hb'
  have y0 := y0'
  clear y0'
  have y1 := y1'
  clear y1'
  have hhi : w4.heap.size ≤ w4.heap.size := Nat.le_refl _
  go_wp2_with fail
  refine (GL.out w1.heap.size w4.heap.size bl w4 hB hhi (by omega) hb1).mono ?_
  rintro e w5 ⟨rfl, hB5, hs5⟩
  have hst : Below w.heap.size w w5 := hb1.trans (hs5.mono (by omega))
  have y1' := y1.below hs5 (by omega)
  have hs5' := hs5.size
  obtain ⟨gsl, osl, hx5, hat, hog5, hoo5, hob5⟩ := hB5.reads hfit hDs.1 (by omega) (by omega)
  clear hB hB5 y0 y1 hs5 GG GL hb1
  have hb1 := hst
  clear hst
  have y1 := y1'
  clear y1'
  obtain ⟨sga, sgc, hsg⟩ := own_shape hog5
  obtain ⟨soa, soc, hso⟩ := own_shape hoo5
  subst hsg hso
  have hblt := hx5.lt
  obtain ⟨c0, c1, c2⟩ := hx5.cells
  have ch := hx5.heap
  have cl := hx5.lt
  go_wp2_with fail
  refine (HGO.out _ w5 hat).mono ?_
  rintro e w6 ⟨rfl, hst⟩
  have hb' : Below w.heap.size w w6 := hb1.trans (hst.mono hb1.size)
  have y1' := y1.below hst y1.lt
  have hx6 := hx5.below hst hx5.lt
  have hog6 := owns_below hog5 hst
  have hoo6 := owns_below hoo5 hst
  have hst6 := hst.size
  clear hst hb1 y1 hx5 hog5 hoo5 hat HGO c0 c1 c2 ch cl
  have hb1 := hb'
  clear hb'
  have y1 := y1'
  clear y1'
  have y0 := True.intro
  clear y0
  obtain ⟨r0, r1, r2⟩ := y1.cells
  have rh := y1.heap
  have rl := y1.lt
  have rf0 := y1.frozen 0
  have rf1 := y1.frozen 1
  have rf2 := y1.frozen 2
  go_wp2_with fail
  have z1 := ((y1.set0 (.int .i64 0)).set1 (.slice none 0 0)).set2 (.slice none 0 0)
  have hbz := ((hb1.setCell (p := ⟨w.heap.size + 1, 0, none⟩) (Nat.le_succ _) (.int .i64 0)).setCell (p := ⟨w.heap.size + 1, 1, none⟩) (Nat.le_succ _) (.slice none 0 0)).setCell (p := ⟨w.heap.size + 1, 2, none⟩) (Nat.le_succ _) (.slice none 0 0)
  refine bodyPost_ret (results_c2 rfl _ _ (w.heap.size + 1) 27 _ (0, 0) _ rfl z1.heap Try.underlying27 rfl (by kernel_rfl)) rfl ?_
  exact ⟨_, rfl, ⟨_, _, rfl, rowIn_of (World.ownsRow_nil _ _ _ _), rowIn_of (World.ownsRow_nil _ _ _ _)⟩, hbz⟩
set_option maxRecDepth 100000 in
set_option maxHeartbeats 8000000 in
theorem iLessCmp_yes (v av bv : Value) (c : Ci) (a b : List Int) (hsd : sidesB c a b = true) (hgD : goodC (lessC c a b) = true) (w : World) (h : AtC w v c) (ha : AtIS w av a) (hb : AtIS w bv b) :
    Calls Try.prog 76 #[v, av, bv, .func (.func 77) #[] #[]] w fun e w' => ∃ r, e = .returned (.tuple #[r, .int .i64 (onW (wiresN c) (wiresN c + 1) 6 5 a.length), .bool true]) ∧ OwnCirc w' w.heap.size w'.heap.size r (lessC c a b) ∧ Below w.heap.size w w' := by
  obtain ⟨hgd, hl, h16, _, _⟩ := sides_parts hsd
  obtain ⟨hI0, hI1, hG, hO, _, _⟩ := goodC_ins hgd
  obtain ⟨ga, gn, gc, oa, on, oc, hv⟩ := h.at.shape
  have hgn : gn = c.2.1.length := by
    obtain ⟨_, g, o, hv', h1, _⟩ := h
    obtain ⟨a', cap, hg⟩ := h1.shape
    rw [hv] at hv'
    rw [hg] at hv'
    simp at hv'
    exact hv'.1.2.1
  subst hv
  obtain ⟨aa, ac, hav⟩ := ha.1.shape
  obtain ⟨ba, bc, hbv⟩ := hb.1.shape
  have hb0 : Below w.heap.size w ((w.alloc (.cells #[.int .i64 c.1, .slice ga gn gc, .slice oa on oc] 27)).alloc (.cells #[.int .i64 0, .slice none 0 0, .slice none 0 0] 27)) := below2 _ _ _
  have x0 := (box3_alloc w 27 (.int .i64 c.1) (.slice ga gn gc) (.slice oa on oc)).alloc (.cells #[.int .i64 0, .slice none 0 0, .slice none 0 0] 27)
  have x1 := box3_alloc (w.alloc (.cells #[.int .i64 c.1, .slice ga gn gc, .slice oa on oc] 27)) 27 (.int .i64 0) (.slice none 0 0) (.slice none 0 0)
  simp only [World.size_alloc] at x1
  have g1 := iSides_any _ _ _ c a b _ (h.below hb0).at (ha.1.below hb0) (hb.1.below hb0)
  rw [hsd] at g1
  have hsz : ((w.alloc (.cells #[.int .i64 c.1, .slice ga gn gc, .slice oa on oc] 27)).alloc (.cells #[.int .i64 0, .slice none 0 0, .slice none 0 0] 27)).heap.size = w.heap.size + 1 + 1 := by simp only [World.size_alloc]
  have GG : Hid (∀ w1 : World, Below w.heap.size w w1 → Calls Try.prog 138 #[.agg #[.int .i64 c.1, .slice ga gn gc, .slice oa on oc]] w1 fun e w' => ∃ b, e = .returned (.pointer (some ⟨b, 0, none⟩)) ∧ Bld w' w1.heap.size w'.heap.size b 27 c ∧ Below w1.heap.size w1 w') := fun w1 hw => grown_any _ c hI0 hI1 hG hO w1 (h.below hw)
  have GL : Hid (∀ (lo hi bl : Nat) (w1 : World), Bld w1 lo hi bl 27 c → hi ≤ w1.heap.size → w.heap.size ≤ lo → Below w.heap.size w w1 → Calls Try.prog 77 #[.pointer (some ⟨bl, 0, none⟩), av, bv] w1 fun e w' => e = .returned (.int .i64 (onW (wiresN c) (wiresN c + 1) 6 5 a.length)) ∧ Bld w' lo hi bl 27 (lessC c a b) ∧ Below lo w1 w') := fun lo hi bl w1 hB hhi hlo hb' => iLess_any lo hi bl c.1 c.2.1 c.2.2 av bv a b (wiresN c) rfl hI0 hI1 hG hl h16 w1 hB hhi (fun w' hw => ha.1.below (hb'.trans (hw.mono hlo))) (fun w' hw => hb.1.below (hb'.trans (hw.mono hlo)))
  have HGO : Hid (∀ (u : Value) (w1 : World), AtCirc w1 u (lessC c a b) → Calls Try.prog 84 #[u] w1 fun e w' => e = .returned (.bool true) ∧ Below w1.heap.size w1 w') := fun u w1 h1 => by
    have g := iGood_any u _ w1 h1
    rw [hgD] at g
    exact g
  have hfit : Fit (lessC c a b).1 := h.1
  have hDs := lessC_sm hsd
  have hD2 : (lessC c a b).2.2.length ≤ 16 := hO
  rw [hav, hbv] at GL
  obtain ⟨DD, hDD⟩ : ∃ DD, (lessC c a b) = DD := ⟨_, rfl⟩
  rw [hDD] at GL HGO hfit hDs hD2 ⊢
  obtain ⟨AN, hAN⟩ : ∃ AN : Int, onW (wiresN c) (wiresN c + 1) 6 5 a.length = AN := ⟨_, rfl⟩
  rw [hAN] at GL ⊢
  clear hAN
  clear hDD hgD
  subst hav hbv
  clear hgn h ha hb hsd hl h16
  generalize a.length = an at *
  generalize b.length = bn at *
  go_enter Try.func76, Try.ntmps76
  go_wp2_with fail
  refine g1.mono ?_
  rintro e w1 ⟨rfl, hs⟩
  have hb1 := Below.step hb0 hb0.size hs
  have y0 := x0.below hs (by omega)
  have y1 := x1.below hs (by omega)
  have hsz1 := hs.size
  rw [hsz] at hsz1
  clear g1 hs hb0 x0 x1 hsz
  obtain ⟨c0, c1, c2⟩ := y0.cells
  have ch := y0.heap
  have cl := y0.lt
  go_wp2_with fail
  refine (GG.out w1 hb1).mono ?_
  rintro e w4 ⟨bl, rfl, hB, hst⟩
  clear c0 c1 c2 ch cl
  have hlo : w.heap.size + 1 + 1 ≤ w1.heap.size := by omega
  have hblo := hB.1
  have hb' : Below w.heap.size w w4 := hb1.trans (hst.mono hb1.size)
  have hst' := hst.size
  have y0' := y0.below hst y0.lt
  have y1' := y1.below hst y1.lt
  clear hst hb1 y0 y1
  have hb1 := hb'
  clear hb'
  have y0 := y0'
  clear y0'
  have y1 := y1'
  clear y1'
  have hhi : w4.heap.size ≤ w4.heap.size := Nat.le_refl _
  go_wp2_with fail
  refine (GL.out w1.heap.size w4.heap.size bl w4 hB hhi (by omega) hb1).mono ?_
  rintro e w5 ⟨rfl, hB5, hs5⟩
  have hst : Below w.heap.size w w5 := hb1.trans (hs5.mono (by omega))
  have y1' := y1.below hs5 (by omega)
  have hs5' := hs5.size
  obtain ⟨gsl, osl, hx5, hat, hog5, hoo5, hob5⟩ := hB5.reads hfit hDs.1 (by omega) (by omega)
  clear hB hB5 y0 y1 hs5 GG GL hb1
  have hb1 := hst
  clear hst
  have y1 := y1'
  clear y1'
  obtain ⟨sga, sgc, hsg⟩ := own_shape hog5
  obtain ⟨soa, soc, hso⟩ := own_shape hoo5
  subst hsg hso
  have hblt := hx5.lt
  obtain ⟨c0, c1, c2⟩ := hx5.cells
  have ch := hx5.heap
  have cl := hx5.lt
  go_wp2_with fail
  refine (HGO.out _ w5 hat).mono ?_
  rintro e w6 ⟨rfl, hst⟩
  have hb' : Below w.heap.size w w6 := hb1.trans (hst.mono hb1.size)
  have y1' := y1.below hst y1.lt
  have hx6 := hx5.below hst hx5.lt
  have hog6 := owns_below hog5 hst
  have hoo6 := owns_below hoo5 hst
  have hst6 := hst.size
  clear hst hb1 y1 hx5 hog5 hoo5 hat HGO c0 c1 c2 ch cl
  have hb1 := hb'
  clear hb'
  have y1 := y1'
  clear y1'
  obtain ⟨c0, c1, c2⟩ := hx6.cells
  have ch := hx6.heap
  have cl := hx6.lt
  obtain ⟨r0, r1, r2⟩ := y1.cells
  have rh := y1.heap
  have rl := y1.lt
  have rf0 := y1.frozen 0
  have rf1 := y1.frozen 1
  have rf2 := y1.frozen 2
  have hgl : DD.2.1.length ≤ 500 := hDs.2
  have HZ : Hid _ := ((y1.set0 (.int .i64 DD.1)).set1 (.slice sga DD.2.1.length sgc)).set2 (.slice soa DD.2.2.length soc)
  have HBZ : Hid _ := ((hb1.setCell (p := ⟨w.heap.size + 1, 0, none⟩) (Nat.le_succ _) (.int .i64 DD.1)).setCell (p := ⟨w.heap.size + 1, 1, none⟩) (Nat.le_succ _) (.slice sga DD.2.1.length sgc)).setCell (p := ⟨w.heap.size + 1, 2, none⟩) (Nat.le_succ _) (.slice soa DD.2.2.length soc)
  have HGZ : Hid _ := own_set (b := w.heap.size + 1) (o := 2) (u := .slice soa DD.2.2.length soc) (own_set (b := w.heap.size + 1) (o := 1) (u := .slice sga DD.2.1.length sgc) (own_set (b := w.heap.size + 1) (o := 0) (u := .int .i64 DD.1) hog6 (by omega)) (by omega)) (by omega)
  have HOZ : Hid _ := own_set (b := w.heap.size + 1) (o := 2) (u := .slice soa DD.2.2.length soc) (own_set (b := w.heap.size + 1) (o := 1) (u := .slice sga DD.2.1.length sgc) (own_set (b := w.heap.size + 1) (o := 0) (u := .int .i64 DD.1) hoo6 (by omega)) (by omega)) (by omega)
  have hne : bl ≠ w.heap.size + 1 := by omega
  clear hx6 y1 hog6 hoo6 hb1 hob5
  generalize hdg : DD.2.1.length = dg at *
  generalize hdo : DD.2.2.length = dq at *
  go_wp2_with fail
  refine bodyPost_ret (results_c2 rfl _ _ (w.heap.size + 1) 27 _ (0, 0) _ rfl HZ.out.heap Try.underlying27 rfl (by kernel_rfl)) rfl ?_
  exact ⟨_, rfl, ⟨.slice sga dg sgc, .slice soa dq soc, rfl, by rw [hdg]; exact rowIn_of (own_base HGZ.out (by omega)), by rw [hdo]; exact rowIn_of (own_base HOZ.out (by omega))⟩, HBZ.out⟩
set_option maxRecDepth 100000 in
set_option maxHeartbeats 8000000 in
theorem iEqCmp_bad (v av bv : Value) (c : Ci) (a b : List Int) (hsd : sidesB c a b = false) (w : World) (h : AtC w v c) (ha : AtIS w av a) (hb : AtIS w bv b) :
    Calls Try.prog 76 #[v, av, bv, .func (.func 82) #[] #[]] w fun e w' => ∃ r, e = .returned (.tuple #[r, .int .i64 0, .bool false]) ∧ OwnCirc w' w.heap.size w'.heap.size r (0, [], []) ∧ Below w.heap.size w w' := by
  obtain ⟨ga, gn, gc, oa, on, oc, hv⟩ := h.at.shape
  have hgn : gn = c.2.1.length := by
    obtain ⟨_, g, o, hv', h1, _⟩ := h
    obtain ⟨a', cap, hg⟩ := h1.shape
    rw [hv] at hv'
    rw [hg] at hv'
    simp at hv'
    exact hv'.1.2.1
  subst hv
  obtain ⟨aa, ac, hav⟩ := ha.1.shape
  obtain ⟨ba, bc, hbv⟩ := hb.1.shape
  have hb0 : Below w.heap.size w ((w.alloc (.cells #[.int .i64 c.1, .slice ga gn gc, .slice oa on oc] 27)).alloc (.cells #[.int .i64 0, .slice none 0 0, .slice none 0 0] 27)) := below2 _ _ _
  have x0 := (box3_alloc w 27 (.int .i64 c.1) (.slice ga gn gc) (.slice oa on oc)).alloc (.cells #[.int .i64 0, .slice none 0 0, .slice none 0 0] 27)
  have x1 := box3_alloc (w.alloc (.cells #[.int .i64 c.1, .slice ga gn gc, .slice oa on oc] 27)) 27 (.int .i64 0) (.slice none 0 0) (.slice none 0 0)
  simp only [World.size_alloc] at x1
  have g1 := iSides_any _ _ _ c a b _ (h.below hb0).at (ha.1.below hb0) (hb.1.below hb0)
  rw [hsd] at g1
  have hsz : ((w.alloc (.cells #[.int .i64 c.1, .slice ga gn gc, .slice oa on oc] 27)).alloc (.cells #[.int .i64 0, .slice none 0 0, .slice none 0 0] 27)).heap.size = w.heap.size + 1 + 1 := by simp only [World.size_alloc]
  subst hav hbv
  clear hgn h ha hb
  generalize a.length = an at *
  generalize b.length = bn at *
  go_enter Try.func76, Try.ntmps76
  go_wp2_with fail
  refine g1.mono ?_
  rintro e w1 ⟨rfl, hs⟩
  have hb1 := Below.step hb0 hb0.size hs
  have y0 := x0.below hs (by omega)
  have y1 := x1.below hs (by omega)
  have hsz1 := hs.size
  rw [hsz] at hsz1
  clear g1 hs hb0 x0 x1 hsz
  clear y0
  obtain ⟨r0, r1, r2⟩ := y1.cells
  have rh := y1.heap
  have rl := y1.lt
  have rf0 := y1.frozen 0
  have rf1 := y1.frozen 1
  have rf2 := y1.frozen 2
  go_wp2_with fail
  have z1 := ((y1.set0 (.int .i64 0)).set1 (.slice none 0 0)).set2 (.slice none 0 0)
  have hbz := ((hb1.setCell (p := ⟨w.heap.size + 1, 0, none⟩) (Nat.le_succ _) (.int .i64 0)).setCell (p := ⟨w.heap.size + 1, 1, none⟩) (Nat.le_succ _) (.slice none 0 0)).setCell (p := ⟨w.heap.size + 1, 2, none⟩) (Nat.le_succ _) (.slice none 0 0)
  refine bodyPost_ret (results_c2 rfl _ _ (w.heap.size + 1) 27 _ (0, 0) _ rfl z1.heap Try.underlying27 rfl (by kernel_rfl)) rfl ?_
  exact ⟨_, rfl, ⟨_, _, rfl, rowIn_of (World.ownsRow_nil _ _ _ _), rowIn_of (World.ownsRow_nil _ _ _ _)⟩, hbz⟩
set_option maxRecDepth 100000 in
set_option maxHeartbeats 8000000 in
theorem iEqCmp_no (v av bv : Value) (c : Ci) (a b : List Int) (hsd : sidesB c a b = true) (hgD : goodC (eqC c a b) = false) (w : World) (h : AtC w v c) (ha : AtIS w av a) (hb : AtIS w bv b) :
    Calls Try.prog 76 #[v, av, bv, .func (.func 82) #[] #[]] w fun e w' => ∃ r, e = .returned (.tuple #[r, .int .i64 0, .bool false]) ∧ OwnCirc w' w.heap.size w'.heap.size r (0, [], []) ∧ Below w.heap.size w w' := by
  obtain ⟨hgd, hl, h16, _, _⟩ := sides_parts hsd
  obtain ⟨hI0, hI1, hG, hO, _, _⟩ := goodC_ins hgd
  obtain ⟨ga, gn, gc, oa, on, oc, hv⟩ := h.at.shape
  have hgn : gn = c.2.1.length := by
    obtain ⟨_, g, o, hv', h1, _⟩ := h
    obtain ⟨a', cap, hg⟩ := h1.shape
    rw [hv] at hv'
    rw [hg] at hv'
    simp at hv'
    exact hv'.1.2.1
  subst hv
  obtain ⟨aa, ac, hav⟩ := ha.1.shape
  obtain ⟨ba, bc, hbv⟩ := hb.1.shape
  have hb0 : Below w.heap.size w ((w.alloc (.cells #[.int .i64 c.1, .slice ga gn gc, .slice oa on oc] 27)).alloc (.cells #[.int .i64 0, .slice none 0 0, .slice none 0 0] 27)) := below2 _ _ _
  have x0 := (box3_alloc w 27 (.int .i64 c.1) (.slice ga gn gc) (.slice oa on oc)).alloc (.cells #[.int .i64 0, .slice none 0 0, .slice none 0 0] 27)
  have x1 := box3_alloc (w.alloc (.cells #[.int .i64 c.1, .slice ga gn gc, .slice oa on oc] 27)) 27 (.int .i64 0) (.slice none 0 0) (.slice none 0 0)
  simp only [World.size_alloc] at x1
  have g1 := iSides_any _ _ _ c a b _ (h.below hb0).at (ha.1.below hb0) (hb.1.below hb0)
  rw [hsd] at g1
  have hsz : ((w.alloc (.cells #[.int .i64 c.1, .slice ga gn gc, .slice oa on oc] 27)).alloc (.cells #[.int .i64 0, .slice none 0 0, .slice none 0 0] 27)).heap.size = w.heap.size + 1 + 1 := by simp only [World.size_alloc]
  have GG : Hid (∀ w1 : World, Below w.heap.size w w1 → Calls Try.prog 138 #[.agg #[.int .i64 c.1, .slice ga gn gc, .slice oa on oc]] w1 fun e w' => ∃ b, e = .returned (.pointer (some ⟨b, 0, none⟩)) ∧ Bld w' w1.heap.size w'.heap.size b 27 c ∧ Below w1.heap.size w1 w') := fun w1 hw => grown_any _ c hI0 hI1 hG hO w1 (h.below hw)
  have GL : Hid (∀ (lo hi bl : Nat) (w1 : World), Bld w1 lo hi bl 27 c → hi ≤ w1.heap.size → w.heap.size ≤ lo → Below w.heap.size w w1 → Calls Try.prog 82 #[.pointer (some ⟨bl, 0, none⟩), av, bv] w1 fun e w' => e = .returned (.int .i64 (onW (wiresN c) (wiresN c + 1) 3 2 a.length)) ∧ Bld w' lo hi bl 27 (eqC c a b) ∧ Below lo w1 w') := fun lo hi bl w1 hB hhi hlo hb' => iEq_any lo hi bl c.1 c.2.1 c.2.2 av bv a b (wiresN c) rfl hI0 hI1 hG hl h16 w1 hB hhi (fun w' hw => ha.1.below (hb'.trans (hw.mono hlo))) (fun w' hw => hb.1.below (hb'.trans (hw.mono hlo)))
  have HGO : Hid (∀ (u : Value) (w1 : World), AtCirc w1 u (eqC c a b) → Calls Try.prog 84 #[u] w1 fun e w' => e = .returned (.bool false) ∧ Below w1.heap.size w1 w') := fun u w1 h1 => by
    have g := iGood_any u _ w1 h1
    rw [hgD] at g
    exact g
  have hfit : Fit (eqC c a b).1 := h.1
  have hDs := eqC_sm hsd
  have hD2 : (eqC c a b).2.2.length ≤ 16 := hO
  rw [hav, hbv] at GL
  obtain ⟨DD, hDD⟩ : ∃ DD, (eqC c a b) = DD := ⟨_, rfl⟩
  rw [hDD] at GL HGO hfit hDs hD2
  obtain ⟨AN, hAN⟩ : ∃ AN : Int, onW (wiresN c) (wiresN c + 1) 3 2 a.length = AN := ⟨_, rfl⟩
  rw [hAN] at GL
  clear hAN
  clear hDD hgD
  subst hav hbv
  clear hgn h ha hb hsd hl h16
  generalize a.length = an at *
  generalize b.length = bn at *
  go_enter Try.func76, Try.ntmps76
  go_wp2_with fail
  refine g1.mono ?_
  rintro e w1 ⟨rfl, hs⟩
  have hb1 := Below.step hb0 hb0.size hs
  have y0 := x0.below hs (by omega)
  have y1 := x1.below hs (by omega)
  have hsz1 := hs.size
  rw [hsz] at hsz1
  clear g1 hs hb0 x0 x1 hsz
  obtain ⟨c0, c1, c2⟩ := y0.cells
  have ch := y0.heap
  have cl := y0.lt
  go_wp2_with fail
  refine (GG.out w1 hb1).mono ?_
  rintro e w4 ⟨bl, rfl, hB, hst⟩
  clear c0 c1 c2 ch cl
  have hlo : w.heap.size + 1 + 1 ≤ w1.heap.size := by omega
  have hblo := hB.1
  have hb' : Below w.heap.size w w4 := hb1.trans (hst.mono hb1.size)
  have hst' := hst.size
  have y0' := y0.below hst y0.lt
  have y1' := y1.below hst y1.lt
  clear hst hb1 y0 y1
  have hb1 := hb'
  clear hb'
  have y0 := y0'
  clear y0'
  have y1 := y1'
  clear y1'
  have hhi : w4.heap.size ≤ w4.heap.size := Nat.le_refl _
  go_wp2_with fail
  refine (GL.out w1.heap.size w4.heap.size bl w4 hB hhi (by omega) hb1).mono ?_
  rintro e w5 ⟨rfl, hB5, hs5⟩
  have hst : Below w.heap.size w w5 := hb1.trans (hs5.mono (by omega))
  have y1' := y1.below hs5 (by omega)
  have hs5' := hs5.size
  obtain ⟨gsl, osl, hx5, hat, hog5, hoo5, hob5⟩ := hB5.reads hfit hDs.1 (by omega) (by omega)
  clear hB hB5 y0 y1 hs5 GG GL hb1
  have hb1 := hst
  clear hst
  have y1 := y1'
  clear y1'
  obtain ⟨sga, sgc, hsg⟩ := own_shape hog5
  obtain ⟨soa, soc, hso⟩ := own_shape hoo5
  subst hsg hso
  have hblt := hx5.lt
  obtain ⟨c0, c1, c2⟩ := hx5.cells
  have ch := hx5.heap
  have cl := hx5.lt
  go_wp2_with fail
  refine (HGO.out _ w5 hat).mono ?_
  rintro e w6 ⟨rfl, hst⟩
  have hb' : Below w.heap.size w w6 := hb1.trans (hst.mono hb1.size)
  have y1' := y1.below hst y1.lt
  have hx6 := hx5.below hst hx5.lt
  have hog6 := owns_below hog5 hst
  have hoo6 := owns_below hoo5 hst
  have hst6 := hst.size
  clear hst hb1 y1 hx5 hog5 hoo5 hat HGO c0 c1 c2 ch cl
  have hb1 := hb'
  clear hb'
  have y1 := y1'
  clear y1'
  have y0 := True.intro
  clear y0
  obtain ⟨r0, r1, r2⟩ := y1.cells
  have rh := y1.heap
  have rl := y1.lt
  have rf0 := y1.frozen 0
  have rf1 := y1.frozen 1
  have rf2 := y1.frozen 2
  go_wp2_with fail
  have z1 := ((y1.set0 (.int .i64 0)).set1 (.slice none 0 0)).set2 (.slice none 0 0)
  have hbz := ((hb1.setCell (p := ⟨w.heap.size + 1, 0, none⟩) (Nat.le_succ _) (.int .i64 0)).setCell (p := ⟨w.heap.size + 1, 1, none⟩) (Nat.le_succ _) (.slice none 0 0)).setCell (p := ⟨w.heap.size + 1, 2, none⟩) (Nat.le_succ _) (.slice none 0 0)
  refine bodyPost_ret (results_c2 rfl _ _ (w.heap.size + 1) 27 _ (0, 0) _ rfl z1.heap Try.underlying27 rfl (by kernel_rfl)) rfl ?_
  exact ⟨_, rfl, ⟨_, _, rfl, rowIn_of (World.ownsRow_nil _ _ _ _), rowIn_of (World.ownsRow_nil _ _ _ _)⟩, hbz⟩
set_option maxRecDepth 100000 in
set_option maxHeartbeats 8000000 in
theorem iEqCmp_yes (v av bv : Value) (c : Ci) (a b : List Int) (hsd : sidesB c a b = true) (hgD : goodC (eqC c a b) = true) (w : World) (h : AtC w v c) (ha : AtIS w av a) (hb : AtIS w bv b) :
    Calls Try.prog 76 #[v, av, bv, .func (.func 82) #[] #[]] w fun e w' => ∃ r, e = .returned (.tuple #[r, .int .i64 (onW (wiresN c) (wiresN c + 1) 3 2 a.length), .bool true]) ∧ OwnCirc w' w.heap.size w'.heap.size r (eqC c a b) ∧ Below w.heap.size w w' := by
  obtain ⟨hgd, hl, h16, _, _⟩ := sides_parts hsd
  obtain ⟨hI0, hI1, hG, hO, _, _⟩ := goodC_ins hgd
  obtain ⟨ga, gn, gc, oa, on, oc, hv⟩ := h.at.shape
  have hgn : gn = c.2.1.length := by
    obtain ⟨_, g, o, hv', h1, _⟩ := h
    obtain ⟨a', cap, hg⟩ := h1.shape
    rw [hv] at hv'
    rw [hg] at hv'
    simp at hv'
    exact hv'.1.2.1
  subst hv
  obtain ⟨aa, ac, hav⟩ := ha.1.shape
  obtain ⟨ba, bc, hbv⟩ := hb.1.shape
  have hb0 : Below w.heap.size w ((w.alloc (.cells #[.int .i64 c.1, .slice ga gn gc, .slice oa on oc] 27)).alloc (.cells #[.int .i64 0, .slice none 0 0, .slice none 0 0] 27)) := below2 _ _ _
  have x0 := (box3_alloc w 27 (.int .i64 c.1) (.slice ga gn gc) (.slice oa on oc)).alloc (.cells #[.int .i64 0, .slice none 0 0, .slice none 0 0] 27)
  have x1 := box3_alloc (w.alloc (.cells #[.int .i64 c.1, .slice ga gn gc, .slice oa on oc] 27)) 27 (.int .i64 0) (.slice none 0 0) (.slice none 0 0)
  simp only [World.size_alloc] at x1
  have g1 := iSides_any _ _ _ c a b _ (h.below hb0).at (ha.1.below hb0) (hb.1.below hb0)
  rw [hsd] at g1
  have hsz : ((w.alloc (.cells #[.int .i64 c.1, .slice ga gn gc, .slice oa on oc] 27)).alloc (.cells #[.int .i64 0, .slice none 0 0, .slice none 0 0] 27)).heap.size = w.heap.size + 1 + 1 := by simp only [World.size_alloc]
  have GG : Hid (∀ w1 : World, Below w.heap.size w w1 → Calls Try.prog 138 #[.agg #[.int .i64 c.1, .slice ga gn gc, .slice oa on oc]] w1 fun e w' => ∃ b, e = .returned (.pointer (some ⟨b, 0, none⟩)) ∧ Bld w' w1.heap.size w'.heap.size b 27 c ∧ Below w1.heap.size w1 w') := fun w1 hw => grown_any _ c hI0 hI1 hG hO w1 (h.below hw)
  have GL : Hid (∀ (lo hi bl : Nat) (w1 : World), Bld w1 lo hi bl 27 c → hi ≤ w1.heap.size → w.heap.size ≤ lo → Below w.heap.size w w1 → Calls Try.prog 82 #[.pointer (some ⟨bl, 0, none⟩), av, bv] w1 fun e w' => e = .returned (.int .i64 (onW (wiresN c) (wiresN c + 1) 3 2 a.length)) ∧ Bld w' lo hi bl 27 (eqC c a b) ∧ Below lo w1 w') := fun lo hi bl w1 hB hhi hlo hb' => iEq_any lo hi bl c.1 c.2.1 c.2.2 av bv a b (wiresN c) rfl hI0 hI1 hG hl h16 w1 hB hhi (fun w' hw => ha.1.below (hb'.trans (hw.mono hlo))) (fun w' hw => hb.1.below (hb'.trans (hw.mono hlo)))
  have HGO : Hid (∀ (u : Value) (w1 : World), AtCirc w1 u (eqC c a b) → Calls Try.prog 84 #[u] w1 fun e w' => e = .returned (.bool true) ∧ Below w1.heap.size w1 w') := fun u w1 h1 => by
    have g := iGood_any u _ w1 h1
    rw [hgD] at g
    exact g
  have hfit : Fit (eqC c a b).1 := h.1
  have hDs := eqC_sm hsd
  have hD2 : (eqC c a b).2.2.length ≤ 16 := hO
  rw [hav, hbv] at GL
  obtain ⟨DD, hDD⟩ : ∃ DD, (eqC c a b) = DD := ⟨_, rfl⟩
  rw [hDD] at GL HGO hfit hDs hD2 ⊢
  obtain ⟨AN, hAN⟩ : ∃ AN : Int, onW (wiresN c) (wiresN c + 1) 3 2 a.length = AN := ⟨_, rfl⟩
  rw [hAN] at GL ⊢
  clear hAN
  clear hDD hgD
  subst hav hbv
  clear hgn h ha hb hsd hl h16
  generalize a.length = an at *
  generalize b.length = bn at *
  go_enter Try.func76, Try.ntmps76
  go_wp2_with fail
  refine g1.mono ?_
  rintro e w1 ⟨rfl, hs⟩
  have hb1 := Below.step hb0 hb0.size hs
  have y0 := x0.below hs (by omega)
  have y1 := x1.below hs (by omega)
  have hsz1 := hs.size
  rw [hsz] at hsz1
  clear g1 hs hb0 x0 x1 hsz
  obtain ⟨c0, c1, c2⟩ := y0.cells
  have ch := y0.heap
  have cl := y0.lt
  go_wp2_with fail
  refine (GG.out w1 hb1).mono ?_
  rintro e w4 ⟨bl, rfl, hB, hst⟩
  clear c0 c1 c2 ch cl
  have hlo : w.heap.size + 1 + 1 ≤ w1.heap.size := by omega
  have hblo := hB.1
  have hb' : Below w.heap.size w w4 := hb1.trans (hst.mono hb1.size)
  have hst' := hst.size
  have y0' := y0.below hst y0.lt
  have y1' := y1.below hst y1.lt
  clear hst hb1 y0 y1
  have hb1 := hb'
  clear hb'
  have y0 := y0'
  clear y0'
  have y1 := y1'
  clear y1'
  have hhi : w4.heap.size ≤ w4.heap.size := Nat.le_refl _
  go_wp2_with fail
  refine (GL.out w1.heap.size w4.heap.size bl w4 hB hhi (by omega) hb1).mono ?_
  rintro e w5 ⟨rfl, hB5, hs5⟩
  have hst : Below w.heap.size w w5 := hb1.trans (hs5.mono (by omega))
  have y1' := y1.below hs5 (by omega)
  have hs5' := hs5.size
  obtain ⟨gsl, osl, hx5, hat, hog5, hoo5, hob5⟩ := hB5.reads hfit hDs.1 (by omega) (by omega)
  clear hB hB5 y0 y1 hs5 GG GL hb1
  have hb1 := hst
  clear hst
  have y1 := y1'
  clear y1'
  obtain ⟨sga, sgc, hsg⟩ := own_shape hog5
  obtain ⟨soa, soc, hso⟩ := own_shape hoo5
  subst hsg hso
  have hblt := hx5.lt
  obtain ⟨c0, c1, c2⟩ := hx5.cells
  have ch := hx5.heap
  have cl := hx5.lt
  go_wp2_with fail
  refine (HGO.out _ w5 hat).mono ?_
  rintro e w6 ⟨rfl, hst⟩
  have hb' : Below w.heap.size w w6 := hb1.trans (hst.mono hb1.size)
  have y1' := y1.below hst y1.lt
  have hx6 := hx5.below hst hx5.lt
  have hog6 := owns_below hog5 hst
  have hoo6 := owns_below hoo5 hst
  have hst6 := hst.size
  clear hst hb1 y1 hx5 hog5 hoo5 hat HGO c0 c1 c2 ch cl
  have hb1 := hb'
  clear hb'
  have y1 := y1'
  clear y1'
  obtain ⟨c0, c1, c2⟩ := hx6.cells
  have ch := hx6.heap
  have cl := hx6.lt
  obtain ⟨r0, r1, r2⟩ := y1.cells
  have rh := y1.heap
  have rl := y1.lt
  have rf0 := y1.frozen 0
  have rf1 := y1.frozen 1
  have rf2 := y1.frozen 2
  have hgl : DD.2.1.length ≤ 500 := hDs.2
  have HZ : Hid _ := ((y1.set0 (.int .i64 DD.1)).set1 (.slice sga DD.2.1.length sgc)).set2 (.slice soa DD.2.2.length soc)
  have HBZ : Hid _ := ((hb1.setCell (p := ⟨w.heap.size + 1, 0, none⟩) (Nat.le_succ _) (.int .i64 DD.1)).setCell (p := ⟨w.heap.size + 1, 1, none⟩) (Nat.le_succ _) (.slice sga DD.2.1.length sgc)).setCell (p := ⟨w.heap.size + 1, 2, none⟩) (Nat.le_succ _) (.slice soa DD.2.2.length soc)
  have HGZ : Hid _ := own_set (b := w.heap.size + 1) (o := 2) (u := .slice soa DD.2.2.length soc) (own_set (b := w.heap.size + 1) (o := 1) (u := .slice sga DD.2.1.length sgc) (own_set (b := w.heap.size + 1) (o := 0) (u := .int .i64 DD.1) hog6 (by omega)) (by omega)) (by omega)
  have HOZ : Hid _ := own_set (b := w.heap.size + 1) (o := 2) (u := .slice soa DD.2.2.length soc) (own_set (b := w.heap.size + 1) (o := 1) (u := .slice sga DD.2.1.length sgc) (own_set (b := w.heap.size + 1) (o := 0) (u := .int .i64 DD.1) hoo6 (by omega)) (by omega)) (by omega)
  have hne : bl ≠ w.heap.size + 1 := by omega
  clear hx6 y1 hog6 hoo6 hb1 hob5
  generalize hdg : DD.2.1.length = dg at *
  generalize hdo : DD.2.2.length = dq at *
  go_wp2_with fail
  refine bodyPost_ret (results_c2 rfl _ _ (w.heap.size + 1) 27 _ (0, 0) _ rfl HZ.out.heap Try.underlying27 rfl (by kernel_rfl)) rfl ?_
  exact ⟨_, rfl, ⟨.slice sga dg sgc, .slice soa dq soc, rfl, by rw [hdg]; exact rowIn_of (own_base HGZ.out (by omega)), by rw [hdo]; exact rowIn_of (own_base HOZ.out (by omega))⟩, HBZ.out⟩
end Go.Proofs.Ytmjeaceabjinfaa

namespace Go.Proofs.Ytmjeaceabjinfaa
open Go Go.RowKit
open M
set_option linter.unusedVariables false
set_option linter.unusedSimpArgs false

theorem iLessCmp_any (v av bv : Value) (c : Ci) (a b : List Int) (w : World) (h : AtC w v c) (ha : AtIS w av a) (hb : AtIS w bv b) :
    Calls Try.prog 76 #[v, av, bv, .func (.func 77) #[] #[]] w fun e w' => ∃ r, e = .returned (.tuple #[r, .int .i64 (lessW c a b), .bool (lessB c a b)]) ∧ OwnCirc w' w.heap.size w'.heap.size r (lessR c a b) ∧ Below w.heap.size w w' := by
  unfold lessW lessR
  cases hsd : sidesB c a b with
  | false =>
    have e : lessB c a b = false := by unfold lessB; rw [hsd]; rfl
    rw [e]
    exact iLessCmp_bad v av bv c a b hsd w h ha hb
  | true =>
    cases hgD : goodC (lessC c a b) with
    | false =>
      have e : lessB c a b = false := by unfold lessB; rw [hsd, hgD]; rfl
      rw [e]
      exact iLessCmp_no v av bv c a b hsd hgD w h ha hb
    | true =>
      have e : lessB c a b = true := by unfold lessB; rw [hsd, hgD]; rfl
      rw [e]
      exact iLessCmp_yes v av bv c a b hsd hgD w h ha hb
set_option maxRecDepth 100000 in
set_option maxHeartbeats 4000000 in
theorem iLessGates_any (v av bv : Value) (c : Ci) (a b : List Int) (w : World) (h : AtC w v c) (ha : AtIS w av a) (hb : AtIS w bv b) :
    Calls Try.prog 18 #[v, av, bv] w fun e w' => ∃ r, e = .returned (.tuple #[r, .int .i64 (lessW c a b), .bool (lessB c a b)]) ∧ OwnCirc w' w.heap.size w'.heap.size r (lessR c a b) ∧ Below w.heap.size w w' := by
  obtain ⟨ga, gn, gc, oa, on, oc, hv⟩ := h.at.shape
  subst hv
  have hb0 : Below w.heap.size w ((w.alloc (.cells #[.int .i64 c.1, .slice ga gn gc, .slice oa on oc] 27)).alloc (.cells #[.int .i64 0, .slice none 0 0, .slice none 0 0] 27)) := below2 _ _ _
  have x1 := box3_alloc (w.alloc (.cells #[.int .i64 c.1, .slice ga gn gc, .slice oa on oc] 27)) 27 (.int .i64 0) (.slice none 0 0) (.slice none 0 0)
  simp only [World.size_alloc] at x1
  have g1 := iLessCmp_any _ _ _ c a b _ (h.below hb0) (ha.below hb0) (hb.below hb0)
  have hsz : ((w.alloc (.cells #[.int .i64 c.1, .slice ga gn gc, .slice oa on oc] 27)).alloc (.cells #[.int .i64 0, .slice none 0 0, .slice none 0 0] 27)).heap.size = w.heap.size + 1 + 1 := by simp only [World.size_alloc]
  obtain ⟨aa, ac, hav⟩ := ha.1.shape
  obtain ⟨ba, bc, hbv⟩ := hb.1.shape
  rw [hav, hbv] at g1
  rw [hav, hbv]
  clear h ha hb hav hbv
  generalize a.length = an at *
  generalize b.length = bn at *
  generalize lessW c a b = AN at *
  generalize lessB c a b = AB at *
  generalize lessR c a b = AR at *
  go_enter Try.func18, Try.ntmps18
  go_wp2_with fail
  refine g1.mono ?_
  rintro e w1 ⟨r, rfl, ho, hs⟩
  have hb1 : Below w.heap.size w w1 := hb0.trans (hs.mono (by omega))
  have y1 := x1.below hs (by omega)
  have hs1 := hs.size
  obtain ⟨gsl, osl, hr, hrg, hro⟩ := ho
  obtain ⟨sga, sgc, hsg⟩ := own_shape hrg.1
  obtain ⟨soa, soc, hso⟩ := own_shape hro.1
  subst hsg hso hr
  obtain ⟨c0, c1, c2⟩ := y1.cells
  have f0 := y1.frozen 0
  have f1 := y1.frozen 1
  have f2 := y1.frozen 2
  have hh := y1.heap
  have hlt1 := y1.lt
  have hlo : w.heap.size + 1 < ((w.alloc (.cells #[.int .i64 c.1, .slice ga gn gc, .slice oa on oc] 27)).alloc (.cells #[.int .i64 0, .slice none 0 0, .slice none 0 0] 27)).heap.size := by omega
  have HZ : Hid _ := ((y1.set0 (.int .i64 AR.1)).set1 (.slice sga AR.2.1.length sgc)).set2 (.slice soa AR.2.2.length soc)
  have HBZ : Hid _ := ((hb1.setCell (p := ⟨w.heap.size + 1, 0, none⟩) (Nat.le_succ _) (.int .i64 AR.1)).setCell (p := ⟨w.heap.size + 1, 1, none⟩) (Nat.le_succ _) (.slice sga AR.2.1.length sgc)).setCell (p := ⟨w.heap.size + 1, 2, none⟩) (Nat.le_succ _) (.slice soa AR.2.2.length soc)
  have HGZ : Hid _ := own_set (b := w.heap.size + 1) (o := 2) (u := .slice soa AR.2.2.length soc) (own_set (b := w.heap.size + 1) (o := 1) (u := .slice sga AR.2.1.length sgc) (own_set (b := w.heap.size + 1) (o := 0) (u := .int .i64 AR.1) hrg.1 hlo) hlo) hlo
  have HOZ : Hid _ := own_set (b := w.heap.size + 1) (o := 2) (u := .slice soa AR.2.2.length soc) (own_set (b := w.heap.size + 1) (o := 1) (u := .slice sga AR.2.1.length sgc) (own_set (b := w.heap.size + 1) (o := 0) (u := .int .i64 AR.1) hro.1 hlo) hlo) hlo
  have hwl : w.heap.size ≤ ((w.alloc (.cells #[.int .i64 c.1, .slice ga gn gc, .slice oa on oc] 27)).alloc (.cells #[.int .i64 0, .slice none 0 0, .slice none 0 0] 27)).heap.size := by omega
  clear g1 hs hrg hro y1 x1 hb0 hb1
  generalize hdg : AR.2.1.length = dg at *
  generalize hdo : AR.2.2.length = dq at *
  go_wp2_with fail
  refine bodyPost_ret (results_c2 rfl _ _ (w.heap.size + 1) 27 _ (0, 0) _ rfl HZ.out.heap Try.underlying27 rfl (by kernel_rfl)) rfl ?_
  exact ⟨_, rfl, ⟨.slice sga dg sgc, .slice soa dq soc, rfl, by rw [hdg]; exact rowIn_of (own_base HGZ.out hwl), by rw [hdo]; exact rowIn_of (own_base HOZ.out hwl)⟩, HBZ.out⟩
theorem iEqCmp_any (v av bv : Value) (c : Ci) (a b : List Int) (w : World) (h : AtC w v c) (ha : AtIS w av a) (hb : AtIS w bv b) :
    Calls Try.prog 76 #[v, av, bv, .func (.func 82) #[] #[]] w fun e w' => ∃ r, e = .returned (.tuple #[r, .int .i64 (eqW c a b), .bool (eqB c a b)]) ∧ OwnCirc w' w.heap.size w'.heap.size r (eqR c a b) ∧ Below w.heap.size w w' := by
  unfold eqW eqR
  cases hsd : sidesB c a b with
  | false =>
    have e : eqB c a b = false := by unfold eqB; rw [hsd]; rfl
    rw [e]
    exact iEqCmp_bad v av bv c a b hsd w h ha hb
  | true =>
    cases hgD : goodC (eqC c a b) with
    | false =>
      have e : eqB c a b = false := by unfold eqB; rw [hsd, hgD]; rfl
      rw [e]
      exact iEqCmp_no v av bv c a b hsd hgD w h ha hb
    | true =>
      have e : eqB c a b = true := by unfold eqB; rw [hsd, hgD]; rfl
      rw [e]
      exact iEqCmp_yes v av bv c a b hsd hgD w h ha hb
set_option maxRecDepth 100000 in
set_option maxHeartbeats 4000000 in
theorem iEqGates_any (v av bv : Value) (c : Ci) (a b : List Int) (w : World) (h : AtC w v c) (ha : AtIS w av a) (hb : AtIS w bv b) :
    Calls Try.prog 21 #[v, av, bv] w fun e w' => ∃ r, e = .returned (.tuple #[r, .int .i64 (eqW c a b), .bool (eqB c a b)]) ∧ OwnCirc w' w.heap.size w'.heap.size r (eqR c a b) ∧ Below w.heap.size w w' := by
  obtain ⟨ga, gn, gc, oa, on, oc, hv⟩ := h.at.shape
  subst hv
  have hb0 : Below w.heap.size w ((w.alloc (.cells #[.int .i64 c.1, .slice ga gn gc, .slice oa on oc] 27)).alloc (.cells #[.int .i64 0, .slice none 0 0, .slice none 0 0] 27)) := below2 _ _ _
  have x1 := box3_alloc (w.alloc (.cells #[.int .i64 c.1, .slice ga gn gc, .slice oa on oc] 27)) 27 (.int .i64 0) (.slice none 0 0) (.slice none 0 0)
  simp only [World.size_alloc] at x1
  have g1 := iEqCmp_any _ _ _ c a b _ (h.below hb0) (ha.below hb0) (hb.below hb0)
  have hsz : ((w.alloc (.cells #[.int .i64 c.1, .slice ga gn gc, .slice oa on oc] 27)).alloc (.cells #[.int .i64 0, .slice none 0 0, .slice none 0 0] 27)).heap.size = w.heap.size + 1 + 1 := by simp only [World.size_alloc]
  obtain ⟨aa, ac, hav⟩ := ha.1.shape
  obtain ⟨ba, bc, hbv⟩ := hb.1.shape
  rw [hav, hbv] at g1
  rw [hav, hbv]
  clear h ha hb hav hbv
  generalize a.length = an at *
  generalize b.length = bn at *
  generalize eqW c a b = AN at *
  generalize eqB c a b = AB at *
  generalize eqR c a b = AR at *
  go_enter Try.func21, Try.ntmps21
  go_wp2_with fail
  refine g1.mono ?_
  rintro e w1 ⟨r, rfl, ho, hs⟩
  have hb1 : Below w.heap.size w w1 := hb0.trans (hs.mono (by omega))
  have y1 := x1.below hs (by omega)
  have hs1 := hs.size
  obtain ⟨gsl, osl, hr, hrg, hro⟩ := ho
  obtain ⟨sga, sgc, hsg⟩ := own_shape hrg.1
  obtain ⟨soa, soc, hso⟩ := own_shape hro.1
  subst hsg hso hr
  obtain ⟨c0, c1, c2⟩ := y1.cells
  have f0 := y1.frozen 0
  have f1 := y1.frozen 1
  have f2 := y1.frozen 2
  have hh := y1.heap
  have hlt1 := y1.lt
  have hlo : w.heap.size + 1 < ((w.alloc (.cells #[.int .i64 c.1, .slice ga gn gc, .slice oa on oc] 27)).alloc (.cells #[.int .i64 0, .slice none 0 0, .slice none 0 0] 27)).heap.size := by omega
  have HZ : Hid _ := ((y1.set0 (.int .i64 AR.1)).set1 (.slice sga AR.2.1.length sgc)).set2 (.slice soa AR.2.2.length soc)
  have HBZ : Hid _ := ((hb1.setCell (p := ⟨w.heap.size + 1, 0, none⟩) (Nat.le_succ _) (.int .i64 AR.1)).setCell (p := ⟨w.heap.size + 1, 1, none⟩) (Nat.le_succ _) (.slice sga AR.2.1.length sgc)).setCell (p := ⟨w.heap.size + 1, 2, none⟩) (Nat.le_succ _) (.slice soa AR.2.2.length soc)
  have HGZ : Hid _ := own_set (b := w.heap.size + 1) (o := 2) (u := .slice soa AR.2.2.length soc) (own_set (b := w.heap.size + 1) (o := 1) (u := .slice sga AR.2.1.length sgc) (own_set (b := w.heap.size + 1) (o := 0) (u := .int .i64 AR.1) hrg.1 hlo) hlo) hlo
  have HOZ : Hid _ := own_set (b := w.heap.size + 1) (o := 2) (u := .slice soa AR.2.2.length soc) (own_set (b := w.heap.size + 1) (o := 1) (u := .slice sga AR.2.1.length sgc) (own_set (b := w.heap.size + 1) (o := 0) (u := .int .i64 AR.1) hro.1 hlo) hlo) hlo
  have hwl : w.heap.size ≤ ((w.alloc (.cells #[.int .i64 c.1, .slice ga gn gc, .slice oa on oc] 27)).alloc (.cells #[.int .i64 0, .slice none 0 0, .slice none 0 0] 27)).heap.size := by omega
  clear g1 hs hrg hro y1 x1 hb0 hb1
  generalize hdg : AR.2.1.length = dg at *
  generalize hdo : AR.2.2.length = dq at *
  go_wp2_with fail
  refine bodyPost_ret (results_c2 rfl _ _ (w.heap.size + 1) 27 _ (0, 0) _ rfl HZ.out.heap Try.underlying27 rfl (by kernel_rfl)) rfl ?_
  exact ⟨_, rfl, ⟨.slice sga dg sgc, .slice soa dq soc, rfl, by rw [hdg]; exact rowIn_of (own_base HGZ.out hwl), by rw [hdo]; exact rowIn_of (own_base HOZ.out hwl)⟩, HBZ.out⟩
end Go.Proofs.Ytmjeaceabjinfaa

namespace Go.Proofs.Ytmjeaceabjinfaa
open Go Go.RowKit
open M
set_option linter.unusedVariables false
set_option linter.unusedSimpArgs false

theorem bools_read {w : World} {v : Value} {t : List Bool} (h : BoolsAt w v t) {i : Int} (h0 : 0 ≤ i) (h1 : i < t.length) : ∃ g o : Nat, v = .slice (some ⟨g, o, none⟩) t.length (match v with | .slice _ _ c => c | _ => 0) ∧ g < w.heap.size ∧ w.cell? ⟨g, o + i.toNat, none⟩ = some (.bool (at' t i)) := by
  obtain ⟨a, cap, rfl, hc⟩ := h.opened
  have hi : t[i.toNat]? = some (at' t i) := by
    unfold at'
    rw [List.getD_eq_getElem?_getD, List.getElem?_eq_getElem (by omega)]
    rfl
  obtain ⟨b, off, rfl, hb, c0⟩ := hc _ _ hi
  exact ⟨b, off, rfl, hb, c0⟩
set_option maxRecDepth 100000 in
theorem compared_big (a0 a1 : Option Addr) (l0 c0 l1 c1 : Nat) (h0 : l0 ≤ 9223372036854775807) (h1 : l1 ≤ 9223372036854775807) (h : 1048576 < l0 + l1) (w : World) :
    Calls Try.prog 3 #[.slice a0 l0 c0, .slice a1 l1 c1] w fun e w' => e = .returned (.bool true) ∧ Below w.heap.size w w' := by
  have g0 := big_yes a0 a1 l0 c0 l1 c1 h0 h1 h w
  go_enter Try.func3, Try.ntmps3
  go_wp2_with fail
  refine g0.mono ?_
  rintro e w' ⟨rfl, rfl⟩
  clear g0
  go_wp2_with fail
  go_ret
  exact ⟨rfl, Below.refl _ _⟩
set_option maxRecDepth 100000 in
set_option maxHeartbeats 16000000 in
theorem compared_walk (a0 a1 : Option Addr) (l0 c0 l1 c1 : Nat) (h0 : l0 ≤ 9223372036854775807) (h1 : l1 ≤ 9223372036854775807) (w : World) (hc0 : CodeOk w.heap.size w (.slice a0 l0 c0)) (hc1 : CodeOk w.heap.size w (.slice a1 l1 c1)) :
    Calls Try.prog 3 #[.slice a0 l0 c0, .slice a1 l1 c1] w fun e w' => e = .returned (.bool true) ∧ Below w.heap.size w w' := by
  by_cases h : 1048576 < l0 + l1
  · exact compared_big a0 a1 l0 c0 l1 c1 h0 h1 h w
  obtain ⟨i0, hif, hz0, hz1, hz2⟩ := info_parts infoBool
  have g0 := big_no a0 a1 l0 c0 l1 c1 h0 h1 (by omega) w
  have g1 := drawLessGates_any a0 l0 c0 w hc0
  have HC1 : Hid (∀ w', Below w.heap.size w w' → CodeOk w'.heap.size w' (.slice a1 l1 c1)) := fun w' hb => (hc1.below hb).up hb.size
  clear hc0 hc1 h
  go_enter Try.func3, Try.ntmps3
  go_wp2_with fail
  refine g0.mono ?_
  rintro e w' ⟨rfl, rfl⟩
  clear g0
  obtain ⟨w, rfl⟩ : ∃ w, w = w' := ⟨_, rfl⟩
  go_wp2_with fail
  refine g1.mono ?_
  rintro e w1 ⟨cv_, av, bv, c, a, b, rfl, hC, hA, hB, hok, hla, hlb, hw1⟩
  clear g1
  have HC : Hid (∀ w' : World, Below w1.heap.size w1 w' → AtC w' cv_ c) := fun w' hb => hC.below hb
  have HA : Hid (∀ w' : World, Below w1.heap.size w1 w' → AtIS w' av a) := fun w' hb => hA.below hb
  have HB : Hid (∀ w' : World, Below w1.heap.size w1 w' → AtIS w' bv b) := fun w' hb => hB.below hb
  obtain ⟨cga, cgn, cgc, coa, con, coc, hcs⟩ := hC.at.shape
  have hcgn : (cgn : Int) = c.2.1.length ∧ cgn ≤ 1048576 := by
    obtain ⟨_, g, o, hv, hg, _⟩ := hC.at
    obtain ⟨ga2, gc2, e2⟩ := hg.shape
    rw [hcs] at hv
    simp only [Value.agg.injEq, Array.mk.injEq, List.cons.injEq] at hv
    obtain ⟨_, e3, _⟩ := hv
    rw [← e3] at e2
    injection e2 with _ e4 _
    have := hok.2.2.1
    omega
  obtain ⟨aa, ac, has⟩ := hA.1.shape
  obtain ⟨ba, bc, hbs⟩ := hB.1.shape
  subst hcs has hbs
  clear hC hA hB
  have HMATH : Hid (lessB c a b = true → eqB (lessR c a b) a b = true → 0 ≤ c.1 ∧ c.1 ≤ 16 ∧ a.length ≤ 16 ∧ a.length = b.length ∧ (eqR (lessR c a b) a b).1 = c.1 ∧ goodC (eqR (lessR c a b) a b) = true ∧
      ∀ l : List Bool, (l.length : Int) = c.1 → wiresB (eqR (lessR c a b) a b) l = true ∧
        ((wiresL (eqR (lessR c a b) a b) l).length : Int) = c.2.1.length + c.1 + 2 + 9 * a.length ∧ c.2.1.length ≤ 300 ∧
        (∀ x ∈ a, 0 ≤ x ∧ x < (wiresL (eqR (lessR c a b) a b) l).length) ∧ (∀ x ∈ b, 0 ≤ x ∧ x < (wiresL (eqR (lessR c a b) a b) l).length) ∧
        (0 ≤ lessW c a b ∧ lessW c a b < (wiresL (eqR (lessR c a b) a b) l).length) ∧ (0 ≤ eqW (lessR c a b) a b ∧ eqW (lessR c a b) a b < (wiresL (eqR (lessR c a b) a b) l).length) ∧
        at' (wiresL (eqR (lessR c a b) a b) l) (lessW c a b) = decide (carryN (wiresL (eqR (lessR c a b) a b) l) a < carryN (wiresL (eqR (lessR c a b) a b) l) b) ∧
        at' (wiresL (eqR (lessR c a b) a b) l) (eqW (lessR c a b) a b) = decide (carryN (wiresL (eqR (lessR c a b) a b) l) a = carryN (wiresL (eqR (lessR c a b) a b) l) b)) := less_math
  have HXOK : Hid (CiOk (lessR c a b)) := lessR_ok c a b hok
  have HYOK : Hid (CiOk (eqR (lessR c a b) a b)) := eqR_ok (lessR c a b) a b HXOK.out
  have GI : Hid (∀ w' : World, Below w1.heap.size w1 w' → Calls Try.prog 18 #[(.agg #[.int .i64 c.1, .slice cga cgn cgc, .slice coa con coc]), .slice aa a.length ac, .slice ba b.length bc] w' fun e w'' => ∃ r0, e = .returned (.tuple #[r0, .int .i64 (lessW c a b), .bool (lessB c a b)]) ∧ OwnCirc w'' w'.heap.size w''.heap.size r0 (lessR c a b) ∧ Below w'.heap.size w' w'') := fun w' hb => iLessGates_any _ _ _ c a b w' (HC.out w' hb) (HA.out w' hb) (HB.out w' hb)
  have GS : Hid (∀ w' : World, Below w1.heap.size w1 w' → Calls Try.prog 19 #[(.agg #[.int .i64 c.1, .slice cga cgn cgc, .slice coa con coc]), .slice aa a.length ac, .slice ba b.length bc] w' fun e w'' => ∃ r0, e = .returned (.tuple #[r0, .int .i64 (lessW c a b), .bool (lessB c a b)]) ∧ OwnCirc w'' w'.heap.size w''.heap.size r0 (lessR c a b) ∧ Below w'.heap.size w' w'') := fun w' hb => sLessGates_any _ _ _ c a b w' (HC.out w' hb) (HA.out w' hb) (HB.out w' hb)
  have GEI : Hid (∀ (w' : World) (xv : Value), Below w1.heap.size w1 w' → AtC w' xv (lessR c a b) → Calls Try.prog 21 #[xv, .slice aa a.length ac, .slice ba b.length bc] w' fun e w'' => ∃ r0, e = .returned (.tuple #[r0, .int .i64 (eqW (lessR c a b) a b), .bool (eqB (lessR c a b) a b)]) ∧ OwnCirc w'' w'.heap.size w''.heap.size r0 (eqR (lessR c a b) a b) ∧ Below w'.heap.size w' w'') := fun w' xv hb hx => iEqGates_any _ _ _ (lessR c a b) a b w' hx (HA.out w' hb) (HB.out w' hb)
  have GES : Hid (∀ (w' : World) (xv : Value), Below w1.heap.size w1 w' → AtC w' xv (lessR c a b) → Calls Try.prog 22 #[xv, .slice aa a.length ac, .slice ba b.length bc] w' fun e w'' => ∃ r0, e = .returned (.tuple #[r0, .int .i64 (eqW (lessR c a b) a b), .bool (eqB (lessR c a b) a b)]) ∧ OwnCirc w'' w'.heap.size w''.heap.size r0 (eqR (lessR c a b) a b) ∧ Below w'.heap.size w' w'') := fun w' xv hb hx => sEqGates_any _ _ _ (lessR c a b) a b w' hx (HA.out w' hb) (HB.out w' hb)
  obtain ⟨OK, hOK⟩ : ∃ OK, lessB c a b = OK := ⟨_, rfl⟩
  obtain ⟨X, hX⟩ : ∃ X, lessR c a b = X := ⟨_, rfl⟩
  obtain ⟨LW, hLW⟩ : ∃ LW, lessW c a b = LW := ⟨_, rfl⟩
  rw [hX] at HXOK HYOK
  rw [hOK, hX, hLW] at HMATH GI GS
  rw [hX] at GEI GES
  obtain ⟨ONE, hONE⟩ : ∃ ONE, eqB X a b = ONE := ⟨_, rfl⟩
  obtain ⟨Y, hY⟩ : ∃ Y, eqR X a b = Y := ⟨_, rfl⟩
  obtain ⟨EW, hEW⟩ : ∃ EW, eqW X a b = EW := ⟨_, rfl⟩
  rw [hY] at HYOK
  rw [hONE, hY, hEW] at HMATH GEI GES
  clear hOK hX hLW hONE hY hEW hok
  generalize han : a.length = an at *
  generalize hbn : b.length = bn at *
  have HAN : Hid (a.length = an) := han
  have HBN : Hid (b.length = bn) := hbn
  obtain ⟨hcg0, hcg1⟩ := hcgn
  rw [← hcg0] at HMATH
  have HCG : Hid ((cgn : Int) = c.2.1.length) := hcg0
  clear han hbn hcg0
  have hb1 := Below.refl w1.heap.size w1
  have hal := (Below.refl w1.heap.size w1).alloc (Nat.le_refl _) (.cells #[.int .i64 c.1, .slice cga cgn cgc, .slice coa con coc] 27)
  have hx_1 := box3_alloc w1 27 (.int .i64 c.1) (.slice cga cgn cgc) (.slice coa con coc)
  have hsz_w2 := hal.size
  have hb_2 := hb1.trans (hal.mono hb1.size)
  clear hb1
  have hb_3 := hw1.trans (hal.mono hw1.size)
  clear hw1
  go_wp2_with fail
  generalize w1.alloc (.cells #[.int .i64 c.1, .slice cga cgn cgc, .slice coa con coc] 27) = w2 at *
  clear hal
  refine (GI.out _ hb_2).mono ?_
  rintro e w3 ⟨x, rfl, ho, hst⟩
  have hb_4 := Below.step hb_2 hb_2.size hst
  clear hb_2
  have hb_5 := Below.step hb_3 hb_3.size hst
  clear hb_3
  have hx_6 := hx_1.below hst hx_1.lt
  clear hx_1
  clear hst
  have ha_7 := ho.hands HXOK.out
  obtain ⟨xga, xgn, xgc, xoa, xon, xoc, rfl⟩ := ho.shape
  clear ho
  clear GI
  have hal := (Below.refl w3.heap.size w3).alloc (Nat.le_refl _) (.cells #[.int .i64 X.1, .slice xga xgn xgc, .slice xoa xon xoc] 27)
  have hx_8 := box3_alloc w3 27 (.int .i64 X.1) (.slice xga xgn xgc) (.slice xoa xon xoc)
  have hsz_w4 := hal.size
  have hb_9 := hb_4.trans (hal.mono hb_4.size)
  clear hb_4
  have hb_10 := hb_5.trans (hal.mono hb_5.size)
  clear hb_5
  have hx_11 := hx_6.alloc (.cells #[.int .i64 X.1, .slice xga xgn xgc, .slice xoa xon xoc] 27)
  clear hx_6
  have ha_12 := ha_7.below hal
  clear ha_7
  obtain ⟨cc0, cc1, cc2⟩ := hx_11.cells
  have cch := hx_11.heap
  have ccl := hx_11.lt
  go_wp2_with fail
  generalize w3.alloc (.cells #[.int .i64 X.1, .slice xga xgn xgc, .slice xoa xon xoc] 27) = w4 at *
  clear hal
  clear cc0 cc1 cc2 cch ccl
  refine (GS.out _ hb_9).mono ?_
  rintro e w5 ⟨x2, rfl, ho, hst⟩
  have hb_13 := Below.step hb_9 hb_9.size hst
  clear hb_9
  have hb_14 := Below.step hb_10 hb_10.size hst
  clear hb_10
  have hx_15 := hx_11.below hst hx_11.lt
  clear hx_11
  have hx_16 := hx_8.below hst hx_8.lt
  clear hx_8
  have ha_17 := ha_12.below hst
  clear ha_12
  clear hst
  have ha_18 := ho.hands HXOK.out
  obtain ⟨uga, ugn, ugc, uoa, uon, uoc, rfl⟩ := ho.shape
  clear ho
  clear GS
  have hal := (Below.refl w5.heap.size w5).alloc (Nat.le_refl _) (.cells #[.int .i64 X.1, .slice uga ugn ugc, .slice uoa uon uoc] 27)
  have hx_19 := box3_alloc w5 27 (.int .i64 X.1) (.slice uga ugn ugc) (.slice uoa uon uoc)
  have hsz_w6 := hal.size
  have hb_20 := hb_13.trans (hal.mono hb_13.size)
  clear hb_13
  have hb_21 := hb_14.trans (hal.mono hb_14.size)
  clear hb_14
  have hx_22 := hx_15.alloc (.cells #[.int .i64 X.1, .slice uga ugn ugc, .slice uoa uon uoc] 27)
  clear hx_15
  have hx_23 := hx_16.alloc (.cells #[.int .i64 X.1, .slice uga ugn ugc, .slice uoa uon uoc] 27)
  clear hx_16
  have ha_24 := ha_17.below hal
  clear ha_17
  have ha_25 := ha_18.below hal
  clear ha_18
  obtain ⟨cc0, cc1, cc2⟩ := hx_22.cells
  have cch := hx_22.heap
  have ccl := hx_22.lt
  obtain ⟨xc0, xc1, xc2⟩ := hx_23.cells
  have xch := hx_23.heap
  have xcl := hx_23.lt
  go_wp2_with fail
  generalize w5.alloc (.cells #[.int .i64 X.1, .slice uga ugn ugc, .slice uoa uon uoc] 27) = w6 at *
  clear hal
  clear cc0 cc1 cc2 cch ccl xc0 xc1 xc2 xch xcl
  have GSC : Hid (Calls Try.prog 20 #[(.agg #[.int .i64 X.1, .slice xga xgn xgc, .slice xoa xon xoc]), (.agg #[.int .i64 X.1, .slice uga ugn ugc, .slice uoa uon uoc])] w6 fun e w'' => e = .returned (.bool true) ∧ Below w6.heap.size w6 w'') := sameCircuit_same _ _ X w6 (ha_24).at (ha_25).at
  obtain ⟨cc0, cc1, cc2⟩ := hx_22.cells
  have cch := hx_22.heap
  have ccl := hx_22.lt
  obtain ⟨xc0, xc1, xc2⟩ := hx_23.cells
  have xch := hx_23.heap
  have xcl := hx_23.lt
  obtain ⟨uc0, uc1, uc2⟩ := hx_19.cells
  have uch := hx_19.heap
  have ucl := hx_19.lt
  go_wp2_with fail
  clear cc0 cc1 cc2 cch ccl xc0 xc1 xc2 xch xcl uc0 uc1 uc2 uch ucl
  refine GSC.out.mono ?_
  rintro e w7 ⟨rfl, hst⟩
  have hb_26 := Below.step hb_20 hb_20.size hst
  clear hb_20
  have hb_27 := Below.step hb_21 hb_21.size hst
  clear hb_21
  have hx_28 := hx_22.below hst hx_22.lt
  clear hx_22
  have hx_29 := hx_23.below hst hx_23.lt
  clear hx_23
  have hx_30 := hx_19.below hst hx_19.lt
  clear hx_19
  have ha_31 := ha_24.below hst
  clear ha_24
  have ha_32 := ha_25.below hst
  clear ha_25
  clear hst
  clear GSC
  clear ha_32
  clear hx_30
  obtain ⟨cc0, cc1, cc2⟩ := hx_28.cells
  have cch := hx_28.heap
  have ccl := hx_28.lt
  obtain ⟨xc0, xc1, xc2⟩ := hx_29.cells
  have xch := hx_29.heap
  have xcl := hx_29.lt
  go_wp2_with fail
  clear cc0 cc1 cc2 cch ccl xc0 xc1 xc2 xch xcl
  refine (GEI.out _ _ hb_26 ha_31).mono ?_
  rintro e w8 ⟨y, rfl, ho, hst⟩
  have hb_33 := Below.step hb_26 hb_26.size hst
  clear hb_26
  have hb_34 := Below.step hb_27 hb_27.size hst
  clear hb_27
  have hx_35 := hx_28.below hst hx_28.lt
  clear hx_28
  have hx_36 := hx_29.below hst hx_29.lt
  clear hx_29
  have ha_37 := ha_31.below hst
  clear ha_31
  clear hst
  have ha_38 := ho.hands HYOK.out
  obtain ⟨yga, ygn, ygc, yoa, yon, yoc, rfl⟩ := ho.shape
  clear ho
  clear GEI
  have hal := (Below.refl w8.heap.size w8).alloc (Nat.le_refl _) (.cells #[.int .i64 Y.1, .slice yga ygn ygc, .slice yoa yon yoc] 27)
  have hx_39 := box3_alloc w8 27 (.int .i64 Y.1) (.slice yga ygn ygc) (.slice yoa yon yoc)
  have hsz_w9 := hal.size
  have hb_40 := hb_33.trans (hal.mono hb_33.size)
  clear hb_33
  have hb_41 := hb_34.trans (hal.mono hb_34.size)
  clear hb_34
  have hx_42 := hx_35.alloc (.cells #[.int .i64 Y.1, .slice yga ygn ygc, .slice yoa yon yoc] 27)
  clear hx_35
  have hx_43 := hx_36.alloc (.cells #[.int .i64 Y.1, .slice yga ygn ygc, .slice yoa yon yoc] 27)
  clear hx_36
  have ha_44 := ha_37.below hal
  clear ha_37
  have ha_45 := ha_38.below hal
  clear ha_38
  obtain ⟨cc0, cc1, cc2⟩ := hx_42.cells
  have cch := hx_42.heap
  have ccl := hx_42.lt
  obtain ⟨xc0, xc1, xc2⟩ := hx_43.cells
  have xch := hx_43.heap
  have xcl := hx_43.lt
  go_wp2_with fail
  generalize w8.alloc (.cells #[.int .i64 Y.1, .slice yga ygn ygc, .slice yoa yon yoc] 27) = w9 at *
  clear hal
  clear cc0 cc1 cc2 cch ccl xc0 xc1 xc2 xch xcl
  refine (GES.out _ _ hb_40 ha_44).mono ?_
  rintro e w10 ⟨y2, rfl, ho, hst⟩
  have hb_46 := Below.step hb_40 hb_40.size hst
  clear hb_40
  have hb_47 := Below.step hb_41 hb_41.size hst
  clear hb_41
  have hx_48 := hx_42.below hst hx_42.lt
  clear hx_42
  have hx_49 := hx_43.below hst hx_43.lt
  clear hx_43
  have hx_50 := hx_39.below hst hx_39.lt
  clear hx_39
  have ha_51 := ha_44.below hst
  clear ha_44
  have ha_52 := ha_45.below hst
  clear ha_45
  clear hst
  have ha_53 := ho.hands HYOK.out
  obtain ⟨vga, vgn, vgc, voa, von, voc, rfl⟩ := ho.shape
  clear ho
  clear GES
  have hal := (Below.refl w10.heap.size w10).alloc (Nat.le_refl _) (.cells #[.int .i64 Y.1, .slice vga vgn vgc, .slice voa von voc] 27)
  have hx_54 := box3_alloc w10 27 (.int .i64 Y.1) (.slice vga vgn vgc) (.slice voa von voc)
  have hsz_w11 := hal.size
  have hb_55 := hb_46.trans (hal.mono hb_46.size)
  clear hb_46
  have hb_56 := hb_47.trans (hal.mono hb_47.size)
  clear hb_47
  have hx_57 := hx_48.alloc (.cells #[.int .i64 Y.1, .slice vga vgn vgc, .slice voa von voc] 27)
  clear hx_48
  have hx_58 := hx_49.alloc (.cells #[.int .i64 Y.1, .slice vga vgn vgc, .slice voa von voc] 27)
  clear hx_49
  have hx_59 := hx_50.alloc (.cells #[.int .i64 Y.1, .slice vga vgn vgc, .slice voa von voc] 27)
  clear hx_50
  have ha_60 := ha_51.below hal
  clear ha_51
  have ha_61 := ha_52.below hal
  clear ha_52
  have ha_62 := ha_53.below hal
  clear ha_53
  obtain ⟨cc0, cc1, cc2⟩ := hx_57.cells
  have cch := hx_57.heap
  have ccl := hx_57.lt
  obtain ⟨xc0, xc1, xc2⟩ := hx_58.cells
  have xch := hx_58.heap
  have xcl := hx_58.lt
  obtain ⟨yc0, yc1, yc2⟩ := hx_59.cells
  have ych := hx_59.heap
  have ycl := hx_59.lt
  go_wp2_with fail
  generalize w10.alloc (.cells #[.int .i64 Y.1, .slice vga vgn vgc, .slice voa von voc] 27) = w11 at *
  clear hal
  clear cc0 cc1 cc2 cch ccl xc0 xc1 xc2 xch xcl yc0 yc1 yc2 ych ycl
  have GSC : Hid (Calls Try.prog 20 #[(.agg #[.int .i64 Y.1, .slice yga ygn ygc, .slice yoa yon yoc]), (.agg #[.int .i64 Y.1, .slice vga vgn vgc, .slice voa von voc])] w11 fun e w'' => e = .returned (.bool true) ∧ Below w11.heap.size w11 w'') := sameCircuit_same _ _ Y w11 (ha_61).at (ha_62).at
  obtain ⟨cc0, cc1, cc2⟩ := hx_57.cells
  have cch := hx_57.heap
  have ccl := hx_57.lt
  obtain ⟨xc0, xc1, xc2⟩ := hx_58.cells
  have xch := hx_58.heap
  have xcl := hx_58.lt
  obtain ⟨yc0, yc1, yc2⟩ := hx_59.cells
  have ych := hx_59.heap
  have ycl := hx_59.lt
  obtain ⟨vc0, vc1, vc2⟩ := hx_54.cells
  have vch := hx_54.heap
  have vcl := hx_54.lt
  go_wp2_with fail
  clear cc0 cc1 cc2 cch ccl xc0 xc1 xc2 xch xcl yc0 yc1 yc2 ych ycl vc0 vc1 vc2 vch vcl
  refine GSC.out.mono ?_
  rintro e w12 ⟨rfl, hst⟩
  have hb_63 := Below.step hb_55 hb_55.size hst
  clear hb_55
  have hb_64 := Below.step hb_56 hb_56.size hst
  clear hb_56
  have hx_65 := hx_57.below hst hx_57.lt
  clear hx_57
  have hx_66 := hx_58.below hst hx_58.lt
  clear hx_58
  have hx_67 := hx_59.below hst hx_59.lt
  clear hx_59
  have hx_68 := hx_54.below hst hx_54.lt
  clear hx_54
  have ha_69 := ha_60.below hst
  clear ha_60
  have ha_70 := ha_61.below hst
  clear ha_61
  have ha_71 := ha_62.below hst
  clear ha_62
  clear hst
  clear GSC
  clear ha_71
  clear hx_68
  clear ha_69
  clear hx_66
  have K_c : Hid (∀ w' : World, Below w12.heap.size w12 w' → Box3 w' w1.heap.size 27 (.int .i64 c.1) (.slice cga cgn cgc) (.slice coa con coc)) := fun w' hb => hx_65.below hb hx_65.lt
  have K_y : Hid (∀ w' : World, Below w12.heap.size w12 w' → Box3 w' w8.heap.size 27 (.int .i64 Y.1) (.slice yga ygn ygc) (.slice yoa yon yoc)) := fun w' hb => hx_67.below hb hx_67.lt
  have A_y : Hid (∀ w' : World, Below w12.heap.size w12 w' → AtC w' (.agg #[.int .i64 Y.1, .slice yga ygn ygc, .slice yoa yon yoc]) Y) := fun w' hb => ha_70.below hb
  have B_w1 : Hid (Below w1.heap.size w1 w12) := hb_63
  have B_w : Hid (Below w.heap.size w w12) := hb_64
  clear hx_65 hx_67 ha_70 hb_63 hb_64
  cases OK with
  | false =>
    clear HMATH
    go_wp2_with fail
    go_ret
    exact ⟨rfl, B_w.out⟩
  | true =>
    cases ONE with
    | false =>
      clear HMATH
      go_wp2_with fail
      go_ret
      exact ⟨rfl, B_w.out⟩
    | true =>
      obtain ⟨m1, m2, m3, mab, m5, m6, m9⟩ := HMATH.out rfl rfl
      have HM9 : Hid _ := m9
      obtain ⟨IN, hIN⟩ : ∃ IN : Nat, c.1 = (IN : Int) := ⟨c.1.toNat, by omega⟩
      have HIN : Hid (c.1 = (IN : Int)) := hIN
      have hI16 : IN ≤ 16 := by omega
      have HXC7 : Hid (∀ w' : World, Below w12.heap.size w12 w' → Box3 w' w1.heap.size 27 (.int .i64 (IN : Int)) (.slice cga cgn cgc) (.slice coa con coc)) := fun w' hb => by
        have h1 := K_c.out w' hb
        rw [hIN] at h1
        exact h1
      have HO7 : Hid (w12.ownsRow w12.heap.size 4 1 (.slice none 0 0) 0 (cellsB [])) := World.ownsRow_nil _ _ _ _
      have HB77 : Hid (Below w12.heap.size w12 w12) := Below.refl _ _
      have HMAB : Hid (an = bn) := mab
      clear m1 m2 mab m5 m6 m9 hIN HMATH K_c
      go_wp2_with fail
      go_loopw [20, 21] (fun v i wr => ∃ (j : Nat) (l : List Bool), j ≤ IN ∧ i = .int .i64 j ∧ Hid (l.length = j) ∧ Hid (wr.ownsRow w12.heap.size 4 1 v j (cellsB l)) ∧ Hid (Below w12.heap.size w12 wr)) (fun _ i _ => IN - (intOf i).toNat)
      case atStart => exact ⟨0, [], by omega, rfl, rfl, HO7, HB77⟩
      case round =>
        obtain ⟨j, l, hj, rfl, HL, HO, HB9⟩ := hrel
        clear HO7 HB77
        have zx := HXC7.out wr HB9.out
        obtain ⟨cc0, cc1, cc2⟩ := zx.cells
        have cch := zx.heap
        have ccl := zx.lt
        clear zx
        by_cases hlt : j < IN
        · obtain ⟨va, vc, hv⟩ := own_shape HO.out
          subst hv
          have gn := numberOf_any wr.heap.size (.slice a1 l1 c1) wr (HC1.out wr (B_w.out.trans (HB9.out.mono B_w.out.size)))
          have hjA : (j : Int) < (IN : Int) := by omega
          go_wp2_with fail
          refine gn.mono ?_
          rintro e w8 ⟨nn, ⟨hn0, hn1⟩, rfl, hw8⟩
          have hw9 := hw8.symm
          subst hw9
          clear hw8 gn
          have hjw : IntKind.u64.wrap (j : Int) = (j : Int) := IntWalk.u64_in _ ⟨by omega, by omega⟩
          obtain ⟨z, hz⟩ : ∃ z : Bool, (bits BinOp.and IntKind.i64 (nn / 2 ^ j) 1 == 1) = z := ⟨_, rfl⟩
          have own6 := World.ownsRow.alloc HO.out (.cells #[.bool z] 4)
          have hb6 : Below w12.heap.size w12 (wr.alloc (.cells #[.bool z] 4)) := HB9.out.alloc HB9.out.size _
          have hs6 := hb6.size
          have HL2 : Hid ((l ++ [z]).length = j + 1) := by
            show (l ++ [z]).length = j + 1
            rw [List.length_append, HL.out]
            rfl
          clear HO HB9
          go_wp2_with (at_builtin; refine wpList_append_own _ rfl _ _ 33 rfl w12.heap.size 4 i0 (.bool false) 1 1 Try.underlying33 hif hz0 hz1 hz2 rfl (by decide) _ _ _ rfl own6 ⟨wr.heap.size, 0, none⟩ 1 1 [.bool z] rfl rfl (oneB_cells wr z) (bools_one [z]) (by unfold maxLen; omega) (by omega) hs6 ?_)
          intro v9 w9 own9 grow9 _
          have HB10 : Hid (Below w12.heap.size w12 w9) := below_app hb6 (by omega) (Nat.le_refl _) own6 grow9
          have HO10 : Hid (w9.ownsRow w12.heap.size 4 1 v9 (j + 1) (cellsB (l ++ [z]))) := by
            show w9.ownsRow w12.heap.size 4 1 v9 (j + 1) (cellsB (l ++ [z]))
            rw [cellsB_append]
            exact own9
          clear own6 own9 grow9 hb6
          go_wp2_with fail
          go_roundw
          case rel => exact ⟨j + 1, l ++ [z], by omega, by go_num, HL2, HO10, HB10⟩
          case measure => simp [intOf]; omega
        · obtain rfl : j = IN := by omega
          have hLL : l.length ≤ 1048576 := by rw [HL.out]; omega
          have hlc : (l.length : Int) = c.1 := by rw [HL.out]; exact HIN.out.symm
          obtain ⟨q1, qlen, q2, q3, q4, q5, q6, q7, q8⟩ := HM9.out l hlc
          have hown : OwnBS wr w12.heap.size wr.heap.size u20 l := by
            have h1 := HO.out
            rw [← HL.out] at h1
            exact rowIn_of h1
          have hiat := hown.hands hLL
          obtain ⟨ia, in_, ic, his⟩ := hown.shape
          subst his
          have HW9 : Hid (Below w.heap.size w wr) := B_w.out.trans (HB9.out.mono B_w.out.size)
          have GW1 : Hid (∀ w' : World, Below wr.heap.size wr w' → Calls Try.prog 24 #[(.agg #[.int .i64 Y.1, .slice yga ygn ygc, .slice yoa yon yoc]), .slice ia in_ ic] w' fun e w'' => ∃ r, e = .returned (.tuple #[r, .bool true]) ∧ OwnBS w'' w'.heap.size w''.heap.size r (wiresL Y l) ∧ Below w'.heap.size w' w'') := fun w' hb => by
            have g := iAllWires_bs (.agg #[.int .i64 Y.1, .slice yga ygn ygc, .slice yoa yon yoc]) _ Y l w' (A_y.out w' (HB9.out.trans (hb.mono HB9.out.size))) (hiat.below hb)
            rw [q1] at g
            exact g
          generalize wiresL Y l = O at *
          have zx := K_y.out wr HB9.out
          obtain ⟨yc0, yc1, yc2⟩ := zx.cells
          have ych := zx.heap
          have ycl := zx.lt
          have HXX9 : Hid (∀ w' : World, Below wr.heap.size wr w' → Box3 w' w1.heap.size 27 (.int .i64 (j : Int)) (.slice cga cgn cgc) (.slice coa con coc)) := fun w' hb => HXC7.out w' (HB9.out.trans (hb.mono HB9.out.size))
          have HA9 : Hid (∀ w' : World, Below wr.heap.size wr w' → IntsAt w' (.slice aa an ac) a ∧ IntsAt w' (.slice ba bn bc) b) := fun w' hb => ⟨(HA.out w' (B_w1.out.trans ((HB9.out.trans (hb.mono HB9.out.size)).mono B_w1.out.size))).1, (HB.out w' (B_w1.out.trans ((HB9.out.trans (hb.mono HB9.out.size)).mono B_w1.out.size))).1⟩
          rw [HIN.out] at qlen
          have hcg3 : cgn ≤ 300 := by have := HCG.out; omega
          clear zx hown hiat HO HB9 hlc HM9 q1
          go_wp2_with fail
          refine (GW1.out _ (Below.refl _ _)).mono ?_
          rintro e w11 ⟨all, rfl, ho11, hs11⟩
          have hall := ho11.reads (by omega)
          obtain ⟨la, lc, hls⟩ := hall.shape
          subst hls
          generalize hpl : O.length = pl at *
          have zx := HXX9.out w11 hs11
          obtain ⟨zz0, zz1, zz2⟩ := zx.cells
          have zzh := zx.heap
          have zzl := zx.lt
          have GCA : Hid (∀ (w' : World), Below w11.heap.size w11 w' → Calls Try.prog 25 #[.slice la pl lc, .slice aa an ac] w' fun e w'' => e = .returned (.int .i64 (carryN O a)) ∧ Below w'.heap.size w' w'') := fun w' hb =>
            carried_laws _ _ O a (by rw [HAN.out]; omega) (by omega) (fun x hx => by rw [hpl]; exact q3 x hx) w' (hall.below hb) (HA9.out w' (hs11.trans (hb.mono hs11.size))).1
          have GCB : Hid (∀ (w' : World), Below w11.heap.size w11 w' → Calls Try.prog 25 #[.slice la pl lc, .slice ba bn bc] w' fun e w'' => e = .returned (.int .i64 (carryN O b)) ∧ Below w'.heap.size w' w'') := fun w' hb =>
            carried_laws _ _ O b (by rw [HBN.out]; omega) (by omega) (fun x hx => by rw [hpl]; exact q4 x hx) w' (hall.below hb) (HA9.out w' (hs11.trans (hb.mono hs11.size))).2
          have HW11 : Hid (Below w.heap.size w w11) := HW9.out.trans (hs11.mono HW9.out.size)
          have HL5 : Hid (∀ w' : World, Below w11.heap.size w11 w' → ∃ g o : Nat, la = some ⟨g, o, none⟩ ∧ w'.cell? ⟨g, o + LW.toNat, none⟩ = some (.bool (at' O LW)) ∧ w'.cell? ⟨g, o + EW.toNat, none⟩ = some (.bool (at' O EW))) := fun w' hb => by
            obtain ⟨g, o, e, _, c1⟩ := bools_read (hall.below hb) q5.1 (by omega)
            obtain ⟨g', o', e', _, c2⟩ := bools_read (hall.below hb) q6.1 (by omega)
            injection e with e
            injection e' with e'
            rw [e] at e'
            injection e' with e'
            injection e' with e1 e2
            subst e1 e2
            exact ⟨g, o, e, c1, c2⟩
          rw [q7, q8] at HL5
          have hA20 := carryN_lt O a
          have hB20 := carryN_lt O b
          have hpw : 2 ^ a.length ≤ 2 ^ 20 := Nat.pow_le_pow_right (by omega) (by rw [HAN.out]; omega)
          have hpw2 : 2 ^ b.length ≤ 2 ^ 20 := Nat.pow_le_pow_right (by omega) (by rw [HBN.out]; omega)
          have HXX11 : Hid (∀ w' : World, Below w11.heap.size w11 w' → Box3 w' w1.heap.size 27 (.int .i64 (j : Int)) (.slice cga cgn cgc) (.slice coa con coc)) := fun w' hb => HXX9.out w' (hs11.trans (hb.mono hs11.size))
          generalize carryN O a = NA at *
          generalize carryN O b = NB at *
          have hA21 : NA < 1048576 := by omega
          have hB21 : NB < 1048576 := by omega
          have HPL : Hid (O.length = pl) := hpl
          obtain ⟨q50, q51⟩ := q5
          obtain ⟨q60, q61⟩ := q6
          have hd1 : ((pl : Int) != (cgn : Int) + (j : Int) + 2 + 9 * (an : Int)) = false := by simp; omega
          have hpl9 : (pl : Int) ≤ 1000 := by omega
          obtain ⟨P0, hP0⟩ : ∃ P0 : Int, (cgn : Int) + (j : Int) + 2 + 9 * (an : Int) = P0 := ⟨_, rfl⟩
          have hPp : (pl : Int) = P0 := by omega
          clear zx ho11 yc0 yc1 yc2 ych ycl q3 q4 q7 q8 hall hs11 HA9 GW1 HXX9 hA20 hB20 hpw hpw2 hpl
          have HQ0 : Hid (Below w11.heap.size w11 w11) := Below.refl _ _
          go_wp2_with fail
          refine (GCA.out _ HQ0.out).mono ?_
          rintro e w12 ⟨rfl, hs12⟩
          have HQ1 : Hid (Below w11.heap.size w11 w12) := hs12
          clear hs12 zz0 zz1 zz2 zzh zzl
          go_wp2_with fail
          refine (GCB.out _ HQ1.out).mono ?_
          rintro e w13 ⟨rfl, hs13⟩
          have HQ2 : Hid (Below w11.heap.size w11 w13) := HQ1.out.trans (hs13.mono HQ1.out.size)
          have zx := HXX11.out _ HQ2.out
          obtain ⟨zz0, zz1, zz2⟩ := zx.cells
          have zzh := zx.heap
          have zzl := zx.lt
          obtain ⟨g, o, rfl, cl, ce⟩ := HL5.out _ HQ2.out
          have HW13 : Hid (Below w.heap.size w w13) := HW11.out.trans (HQ2.out.mono HW11.out.size)
          clear hs13 zx GCA GCB HQ0 HQ1 HL5 HXX11
          rcases Nat.lt_trichotomy NA NB with h | h | h
          · rw [decide_eq_true h] at cl
            rw [decide_eq_false (by omega)] at ce
            have e1 : ((NA : Int) == (NB : Int)) = false := by simp; omega
            go_wp2_with fail
            go_ret
            exact ⟨rfl, HW13.out⟩
          · subst h
            rw [decide_eq_false (by omega)] at cl
            rw [decide_eq_true rfl] at ce
            go_wp2_with fail
            go_ret
            exact ⟨rfl, HW13.out⟩
          · rw [decide_eq_false (by omega)] at cl
            rw [decide_eq_false (by omega)] at ce
            have e1 : ((NA : Int) == (NB : Int)) = false := by simp; omega
            have e2 : decide (NA < NB) = false := decide_eq_false (by omega)
            go_wp2_with fail
            go_ret
            exact ⟨rfl, HW13.out⟩
end Go.Proofs.Ytmjeaceabjinfaa
