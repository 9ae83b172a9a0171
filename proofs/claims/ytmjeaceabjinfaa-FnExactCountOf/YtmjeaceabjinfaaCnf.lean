/-
  Sets of clauses as values: a struct of two cells; the laws' sizes, copies and comparisons of them, and one that came in.
-/
import Derived.Test.YtmjeaceabjinfaaIntSS
import Derived.Test.YtmjeaceabjinfaaOwn5
namespace Go.Proofs.Ytmjeaceabjinfaa
open Go Go.RowKit
open M
set_option linter.unusedVariables false
set_option linter.unusedSimpArgs false

/-- a local of a struct of two cells -/
structure Box2 (w : World) (b : Nat) (e : TypeId) (x y : Value) : Prop where
  heap : w.heap[b]? = some (.cells #[x, y] e (0, 0))
theorem Box2.lt {w : World} {b : Nat} {e : TypeId} {x y : Value} (h : Box2 w b e x y) : b < w.heap.size := (Array.getElem?_eq_some_iff.1 h.heap).1
theorem Box2.cells {w : World} {b : Nat} {e : TypeId} {x y : Value} (h : Box2 w b e x y) : w.cell? ⟨b, 0, none⟩ = some x ∧ w.cell? ⟨b, 1, none⟩ = some y := by
  constructor <;> simp [World.cell?, h.heap]
theorem Box2.below {w w' : World} {B b : Nat} {e : TypeId} {x y : Value} (h : Box2 w b e x y) (hb : Below B w w') (hB : b < B) : Box2 w' b e x y := ⟨by rw [hb.block b hB]; exact h.heap⟩
theorem box2_alloc (w : World) (e : TypeId) (x y : Value) : Box2 (w.alloc (.cells #[x, y] e)) w.heap.size e x y := ⟨by show (w.heap.push _)[w.heap.size]? = _; simp⟩
theorem Box2.alloc {w : World} {b : Nat} {e : TypeId} {x y : Value} (h : Box2 w b e x y) (o : Obj) : Box2 (w.alloc o) b e x y := h.below ((Below.refl w.heap.size w).alloc (Nat.le_refl _) o) h.lt
theorem Box2.frozen {w : World} {b : Nat} {e : TypeId} {x y : Value} (h : Box2 w b e x y) (o : Nat) : w.frozen? ⟨b, o, none⟩ = false := by
  simp [World.frozen?, h.heap]
theorem heap_set2 {w : World} {b o : Nat} {e : TypeId} {x y v : Value} (h : Box2 w b e x y) : (w.setCell ⟨b, o, none⟩ v).heap[b]? = some (.cells (#[x, y].setIfInBounds o v) e (0, 0)) := by
  have hl := h.lt
  have hh := h.heap
  simp [World.setCell, Array.getElem?_modify, hh]
theorem Box2.set0 {w : World} {b : Nat} {e : TypeId} {x y : Value} (h : Box2 w b e x y) (v : Value) : Box2 (w.setCell ⟨b, 0, none⟩ v) b e v y := ⟨heap_set2 h⟩
theorem Box2.set1 {w : World} {b : Nat} {e : TypeId} {x y : Value} (h : Box2 w b e x y) (v : Value) : Box2 (w.setCell ⟨b, 1, none⟩ v) b e x v := ⟨heap_set2 h⟩
theorem Box2.other {w : World} {b b' o : Nat} {e : TypeId} {x y : Value} (h : Box2 w b e x y) (hb : b ≠ b') (v : Value) : Box2 (w.setCell ⟨b', o, none⟩ v) b e x y := ⟨by rw [Below.heap_setCell _ _ _ _ hb]; exact h.heap⟩
/-- clauses: how many names, and lists of literals -/
abbrev Cn := Int × List (List Int)
def AtCnf (w : World) (v : Value) (c : Cn) : Prop := Fit c.1 ∧ ∃ s, v = .agg #[.int .i64 c.1, s] ∧ IntsSS w s c.2
def CnOk (c : Cn) : Prop := Fit c.1 ∧ c.2.length ≤ 1048576 ∧ ∀ b ∈ c.2, b.length ≤ 1048576
def OwnCnf (w : World) (lo hi : Nat) (v : Value) (c : Cn) : Prop := hi ≤ w.heap.size ∧ ∃ s us, v = .agg #[.int .i64 c.1, s] ∧ ISO w lo s us c.2 ∧ (∀ k, s.ownBlock = some k → k < hi) ∧ ∀ (i : Nat) (u : Value) (k : Nat), us[i]? = some u → u.ownBlock = some k → k < hi
theorem AtCnf.below {w w' : World} {v : Value} {c : Cn} (h : AtCnf w v c) (hb : Below w.heap.size w w') : AtCnf w' v c := by
  obtain ⟨h0, s, hv, h1⟩ := h
  exact ⟨h0, s, hv, h1.below hb⟩
theorem AtCnf.shape {w : World} {v : Value} {c : Cn} (h : AtCnf w v c) : ∃ sa sn sc, v = .agg #[.int .i64 c.1, .slice sa sn sc] := by
  obtain ⟨h0, s, hv, h1⟩ := h
  obtain ⟨a, cap, e⟩ := h1.shape
  exact ⟨a, _, cap, by rw [hv, e]⟩
theorem OwnCnf.shape {w : World} {lo hi : Nat} {v : Value} {c : Cn} (h : OwnCnf w lo hi v c) : ∃ sa sn sc, v = .agg #[.int .i64 c.1, .slice sa sn sc] := by
  obtain ⟨_, s, us, hv, h1, _⟩ := h
  obtain ⟨a, cap, e⟩ := own_shape h1.1
  exact ⟨a, _, cap, by rw [hv, e]⟩
theorem own_same {w w' : World} {lo hi n : Nat} {e : TypeId} {s : Nat} {v : Value} {xs : List Value} (h : w.ownsRow lo e s v n xs) (hh : ∀ k, v.ownBlock = some k → k < hi) (hb : ∀ i, lo ≤ i → i < hi → w'.heap[i]? = w.heap[i]?) : w'.ownsRow lo e s v n xs := by
  obtain ⟨h1, h2⟩ := h
  refine ⟨h1, ?_⟩
  rcases h2 with h2 | ⟨g, cap, cur, hv, hB, hg, r⟩
  · exact Or.inl h2
  · exact Or.inr ⟨g, cap, cur, hv, hB, by rw [hb g hB (hh g (by rw [hv]; rfl))]; exact hg, r⟩
theorem OwnCnf.same {w w' : World} {lo hi : Nat} {v : Value} {c : Cn} (h : OwnCnf w lo hi v c) (hs : w.heap.size ≤ w'.heap.size) (hb : ∀ i, lo ≤ i → i < hi → w'.heap[i]? = w.heap[i]?) : OwnCnf w' lo hi v c := by
  obtain ⟨h0, s, us, hv, ⟨h1, h2, h3⟩, h4, h5⟩ := h
  refine ⟨by omega, s, us, hv, ⟨own_same h1 h4 hb, h2, fun i u b hu hx => own_same (h3 i u b hu hx) (fun k hk => h5 i u k hu hk) hb⟩, h4, h5⟩
theorem OwnCnf.hi {w : World} {lo hi : Nat} {v : Value} {c : Cn} (h : OwnCnf w lo hi v c) : hi ≤ w.heap.size := h.1
theorem OwnCnf.reads {w : World} {lo hi : Nat} {v : Value} {c : Cn} (h : OwnCnf w lo hi v c) (ok : CnOk c) : AtCnf w v c := by
  obtain ⟨h0, s, us, hv, h1, h4, h5⟩ := h
  exact ⟨ok.1, s, hv, h1.ss ok.2.1 ok.2.2⟩
theorem OwnCnf.hands {w : World} {lo hi : Nat} {v : Value} {c : Cn} (h : OwnCnf w lo hi v c) (ok : CnOk c) : AtCnf w v c := h.reads ok
theorem sumI_mem : ∀ (l : List (List Int)) (b : List Int), b ∈ l → b.length ≤ sumI l
  | [], _, h => by simp at h
  | x :: l, b, h => by
    simp only [List.mem_cons] at h
    simp only [sumI]
    rcases h with rfl | h
    · omega
    · have := sumI_mem l b h
      omega
set_option maxRecDepth 100000 in
theorem szCnf_small (v : Value) (c : Cn) (hok : c.2.length + sumI c.2 ≤ 1048576) (w : World) (h : AtCnf w v c) :
    Calls Try.prog 58 #[v, .int .i64 1048576] w fun e w' => e = .returned (.int .i64 (1048576 - (c.2.length : Int) - (sumI c.2 : Int))) ∧ Below w.heap.size w w' := by
  obtain ⟨h0, s, rfl, h1⟩ := h
  have g1 := szIntSS_all s c.2 1048576 (by omega) (by omega) (w.alloc (.cells #[.int .i64 c.1, s] 74)) (h1.below ((Below.refl _ _).alloc (Nat.le_refl _) _))
  unfold leftIS at g1
  rw [if_neg (by omega)] at g1
  obtain ⟨a, cap, rfl⟩ := h1.shape
  obtain ⟨L, hL⟩ : ∃ L : Int, 1048576 - (c.2.length : Int) - (sumI c.2 : Int) = L := ⟨_, rfl⟩
  have hL0 : 0 ≤ L := by omega
  have hL1 : L ≤ 1048576 := by omega
  rw [hL] at g1 ⊢
  generalize c.2.length = n at *
  generalize c.1 = ins at *
  clear h1 h0 hL
  go_enter Try.func58, Try.ntmps58
  go_wp2_with fail
  refine g1.mono ?_
  rintro e w1 ⟨rfl, rfl⟩
  go_wp2_with fail
  go_ret
  exact ⟨rfl, (Below.refl _ _).alloc (Nat.le_refl _) _⟩
set_option maxRecDepth 100000 in
theorem szCnf_big (v : Value) (c : Cn) (hok : 1048576 < c.2.length + sumI c.2) (w : World) (h : AtCnf w v c) :
    Calls Try.prog 58 #[v, .int .i64 1048576] w fun e w' => e = .returned (.int .i64 (-1)) ∧ Below w.heap.size w w' := by
  obtain ⟨h0, s, rfl, h1⟩ := h
  have g1 := szIntSS_all s c.2 1048576 (by omega) (by omega) (w.alloc (.cells #[.int .i64 c.1, s] 74)) (h1.below ((Below.refl _ _).alloc (Nat.le_refl _) _))
  unfold leftIS at g1
  rw [if_pos (by omega)] at g1
  obtain ⟨a, cap, rfl⟩ := h1.shape
  generalize c.2.length = n at *
  generalize c.1 = ins at *
  clear h1 h0
  go_enter Try.func58, Try.ntmps58
  go_wp2_with fail
  refine g1.mono ?_
  rintro e w1 ⟨rfl, rfl⟩
  go_wp2_with fail
  go_ret
  exact ⟨rfl, (Below.refl _ _).alloc (Nat.le_refl _) _⟩
set_option maxRecDepth 100000 in
set_option maxHeartbeats 2000000 in
theorem eqCnf_same (u v : Value) (c : Cn) (w : World) (h : AtCnf w u c) (h' : AtCnf w v c) :
    Calls Try.prog 60 #[u, v] w fun e w' => e = .returned (.bool true) ∧ Below w.heap.size w w' := by
  obtain ⟨_, s, rfl, h1⟩ := h
  obtain ⟨_, t, rfl, h2⟩ := h'
  have G : Hid (∀ w1 : World, Below w.heap.size w w1 → Calls Try.prog 128 #[s, t] w1 fun e w' => e = .returned (.bool true) ∧ Below w1.heap.size w1 w') := fun w1 hb => eqIntSS_same s t c.2 w1 (h1.below hb) (h2.below hb)
  obtain ⟨a, cap, rfl⟩ := h1.shape
  obtain ⟨a', cap', rfl⟩ := h2.shape
  have hb2 : Below w.heap.size w ((w.alloc (.cells #[.int .i64 c.1, .slice a c.2.length cap] 51)).alloc (.cells #[.int .i64 c.1, .slice a' c.2.length cap'] 51)) := ((Below.refl _ _).alloc (Nat.le_refl _) _).alloc (by rw [World.size_alloc]; omega) _
  have x0 := (box2_alloc w 51 (.int .i64 c.1) (.slice a c.2.length cap)).alloc (.cells #[.int .i64 c.1, .slice a' c.2.length cap'] 51)
  have x1 := box2_alloc (w.alloc (.cells #[.int .i64 c.1, .slice a c.2.length cap] 51)) 51 (.int .i64 c.1) (.slice a' c.2.length cap')
  simp only [World.size_alloc] at x1
  generalize c.2.length = n at *
  generalize c.1 = ins at *
  clear h1 h2
  go_enter Try.func60, Try.ntmps60
  go_wp2_with fail
  refine (G.out _ hb2).mono ?_
  generalize ((w.alloc (.cells #[.int .i64 ins, .slice a n cap] 51)).alloc (.cells #[.int .i64 ins, .slice a' n cap'] 51)) = w2 at *
  rintro e w3 ⟨rfl, hs⟩
  have HB : Hid (Below w.heap.size w w3) := hb2.trans (hs.mono hb2.size)
  clear hs hb2 x0 x1 G
  go_wp2_with fail
  go_ret
  exact ⟨rfl, HB.out⟩
theorem ownR_low {w : World} {B C n : Nat} {e : TypeId} {s : Nat} {v : Value} {xs : List Value} (h : w.ownsRow B e s v n xs) (hc : C ≤ B) : w.ownsRow C e s v n xs := by
  obtain ⟨h1, h2⟩ := h
  refine ⟨h1, ?_⟩
  rcases h2 with h2 | ⟨g, cap, cur, hv, hB, r⟩
  · exact Or.inl h2
  · exact Or.inr ⟨g, cap, cur, hv, Nat.le_trans hc hB, r⟩
theorem OwnCnf.weak {w : World} {lo lo' hi hi' : Nat} {v : Value} {c : Cn} (h : OwnCnf w lo hi v c) (h1 : lo' ≤ lo) (h2 : hi ≤ hi') (h3 : hi' ≤ w.heap.size) : OwnCnf w lo' hi' v c := by
  obtain ⟨h0, s, us, hv, ⟨a1, a2, a3⟩, h4, h5⟩ := h
  exact ⟨h3, s, us, hv, ⟨ownR_low a1 h1, a2, fun i u b hu hx => ownR_low (a3 i u b hu hx) h1⟩, fun k hk => Nat.lt_of_lt_of_le (h4 k hk) h2, fun i u k hu hk => Nat.lt_of_lt_of_le (h5 i u k hu hk) h2⟩
theorem ownCnf_of {w : World} {lo : Nat} {n : Int} {s : Value} {us : List Value} {l : List (List Int)} (h : ISO w lo s us l) : OwnCnf w lo w.heap.size (.agg #[.int .i64 n, s]) (n, l) :=
  ⟨Nat.le_refl _, s, us, rfl, h, fun k hk => (own_block h.1 hk).2, fun i u k hu hk => h.under i u k hu hk⟩
set_option maxRecDepth 100000 in
set_option maxHeartbeats 2000000 in
theorem toCnf_any (v : Value) (c : Cn) (ok : CnOk c) (w : World) (h : AtCnf w v c) :
    Calls Try.prog 59 #[v] w fun e w' => ∃ v', e = .returned v' ∧ OwnCnf w' w.heap.size w'.heap.size v' c ∧ Below w.heap.size w w' := by
  obtain ⟨h0, s, rfl, h1⟩ := h
  obtain ⟨k0, k1, k2⟩ := ok
  have G1 : Hid (∀ w1 : World, Below w.heap.size w w1 → Calls Try.prog 127 #[s] w1 fun e w' => ∃ v' us, e = .returned v' ∧ ISO w' w1.heap.size v' us c.2 ∧ Below w1.heap.size w1 w') := fun w1 hb => toIntSS_any s c.2 k1 w1 (h1.below hb) k2
  obtain ⟨ins, l⟩ := c
  simp only at *
  clear h1 h0
  go_enter Try.func59, Try.ntmps59
  go_wp2_with fail
  have hb0 : Below w.heap.size w (((w.alloc (.cells #[.int .i64 ins, s] 74)).alloc (.cells #[.int .i64 0, .slice none 0 0] 51)).alloc (.cells #[.int .i64 ins, .slice none 0 0] 51)) := (((Below.refl _ _).alloc (Nat.le_refl _) _).alloc (by simp) _).alloc (by simp; omega) _
  have x1 := box2_alloc (w.alloc (.cells #[.int .i64 ins, s] 74)) 51 (.int .i64 0) (.slice none 0 0)
  have x2 := box2_alloc ((w.alloc (.cells #[.int .i64 ins, s] 74)).alloc (.cells #[.int .i64 0, .slice none 0 0] 51)) 51 (.int .i64 ins) (.slice none 0 0)
  have y1 := x1.alloc (.cells #[.int .i64 ins, .slice none 0 0] 51)
  simp only [World.size_alloc] at x2 y1
  have g1 := G1.out _ hb0
  have hsz : (((w.alloc (.cells #[.int .i64 ins, s] 74)).alloc (.cells #[.int .i64 0, .slice none 0 0] 51)).alloc (.cells #[.int .i64 ins, .slice none 0 0] 51)).heap.size = w.heap.size + 1 + 1 + 1 := by simp only [World.size_alloc]
  refine g1.mono ?_
  generalize (((w.alloc (.cells #[.int .i64 ins, s] 74)).alloc (.cells #[.int .i64 0, .slice none 0 0] 51)).alloc (.cells #[.int .i64 ins, .slice none 0 0] 51)) = wa at *
  rintro e w1 ⟨sv, us, rfl, og, hs⟩
  obtain ⟨sa, sc, rfl⟩ := own_shape og.1
  have z1 := y1.below hs (by omega)
  have z2 := x2.below hs (by omega)
  obtain ⟨d0, d1⟩ := z2.cells
  have f1 := z2.frozen 1
  clear x1 x2 y1
  have z3 := z2.set1 (.slice sa us.length sc)
  have z4 := z1.other (o := 1) (b' := w.heap.size + 1 + 1) (by omega) (.slice sa us.length sc)
  have hb1 : Below w.heap.size w (w1.setCell ⟨w.heap.size + 1 + 1, 1, none⟩ (.slice sa us.length sc)) := (hb0.trans (hs.mono hb0.size)).setCell (by show w.heap.size ≤ w.heap.size + 1 + 1; omega) _
  have hs1 := hs.size
  have HO1 : Hid (OwnCnf w1 wa.heap.size w1.heap.size (.agg #[.int .i64 ins, .slice sa us.length sc]) (ins, l)) := ownCnf_of og
  have f4 := z4.frozen 0
  have f5 := z4.frozen 1
  obtain ⟨r0, r1⟩ := z4.cells
  obtain ⟨e0, e1⟩ := z3.cells
  have hh := z3.heap
  have HB1 : Hid (Below w.heap.size w (w1.setCell ⟨w.heap.size + 1 + 1, 1, none⟩ (.slice sa us.length sc))) := hb1
  have HZ4 : Hid (Box2 (w1.setCell ⟨w.heap.size + 1 + 1, 1, none⟩ (.slice sa us.length sc)) (w.heap.size + 1) 51 (.int .i64 0) (.slice none 0 0)) := z4
  clear g1 G1 z1 z2 og hs hb0 hb1
  generalize us.length = un at *
  go_wp2_with fail
  have z9 := (HZ4.out.set0 (.int .i64 ins)).set1 (.slice sa un sc)
  refine bodyPost_ret (results_cell_row rfl _ _ (w.heap.size + 1) 51 _ (0, 0) _ rfl z9.heap Try.underlying51 rfl (by kernel_rfl)) rfl ?_
  refine ⟨_, rfl, ?_, ?_⟩
  · refine ((HO1.out.same (by simp [World.setCell]) (fun i h1 h2 => ?_)).weak (by omega) (by simp [World.setCell]) (Nat.le_refl _))
    rw [Below.heap_setCell _ _ _ _ (by show i ≠ w.heap.size + 1; omega), Below.heap_setCell _ _ _ _ (by show i ≠ w.heap.size + 1; omega), Below.heap_setCell _ _ _ _ (by show i ≠ w.heap.size + 1 + 1; omega)]
  · exact (HB1.out.setCell (by show w.heap.size ≤ w.heap.size + 1; omega) _).setCell (by show w.heap.size ≤ w.heap.size + 1; omega) _
theorem trod_two {H : Type} {enc : TypeId × Value → H} {P : Program} {w : World} {base : Nat} {spare : Nat → Bool} {held : Bool} {t : TypeId} {f0 f1 : Field} {fuel : Nat} {cs : List Value} {x : DataW H × List MemPlace} (ht : P.underlying t = some (.struct #[f0, f1])) (h : DataW.trod enc P w base spare held fuel t cs = some x) :
    ∃ y0 y1 n, x = (.agg [y0.1, y1.1], y0.2 ++ y1.2) ∧ cs.length = P.cellsOf t ∧ DataW.trod enc P w base spare held n f0.type ((cs.drop f0.offset).take (P.cellsOf f0.type)) = some y0 ∧
      DataW.trod enc P w base spare held n f1.type ((cs.drop f1.offset).take (P.cellsOf f1.type)) = some y1 := by
  obtain ⟨xs, n, _, rfl, hl, hlen, hf⟩ := DataW.trod_struct ht h
  match xs, hlen with
  | [y0, y1], _ => exact ⟨y0, y1, n, by simp, hl, by simpa using hf 0 f0 rfl, by simpa using hf 1 f1 rfl⟩
set_option maxRecDepth 100000 in
open Go.ChangeShapes Go.WideShapes Go.ChangeAt in
theorem cnfAt_of {H : Type} {enc : TypeId × Value → H} {W : World} {base : Nat} {v : Value} {d : DataW H} {p : List MemPlace} (hv : Value.okWide Try.prog W .any base 74 v)
    (h : DataW.Trod enc Try.prog W 0 (fun _ => true) true 74 v d p) : ∃ c : Cn, AtCnf W v c := by
  obtain ⟨cs, rfl, hsz⟩ := okWide_struct Try.underlying74 hv
  obtain ⟨fuel, hf⟩ := h
  obtain ⟨y0, y1, m, _, hl, h0, h1⟩ := trod_two Try.underlying74 hf
  have cSS : Try.prog.cellsOf 49 = 1 := by kernel_rfl
  simp only [cellsInt4, cSS] at h0 h1
  have hsz2 : cs.size = 2 := hsz.trans (by kernel_rfl)
  obtain ⟨l⟩ := cs
  match l, hsz2 with
  | [c0, c1], _ =>
    obtain ⟨a, e0, _, wa⟩ := DataW.trod_int Try.underlying3 h0
    simp [Value.cells] at e0 h1
    subst e0
    have h1' := h1
    rcases Deep.open_slice Try.underlying49 h1' with ⟨hcs, _⟩ | ⟨x, len, cap, m', n', D, Pl, hcs, _⟩
    · simp at hcs
      subst hcs
      exact ⟨(a, []), bounds_i64 wa, _, rfl, by simp, Or.inl ⟨rfl, none, 0, rfl⟩⟩
    · simp at hcs
      subst hcs
      obtain ⟨bs, hbs⟩ := intsSS_of ⟨_, h1⟩
      exact ⟨(a, bs), bounds_i64 wa, _, rfl, hbs⟩
end Go.Proofs.Ytmjeaceabjinfaa
