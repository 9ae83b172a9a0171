/-
  Circuits that grow: one gate laid behind them, by the program and by the model.
-/
import Derived.Test.YtmjeaceabjinfaaBut
import Derived.Test.YtmjeaceabjinfaaBuildM
namespace Go.Proofs.Ytmjeaceabjinfaa
open Go Go.RowKit
open M
set_option linter.unusedVariables false
set_option linter.unusedSimpArgs false

/-- blocks of cells of type t stay as they are -/
structure KeepT (t : TypeId) (w w' : World) : Prop where
  block : ∀ (i : Nat) (cs : Array Value) (fr : Nat × Nat), w.heap[i]? = some (.cells cs t fr) → w'.heap[i]? = some (.cells cs t fr)
theorem KeepT.refl (t : TypeId) (w : World) : KeepT t w w := ⟨fun _ _ _ h => h⟩
theorem KeepT.trans {t : TypeId} {u v w : World} (h : KeepT t u v) (k : KeepT t v w) : KeepT t u w := ⟨fun i cs fr e => k.block i cs fr (h.block i cs fr e)⟩
theorem heap_lt {w : World} {i : Nat} {o : Obj} (h : w.heap[i]? = some o) : i < w.heap.size := by
  by_cases hb : i < w.heap.size
  · exact hb
  · rw [Array.getElem?_eq_none (by omega)] at h
    cases h
theorem KeepT.below {t : TypeId} {w w' : World} (h : Below w.heap.size w w') : KeepT t w w' := ⟨fun i cs fr e => by rw [h.block i (heap_lt e)]; exact e⟩
theorem KeepT.alloc (t : TypeId) (w : World) (o : Obj) : KeepT t w (w.alloc o) := KeepT.below ((Below.refl _ _).alloc (Nat.le_refl _) o)
theorem KeepT.set {t : TypeId} {w : World} {b o : Nat} {e : TypeId} {x y z v : Value} (h : Box3 w b e x y z) (he : e ≠ t) : KeepT t w (w.setCell ⟨b, o, none⟩ v) := ⟨fun i cs fr hi => by
  rw [Below.heap_setCell _ _ _ _ (show i ≠ b from fun e1 => by
    rw [e1, h.heap] at hi
    simp only [Option.some.injEq] at hi
    injection hi with _ h8
    exact he h8)]
  exact hi⟩
theorem KeepT.grown {t : TypeId} {w w' : World} {B n : Nat} {e : TypeId} {s : Nat} {v : Value} {xs : List Value} (h : w.ownsRow B e s v n xs) (k : w.grownBy w' v.ownBlock) (he : e ≠ t) : KeepT t w w' := ⟨fun i cs fr hi => by
  rw [k.block i (heap_lt hi) (fun e1 => by
    rcases h.2 with ⟨hv, _⟩ | ⟨g, cap, cur, hv, _, hh, _⟩
    · rw [hv] at e1
      cases e1
    · rw [hv] at e1
      have e2 : i = g := Option.some.inj e1
      rw [e2, hh] at hi
      simp only [Option.some.injEq] at hi
      injection hi with _ h8
      exact he h8)]
  exact hi⟩
theorem own_keepT {t : TypeId} {w w' : World} {B n : Nat} {s : Nat} {v : Value} {xs : List Value} (h : w.ownsRow B t s v n xs) (k : KeepT t w w') : w'.ownsRow B t s v n xs := by
  obtain ⟨h1, h2⟩ := h
  refine ⟨h1, ?_⟩
  rcases h2 with h2 | ⟨g, cap, cur, hv, hB, hh, r⟩
  · exact Or.inl h2
  · exact Or.inr ⟨g, cap, cur, hv, hB, k.block g _ _ hh, r⟩
theorem own_not {w : World} {B n b : Nat} {t e : TypeId} {s : Nat} {v x y z : Value} {xs : List Value} (h : w.ownsRow B t s v n xs) (k : Box3 w b e x y z) (he : e ≠ t) : v.ownBlock ≠ some b := by
  intro e1
  rcases h.2 with ⟨hv, _⟩ | ⟨g, cap, cur, hv, _, hh, _⟩
  · rw [hv] at e1
    cases e1
  · rw [hv] at e1
    have e2 : g = b := Option.some.inj e1
    rw [e2, k.heap] at hh
    simp only [Option.some.injEq] at hh
    injection hh with _ h8
    exact he h8
/-- a circuit that is being built, at block b, its rows from lo on, its outs below hi -/
def Bld (w : World) (lo hi b : Nat) (e : TypeId) (c : Ci) : Prop := lo ≤ b ∧ ∃ gsl osl, Box3 w b e (.int .i64 c.1) gsl osl ∧ w.ownsRow lo 108 3 gsl c.2.1.length (flat3 c.2.1) ∧ w.ownsRow lo 3 1 osl c.2.2.length (cellsI c.2.2) ∧ ∀ k, osl.ownBlock = some k → k < hi
theorem Bld.drew {w : World} {lo hi b : Nat} {e : TypeId} {c : Ci} (h : Bld w lo hi b e c) : Bld w.drew lo hi b e c := by
  obtain ⟨h0, gsl, osl, h1, h2, h3, h4⟩ := h
  exact ⟨h0, gsl, osl, ⟨h1.heap⟩, h2, h3, h4⟩
theorem KeepT.drew {t : TypeId} {u w : World} (h : KeepT t u w) : KeepT t u w.drew := ⟨h.block⟩
theorem Bld.size {w : World} {lo hi b : Nat} {e : TypeId} {c : Ci} (h : Bld w lo hi b e c) : lo ≤ w.heap.size := by
  obtain ⟨h0, _, _, h1, _⟩ := h
  have := h1.lt
  omega
/-- a list of numbers that has grown leaves what is being built -/
theorem Bld.sum {w w' : World} {lo hi b B n : Nat} {e : TypeId} {c : Ci} {v : Value} {xs : List Value} (h : Bld w lo hi b e c) (ho : w.ownsRow B 3 1 v n xs) (hB : hi ≤ B) (he : e ≠ 3) (g : w.grownBy w' v.ownBlock) : Bld w' lo hi b e c := by
  obtain ⟨h0, gsl, osl, h1, h2, h3, h4⟩ := h
  refine ⟨h0, gsl, osl, h1.grown g (own_not ho h1 he), own_keepT h2 (KeepT.grown ho g (by decide)), own_keep h3 (fun k hk => g.block k (own_block h3 hk).2 (fun e1 => ?_)), h4⟩
  have i1 := h4 k hk
  have i2 := (own_block ho e1.symm).1
  omega
/-- what a gate that is laid does to what is being built -/
theorem bld_grown {w w8 : World} {lo hi b : Nat} {e : TypeId} {c : Ci} {gsl osl v8 : Value} {k x y : Int} (heg : e ≠ 108) (hei : e ≠ 3) (hlo : lo ≤ b) (hx : Box3 w b e (.int .i64 c.1) gsl osl) (hg : w.ownsRow lo 108 3 gsl c.2.1.length (flat3 c.2.1)) (ho : w.ownsRow lo 3 1 osl c.2.2.length (cellsI c.2.2)) (hos : ∀ k, osl.ownBlock = some k → k < hi)
    (own8 : w8.ownsRow lo 108 3 v8 (c.2.1.length + 1) (flat3 c.2.1 ++ [.int .i64 k, .int .i64 x, .int .i64 y])) (grow8 : (w.alloc (.cells #[.int .i64 k, .int .i64 x, .int .i64 y] 108)).grownBy w8 gsl.ownBlock) :
    Box3 w8 b e (.int .i64 c.1) gsl osl ∧ Bld (w8.setCell ⟨b, 1, none⟩ v8) lo hi b e (c.1, c.2.1 ++ [(k, x, y)], c.2.2) ∧ Below lo w (w8.setCell ⟨b, 1, none⟩ v8) ∧ KeepT 3 w (w8.setCell ⟨b, 1, none⟩ v8) := by
  have hxa := hx.alloc (.cells #[.int .i64 k, .int .i64 x, .int .i64 y] 108)
  have hga := hg.alloc (.cells #[.int .i64 k, .int .i64 x, .int .i64 y] 108)
  have hoa := ho.alloc (.cells #[.int .i64 k, .int .i64 x, .int .i64 y] 108)
  have hx8 := hxa.grown grow8 (own_not hga hxa heg)
  have ho8 : w8.ownsRow lo 3 1 osl c.2.2.length (cellsI c.2.2) := own_keepT hoa (KeepT.grown hga grow8 (by decide))
  have hlt := hx.lt
  have hb : Below lo w (w.alloc (.cells #[.int .i64 k, .int .i64 x, .int .i64 y] 108)) := (Below.refl _ _).alloc (by omega) _
  have hb8 : Below lo w w8 := hb.grown grow8 (by simp; omega) (fun kk hk => (own_block hga hk).1)
  refine ⟨hx8, ⟨hlo, v8, osl, hx8.set1 v8, ?_, ?_, hos⟩, hb8.setCell hlo _, ?_⟩
  · have h1 := own_keep (w' := w8.setCell ⟨b, 1, none⟩ v8) own8 (fun g hg' => Below.heap_setCell _ _ _ _ (by show g ≠ b; intro e1; exact own_not own8 hx8 heg (e1 ▸ hg')))
    rw [List.length_append, flat3_append]
    exact h1
  · exact own_keepT ho8 (KeepT.set hx8 hei)
  · exact ((KeepT.alloc _ _ _).trans (KeepT.grown hga grow8 (by decide))).trans (KeepT.set hx8 hei)
set_option maxRecDepth 100000 in
set_option maxHeartbeats 4000000 in
theorem lay_any (lo hi b : Nat) (c : Ci) (k x y : Int) (hI0 : 0 ≤ c.1) (hI1 : c.1 ≤ 16) (hn : c.2.1.length ≤ 1000) (w : World) (h : Bld w lo hi b 27 c) :
    Calls Try.prog 139 #[.pointer (some ⟨b, 0, none⟩), .int .i64 k, .int .i64 x, .int .i64 y] w fun e w' => e = .returned (.int .i64 (c.1 + c.2.1.length)) ∧ Bld w' lo hi b 27 (c.1, c.2.1 ++ [(k, x, y)], c.2.2) ∧ Below lo w w' ∧ KeepT 3 w w' := by
  obtain ⟨hlo, gsl, osl, hx, hg, ho, hob⟩ := h
  obtain ⟨i0, hif, hz0, hz1, hz2⟩ := info_parts infoGate
  obtain ⟨ga, gcap, hgs⟩ := own_shape hg
  obtain ⟨oa, ocap, hos⟩ := own_shape ho
  subst hgs hos
  obtain ⟨ins, gs, os⟩ := c
  simp only at *
  have hlt := hx.lt
  obtain ⟨c0, c1, c2⟩ := hx.cells
  have hh := hx.heap
  have hE := fun v8 w8 => bld_grown (k := k) (x := x) (y := y) (c := (ins, gs, os)) (v8 := v8) (w8 := w8) (e := 27) (by decide) (by decide) hlo hx hg ho hob
  have HE : Hid _ := hE
  have hga := hg.alloc (.cells #[.int .i64 k, .int .i64 x, .int .i64 y] 108)
  have hsa : lo ≤ (w.alloc (.cells #[.int .i64 k, .int .i64 x, .int .i64 y] 108)).heap.size := by rw [World.size_alloc]; omega
  clear hE hx hg ho hob
  go_enter Try.func139, Try.ntmps139
  go_wp2_with (at_builtin; refine wpList_append_own _ rfl _ _ 24 rfl lo 108 i0 (.agg #[.int .i64 0, .int .i64 0, .int .i64 0]) 3 24 Try.underlying24 hif hz0 hz1 hz2 rfl (by decide) _ _ _ rfl hga ⟨w.heap.size, 0, none⟩ 1 1 [.int .i64 k, .int .i64 x, .int .i64 y] rfl rfl (oneG_cells w k x y) (flat3_one [(k, x, y)]) (by unfold maxLen; omega) (by omega) hsa ?_)
  intro v8 w8 own8 grow8 _
  obtain ⟨hx8, hB, hBl, hK⟩ := HE.out v8 w8 own8 grow8
  obtain ⟨va, vcap, hv8⟩ := own_shape own8
  subst hv8
  clear c0 c1 c2 hh hlt
  have hlt := hx8.lt
  obtain ⟨c0, c1, c2⟩ := hx8.cells
  have hh := hx8.heap
  have hf1 := hx8.frozen 1
  have y8 := hx8.set1 (.slice va (gs.length + 1) vcap)
  have hlt9 := y8.lt
  obtain ⟨d0, d1, d2⟩ := y8.cells
  have hh9 := y8.heap
  have g2 := size_raw ins va (gs.length + 1) vcap (.slice oa os.length ocap) (by omega) (by omega) (by omega) (w8.setCell ⟨b, 1, none⟩ (.slice va (gs.length + 1) vcap))
  obtain ⟨V, hV⟩ : ∃ V : Int, ins + ((gs.length + 1 : Nat) : Int) = V := ⟨_, rfl⟩
  rw [hV] at g2
  have hV0 : 0 ≤ V := by omega
  have hV1 : V ≤ 10000 := by omega
  have HV2 : Hid (V - 1 = ins + gs.length) := by
    show V - 1 = ins + gs.length
    omega
  have HB : Hid _ := hB
  have HBl : Hid _ := hBl
  have HK : Hid _ := hK
  clear hB hBl hK own8 grow8 hga hx8 y8 HE hV
  go_wp2_with fail
  refine g2.mono ?_
  rintro e w9 ⟨rfl, hw9⟩
  have HB9 : Hid (Bld w9 lo hi b 27 (ins, gs ++ [(k, x, y)], os)) := by
    obtain ⟨h0, gsl, osl, h1, h2, h3, h4⟩ := HB.out
    show Bld w9 lo hi b 27 (ins, gs ++ [(k, x, y)], os)
    rw [hw9]
    exact ⟨h0, gsl, osl, h1.alloc _, h2.alloc _, h3.alloc _, h4⟩
  have HBl9 : Hid (Below lo w w9) := by
    show Below lo w w9
    rw [hw9]
    exact HBl.out.alloc (by have := HBl.out.size; have := hlt9; omega) _
  have HK9 : Hid (KeepT 3 w w9) := by
    show KeepT 3 w w9
    rw [hw9]
    exact HK.out.trans (KeepT.alloc _ _ _)
  clear g2 hw9 HB HBl HK
  go_wp2_with fail
  go_ret
  exact ⟨ret_int HV2.out, HB9.out, HBl9.out, HK9.out⟩
set_option maxRecDepth 100000 in
set_option maxHeartbeats 4000000 in
theorem gate_any (lo hi b : Nat) (c : Ci) (k x y : Int) (hI0 : 0 ≤ c.1) (hI1 : c.1 ≤ 16) (hn : c.2.1.length ≤ 1000) (w : World) (h : Bld w lo hi b 105 c) :
    Calls Try.prog 142 #[.pointer (some ⟨b, 0, none⟩), .int .i64 k, .int .i64 x, .int .i64 y] w fun e w' => e = .returned (.int .i64 (c.1 + c.2.1.length)) ∧ Bld w' lo hi b 105 (c.1, c.2.1 ++ [(k, x, y)], c.2.2) ∧ Below lo w w' ∧ KeepT 3 w w' := by
  obtain ⟨hlo, gsl, osl, hx, hg, ho, hob⟩ := h
  obtain ⟨i0, hif, hz0, hz1, hz2⟩ := info_parts infoGate
  obtain ⟨ga, gcap, hgs⟩ := own_shape hg
  obtain ⟨oa, ocap, hos⟩ := own_shape ho
  subst hgs hos
  obtain ⟨ins, gs, os⟩ := c
  simp only at *
  have hlt := hx.lt
  obtain ⟨c0, c1, c2⟩ := hx.cells
  have hh := hx.heap
  have hE := fun v8 w8 => bld_grown (k := k) (x := x) (y := y) (c := (ins, gs, os)) (v8 := v8) (w8 := w8) (e := 105) (by decide) (by decide) hlo hx hg ho hob
  have HE : Hid _ := hE
  have hga := hg.alloc (.cells #[.int .i64 k, .int .i64 x, .int .i64 y] 108)
  have hsa : lo ≤ (w.alloc (.cells #[.int .i64 k, .int .i64 x, .int .i64 y] 108)).heap.size := by rw [World.size_alloc]; omega
  clear hE hx hg ho hob
  go_enter Try.func142, Try.ntmps142
  go_wp2_with (at_builtin; refine wpList_append_own _ rfl _ _ 24 rfl lo 108 i0 (.agg #[.int .i64 0, .int .i64 0, .int .i64 0]) 3 24 Try.underlying24 hif hz0 hz1 hz2 rfl (by decide) _ _ _ rfl hga ⟨w.heap.size, 0, none⟩ 1 1 [.int .i64 k, .int .i64 x, .int .i64 y] rfl rfl (oneG_cells w k x y) (flat3_one [(k, x, y)]) (by unfold maxLen; omega) (by omega) hsa ?_)
  intro v8 w8 own8 grow8 _
  obtain ⟨hx8, hB, hBl, hK⟩ := HE.out v8 w8 own8 grow8
  obtain ⟨va, vcap, hv8⟩ := own_shape own8
  subst hv8
  clear c0 c1 c2 hh hlt
  have hlt := hx8.lt
  obtain ⟨c0, c1, c2⟩ := hx8.cells
  have hh := hx8.heap
  have hf1 := hx8.frozen 1
  have y8 := hx8.set1 (.slice va (gs.length + 1) vcap)
  have hlt9 := y8.lt
  obtain ⟨d0, d1, d2⟩ := y8.cells
  have hh9 := y8.heap
  have g2 := l4Wires_raw ins va (gs.length + 1) vcap (.slice oa os.length ocap) (by omega) (by omega) (by omega) (w8.setCell ⟨b, 1, none⟩ (.slice va (gs.length + 1) vcap))
  obtain ⟨V, hV⟩ : ∃ V : Int, ins + ((gs.length + 1 : Nat) : Int) = V := ⟨_, rfl⟩
  rw [hV] at g2
  have hV0 : 0 ≤ V := by omega
  have hV1 : V ≤ 10000 := by omega
  have HV2 : Hid (V - 1 = ins + gs.length) := by
    show V - 1 = ins + gs.length
    omega
  have HB : Hid _ := hB
  have HBl : Hid _ := hBl
  have HK : Hid _ := hK
  clear hB hBl hK own8 grow8 hga hx8 y8 HE hV
  go_wp2_with fail
  refine g2.mono ?_
  rintro e w9 ⟨rfl, hw9⟩
  have HB9 : Hid (Bld w9 lo hi b 105 (ins, gs ++ [(k, x, y)], os)) := by
    obtain ⟨h0, gsl, osl, h1, h2, h3, h4⟩ := HB.out
    show Bld w9 lo hi b 105 (ins, gs ++ [(k, x, y)], os)
    rw [hw9]
    exact ⟨h0, gsl, osl, h1.alloc _, h2.alloc _, h3.alloc _, h4⟩
  have HBl9 : Hid (Below lo w w9) := by
    show Below lo w w9
    rw [hw9]
    exact HBl.out.alloc (by have := HBl.out.size; have := hlt9; omega) _
  have HK9 : Hid (KeepT 3 w w9) := by
    show KeepT 3 w w9
    rw [hw9]
    exact HK.out.trans (KeepT.alloc _ _ _)
  clear g2 hw9 HB HBl HK
  go_wp2_with fail
  go_ret
  exact ⟨ret_int HV2.out, HB9.out, HBl9.out, HK9.out⟩
end Go.Proofs.Ytmjeaceabjinfaa
