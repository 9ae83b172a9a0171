/-
  A circuit that is drawn.
-/
import Derived.Test.YtpjllhlbdcanlaaDraw4
namespace Go.Proofs.Ytpjllhlbdcanlaa
open Go Go.RowKit
open M
set_option linter.unusedVariables false
set_option linter.unusedSimpArgs false

/-- a circuit that is being drawn at block P, by the cursor at block b -/
structure CS (u : World) (P b base B m : Nat) (sv : Value) (ins : Int) (gsl osl : Value) (G : List Gt) (os : List Int) (w : World) : Prop where
  box : Box3 w P 27 (.int .i64 ins) gsl osl
  rows : w.ownsRow base 128 3 gsl G.length (flat3 G)
  outs : w.ownsRow base 3 1 osl os.length (cellsI os)
  frame : But2 P b u w
  cur : Cur B b m sv w
theorem CS.only {u w w' : World} {P b base B m m' : Nat} {sv : Value} {ins : Int} {gsl osl : Value} {G : List Gt} {os : List Int} (h : CS u P b base B m sv ins gsl osl G os w) (ho : Only b w w') (hc : Cur B b m' sv w') (hP : P ≠ b) (hb : b < base) : CS u P b base B m' sv ins gsl osl G os w' :=
  ⟨ho.box h.box hP, ho.keeps h.rows hb, ho.keeps h.outs hb, ⟨ho.os.trans h.frame.os, ho.tape.trans h.frame.tape, ho.output.trans h.frame.output, Nat.le_trans h.frame.size ho.size, fun i hi h1 h2 => (ho.block i h2 (Nat.lt_of_lt_of_le hi h.frame.size)).trans (h.frame.block i hi h1 h2)⟩, hc⟩
theorem CS.alloc {u w : World} {P b base B m : Nat} {sv : Value} {ins : Int} {gsl osl : Value} {G : List Gt} {os : List Int} (h : CS u P b base B m sv ins gsl osl G os w) (o : Obj) : CS u P b base B m sv ins gsl osl G os (w.alloc o) :=
  ⟨h.box.alloc o, h.rows.alloc o, h.outs.alloc o, h.frame.alloc o, h.cur.alloc o⟩
theorem CS.drew {u w : World} {P b base B m : Nat} {sv : Value} {ins : Int} {gsl osl : Value} {G : List Gt} {os : List Int} (h : CS u P b base B m sv ins gsl osl G os w) : CS u P b base B m sv ins gsl osl G os w.drew :=
  ⟨⟨h.box.heap⟩, h.rows, h.outs, h.frame.below (Below.refl w.heap.size w).drew h.frame.size, h.cur.drew⟩
/-- a local gate at block g is set -/
theorem CS.set {u w : World} {P b base B m g o : Nat} {v : Value} {sv : Value} {ins : Int} {gsl osl : Value} {G : List Gt} {os : List Int} (h : CS u P b base B m sv ins gsl osl G os w) (hP : g ≠ P) (hb : b < g) (hu : u.heap.size ≤ g) (h1 : ∀ k, gsl.ownBlock = some k → k < g) (h2 : ∀ k, osl.ownBlock = some k → k < g) : CS u P b base B m sv ins gsl osl G os (w.setCell ⟨g, o, none⟩ v) :=
  ⟨h.box.other (fun e => hP e.symm) v, own_keep h.rows (fun k hk => Below.heap_setCell _ _ _ _ (by show k ≠ g; have := h1 k hk; omega)), own_keep h.outs (fun k hk => Below.heap_setCell _ _ _ _ (by show k ≠ g; have := h2 k hk; omega)), h.frame.set (Or.inr (Or.inr hu)), h.cur.below ((Below.refl _ _).setCell (by show b + 1 ≤ g; omega) _)⟩
/-- a gate is appended -/
theorem CS.laid {u w w8 : World} {P b base B m : Nat} {sv v8 : Value} {ins k x y : Int} {gsl osl : Value} {G : List Gt} {os : List Int} (h : CS u P b base B m sv ins gsl osl G os w) (hbP : b < P) (hPb : P < base) (hub : u.heap.size ≤ base)
    (own8 : w8.ownsRow base 128 3 v8 (G.length + 1) (flat3 G ++ [.int .i64 k, .int .i64 x, .int .i64 y])) (grow8 : (w.alloc (.cells #[.int .i64 k, .int .i64 x, .int .i64 y] 128)).grownBy w8 gsl.ownBlock) :
    Box3 w8 P 27 (.int .i64 ins) gsl osl ∧ CS u P b base B m sv ins v8 osl (G ++ [(k, x, y)]) os (w8.setCell ⟨P, 1, none⟩ v8) := by
  have ha := h.alloc (.cells #[.int .i64 k, .int .i64 x, .int .i64 y] 128)
  have hgr := grow_row (w' := w8) ha.rows
  have hx8 := ha.box.grown grow8 (fun e => by have := hgr _ e; omega)
  have hf8 := ha.frame.grown grow8 (fun k hk => Nat.le_trans hub (hgr k hk))
  have hc8 := ha.cur.grown grow8 (fun k hk => by have := hgr k hk; omega)
  refine ⟨hx8, hx8.set1 v8, ?_, ?_, hf8.set (Or.inl rfl), hc8.below ((Below.refl _ _).setCell (by show b + 1 ≤ P; omega) _)⟩
  · have h1 := own_set (b := P) (o := 1) (u := v8) own8 hPb
    rw [List.length_append, flat3_append]
    exact h1
  · exact own_set (own_keepT ha.outs (KeepT.grown ha.rows grow8 (by decide))) hPb
/-- the outs are set -/
theorem CS.setOuts {u w : World} {P b base B m : Nat} {sv v : Value} {ins : Int} {gsl osl : Value} {G : List Gt} {os t : List Int} (h : CS u P b base B m sv ins gsl osl G os w) (ho : w.ownsRow base 3 1 v t.length (cellsI t)) (hbP : b < P) (hPb : P < base) : CS u P b base B m sv ins gsl v G t (w.setCell ⟨P, 2, none⟩ v) :=
  ⟨h.box.set2 v, own_set h.rows hPb, own_set ho hPb, h.frame.set (Or.inl rfl), h.cur.below ((Below.refl _ _).setCell (by show b + 1 ≤ P; omega) _)⟩
theorem CS.setIns {u w : World} {P b base B m : Nat} {sv : Value} {ins n : Int} {gsl osl : Value} {G : List Gt} {os : List Int} (h : CS u P b base B m sv ins gsl osl G os w) (hbP : b < P) (hPb : P < base) : CS u P b base B m sv n gsl osl G os (w.setCell ⟨P, 0, none⟩ (.int .i64 n)) :=
  ⟨h.box.set0 _, own_set h.rows hPb, own_set h.outs hPb, h.frame.set (Or.inl rfl), h.cur.below ((Below.refl _ _).setCell (by show b + 1 ≤ P; omega) _)⟩
theorem CS.appOuts {u w w8 : World} {P b base B m : Nat} {sv v8 : Value} {ins n : Int} {gsl osl : Value} {G : List Gt} {os : List Int} (h : CS u P b base B m sv ins gsl osl G os w) (hbP : b < P) (hPb : P < base) (hub : u.heap.size ≤ base)
    (own8 : w8.ownsRow base 3 1 v8 (os.length + 1) (cellsI os ++ [.int .i64 n])) (grow8 : (w.alloc (.cells #[.int .i64 n] 3)).grownBy w8 osl.ownBlock) :
    Box3 w8 P 27 (.int .i64 ins) gsl osl ∧ CS u P b base B m sv ins gsl v8 G (os ++ [n]) (w8.setCell ⟨P, 2, none⟩ v8) := by
  have ha := h.alloc (.cells #[.int .i64 n] 3)
  have hgr := grow_row (w' := w8) ha.outs
  have hx8 := ha.box.grown grow8 (fun e => by have := hgr _ e; omega)
  have hf8 := ha.frame.grown grow8 (fun k hk => Nat.le_trans hub (hgr k hk))
  have hc8 := ha.cur.grown grow8 (fun k hk => by have := hgr k hk; omega)
  refine ⟨hx8, hx8.set2 v8, ?_, ?_, hf8.set (Or.inl rfl), hc8.below ((Below.refl _ _).setCell (by show b + 1 ≤ P; omega) _)⟩
  · exact own_set (own_keepT ha.rows (KeepT.grown ha.outs grow8 (by decide))) hPb
  · have h1 := own_set (b := P) (o := 2) (u := v8) own8 hPb
    unfold cellsI at *
    rw [List.length_append, List.map_append]
    exact h1
/-- how long the slice of a cell is -/
def lenAt (v : Option Value) : Nat := match v with | some (.slice _ n _) => n | _ => 0
/-- what is drawn is handed out -/
theorem CS.done {w u wr : World} {P b base B m : Nat} {sv : Value} {ins : Int} {gsl osl : Value} {G : List Gt} {os : List Int} (h : CS u P b base B m sv ins gsl osl G os wr) (hon : Only b w u) (hR : Box3 u w.heap.size 27 (.int .i64 0) (.slice none 0 0) (.slice none 0 0)) (hb : b < w.heap.size) (hP : w.heap.size < P) (hPb : P < base) :
    Box3 wr w.heap.size 27 (.int .i64 0) (.slice none 0 0) (.slice none 0 0) ∧
    Hid ((((wr.setCell ⟨w.heap.size, 0, none⟩ (.int .i64 ins)).setCell ⟨w.heap.size, 1, none⟩ gsl).setCell ⟨w.heap.size, 2, none⟩ osl).heap[w.heap.size]? = some (.cells #[.int .i64 ins, gsl, osl] 27 (0, 0)) ∧ (((wr.setCell ⟨w.heap.size, 0, none⟩ (.int .i64 ins)).setCell ⟨w.heap.size, 1, none⟩ gsl).setCell ⟨w.heap.size, 2, none⟩ osl).ownsRow w.heap.size 128 3 gsl G.length (flat3 G) ∧ (((wr.setCell ⟨w.heap.size, 0, none⟩ (.int .i64 ins)).setCell ⟨w.heap.size, 1, none⟩ gsl).setCell ⟨w.heap.size, 2, none⟩ osl).ownsRow w.heap.size 3 1 osl os.length (cellsI os) ∧ Only b w (((wr.setCell ⟨w.heap.size, 0, none⟩ (.int .i64 ins)).setCell ⟨w.heap.size, 1, none⟩ gsl).setCell ⟨w.heap.size, 2, none⟩ osl) ∧ Cur B b m sv (((wr.setCell ⟨w.heap.size, 0, none⟩ (.int .i64 ins)).setCell ⟨w.heap.size, 1, none⟩ gsl).setCell ⟨w.heap.size, 2, none⟩ osl)) := by
  have hRr := hR.but h.frame (by omega) (by omega)
  have hs := hon.size
  have hon2 : Only b w wr := ⟨h.frame.os.trans hon.os, h.frame.tape.trans hon.tape, h.frame.output.trans hon.output, Nat.le_trans hs h.frame.size, fun i hi hlt => (h.frame.block i (by omega) (by omega) (by omega)).trans (hon.block i hi hlt)⟩
  have hset : ∀ (v : World) (o : Nat) (x : Value), Only b w v → Only b w (v.setCell ⟨w.heap.size, o, none⟩ x) := fun v o x hv => ⟨hv.os, hv.tape, hv.output, by simpa [World.setCell] using hv.size, fun i hi hlt => (Below.heap_setCell _ _ _ _ (by show i ≠ w.heap.size; omega)).trans (hv.block i hi hlt)⟩
  have hcur : Below (b + 1) wr (((wr.setCell ⟨w.heap.size, 0, none⟩ (.int .i64 ins)).setCell ⟨w.heap.size, 1, none⟩ gsl).setCell ⟨w.heap.size, 2, none⟩ osl) := (((Below.refl _ _).setCell (p := ⟨w.heap.size, 0, none⟩) (by show b + 1 ≤ w.heap.size; omega) _).setCell (p := ⟨w.heap.size, 1, none⟩) (by show b + 1 ≤ w.heap.size; omega) _).setCell (p := ⟨w.heap.size, 2, none⟩) (by show b + 1 ≤ w.heap.size; omega) _
  exact ⟨hRr, (((hRr.set0 _).set1 _).set2 _).heap, own_base (own_set (own_set (own_set h.rows (by omega)) (by omega)) (by omega)) (by omega), own_base (own_set (own_set (own_set h.outs (by omega)) (by omega)) (by omega)) (by omega), hset _ _ _ (hset _ _ _ (hset _ _ _ hon2)), h.cur.below hcur⟩
/-- what circuit answers -/
def CircOut (B b m : Nat) (sv : Value) (w : World) (e : Ending) (w' : World) : Prop := ∃ (gv ov : Value) (c : Ci), e = .returned (.agg #[.int .i64 c.1, gv, ov]) ∧ ((-1 ≤ c.1 ∧ c.1 ≤ 17) ∧ c.2.1.length ≤ 301 ∧ c.2.2.length ≤ 16 ∧ (∀ g ∈ c.2.1, smG 1000 g)) ∧ w'.ownsRow w.heap.size 128 3 gv c.2.1.length (flat3 c.2.1) ∧ w'.ownsRow w.heap.size 3 1 ov c.2.2.length (cellsI c.2.2) ∧ Only b w w' ∧ Cur B b (m + 10000) sv w'
set_option maxRecDepth 100000 in
set_option maxHeartbeats 8000000 in
theorem circuit_any (B b m : Nat) (sv : Value) (w : World) (h : Cur B b m sv w) (hm : m ≤ 4611686018427300000) :
    Calls Try.prog 88 #[.pointer (some ⟨b, 0, none⟩)] w fun e w' => CircOut B b m sv w e w' := by
  have hlies := h.lies
  have hba : Cur B b m sv (w.alloc (.cells #[.int .i64 0, .slice none 0 0, .slice none 0 0] 27)) := h.alloc _
  have hoa : Only b w (w.alloc (.cells #[.int .i64 0, .slice none 0 0, .slice none 0 0] 27)) := (Only.refl _ _).alloc _
  have x1 := box3_alloc w 27 (.int .i64 0) (.slice none 0 0) (.slice none 0 0)
  have g1 := pick_all B b m sv 8 (by omega) _ hba (by omega)
  have hsa : (w.alloc (.cells #[.int .i64 0, .slice none 0 0, .slice none 0 0] 27)).heap.size = w.heap.size + 1 := by simp only [World.size_alloc]
  obtain ⟨j0, hjf, hy0, hy1, hy2⟩ := info_parts infoGate
  obtain ⟨i0, hif, hz0, hz1, hz2⟩ := info_parts infoInt
  go_enter Try.func88, Try.ntmps88
  go_wp2_with fail
  refine g1.mono ?_
  rintro e w1 ⟨x, ⟨hx0, hx1⟩, rfl, ho1, hc1⟩
  have y1 := ho1.box x1 (by omega)
  have hbb := hc1.lies
  have hs1 := ho1.size
  rw [hsa] at hs1
  have hon1 : Only b w w1 := hoa.trans ho1
  clear g1 hba hoa x1 ho1 hsa h
  obtain ⟨ins, hins⟩ : ∃ ins : Int, 1 + x = ins := ⟨_, rfl⟩
  have hi0 : 1 ≤ ins := by omega
  have hi1 : ins ≤ 8 := by omega
  have hc2 := hc1.alloc (.cells #[.int .i64 ins, .slice none 0 0, .slice none 0 0] 27)
  have hon2 : Only b w (w1.alloc (.cells #[.int .i64 ins, .slice none 0 0, .slice none 0 0] 27)) := hon1.alloc _
  have y1' := y1.alloc (.cells #[.int .i64 ins, .slice none 0 0, .slice none 0 0] 27)
  have y2' := box3_alloc w1 27 (.int .i64 ins) (.slice none 0 0) (.slice none 0 0)
  have g2 := pick_all B b (m + 2) sv 20 (by omega) _ hc2 (by omega)
  go_wp2_with fail
  refine g2.mono ?_
  have hsb : (w1.alloc (.cells #[.int .i64 ins, .slice none 0 0, .slice none 0 0] 27)).heap.size = w1.heap.size + 1 := by simp only [World.size_alloc]
  rintro e w2 ⟨n0', ⟨hn0, hn1⟩, rfl, ho2, hc3⟩
  have hs2 := ho2.size
  rw [hsb] at hs2
  obtain ⟨n0, rfl⟩ := Int.eq_ofNat_of_zero_le hn0
  have hn20 : n0 ≤ 20 := by omega
  have HR : Hid (Box3 w2 w.heap.size 27 (.int .i64 0) (.slice none 0 0) (.slice none 0 0)) := ho2.box y1' (by omega)
  obtain ⟨P, hP⟩ : ∃ P, w1.heap.size = P := ⟨_, rfl⟩
  rw [hP] at y2' hs2 hs1
  have HC0 : Hid (CS w2 P b w2.heap.size B (m + 2 + 2) sv ins (.slice none 0 0) (.slice none 0 0) [] [] w2) := ⟨ho2.box y2' (by omega), World.ownsRow_nil _ _ _ _, World.ownsRow_nil _ _ _ _, But2.refl _ _ _, hc3⟩
  have HON : Hid (Only b w w2) := hon2.trans ho2
  have hbP : b < P := by omega
  have hb2 : b < w2.heap.size := by omega
  rw [hP]
  clear g2 hc2 hon2 y1 y1' y2' ho2 hc3 hc1 hon1 hsb hins hx0 hx1 hn0 hn1 hbb hP
  go_wp2_with fail
  go_loopw [4] (fun vn wr => ∃ (j : Nat) (gsl : Value) (G : List Gt), j ≤ n0 ∧ vn = .int .i64 ((n0 : Int) - j) ∧ G.length = j ∧ Hid (∀ g ∈ G, smG 1000 g) ∧ Hid (CS w2 P b w2.heap.size B (m + 4 + 6 * j) sv ins gsl (.slice none 0 0) G [] wr)) (fun vn _ => (intOf vn).toNat)
  case atStart => exact ⟨0, _, [], by omega, by simp, rfl, (fun g hg => by cases hg), HC0⟩
  case round =>
    clear HC0
    obtain ⟨j, gsl, G, hj, rfl, hGl, HS, HC⟩ := hrel
    have hszr := HC.out.frame.size
    by_cases hlt : j < n0
    · have g1 := pick_any B b (m + 4 + 6 * j) sv 5 (by omega) (by omega) wr HC.out.cur (by omega)
      have hpos : (0 : Int) < (n0 : Int) - j := by omega
      obtain ⟨ga, gcap, hgs⟩ := own_shape HC.out.rows
      subst hgs
      go_wp2_with fail
      refine g1.mono ?_
      rintro e w3 ⟨y, ⟨hy0', hy1'⟩, rfl, ho3, hc3⟩
      have C3 := HC.out.only ho3 hc3 (by omega) hb2
      have hs3 := ho3.size
      have hrb : ∀ k, (Value.slice ga G.length gcap).ownBlock = some k → k < w3.heap.size := fun k hk => (own_block C3.rows hk).2
      clear g1 ho3 hc3 HC
      have C3a := C3.alloc (.cells #[.int .i64 (1 + y), .int .i64 0, .int .i64 0] 128)
      have xg := box3_alloc w3 128 (.int .i64 (1 + y)) (.int .i64 0) (.int .i64 0)
      have hsg : (w3.alloc (.cells #[.int .i64 (1 + y), .int .i64 0, .int .i64 0] 128)).heap.size = w3.heap.size + 1 := by simp only [World.size_alloc]
      have hgP : w3.heap.size ≠ P := by omega
      by_cases hy : y = 0
      · subst hy
        have g2 := pick_any B b (m + 4 + 6 * j + 2) sv 2 (by omega) (by omega) _ C3a.cur (by omega)
        go_wp2_with fail
        refine g2.mono ?_
        rintro e w4 ⟨z, ⟨hz0', hz1'⟩, rfl, ho4, hc4⟩
        have C4 := C3a.only ho4 hc4 (by omega) hb2
        have xg4 := ho4.box xg (by omega)
        have hs4 := ho4.size
        rw [hsg] at hs4
        have CF := C4.set (g := w3.heap.size) (o := 1) (v := .int .i64 z) hgP (by omega) (by omega) hrb (fun k hk => by cases hk)
        have xgF := xg4.set1 (.int .i64 z)
        obtain ⟨q0, q1, q2⟩ := xg4.cells
        have qh := xg4.heap
        have ql := xg4.lt
        have qf := xg4.frozen 1
        obtain ⟨t0, t1, t2⟩ := xgF.cells
        have th := xgF.heap
        have tl := xgF.lt
        obtain ⟨p0, p1, p2⟩ := CF.box.cells
        have ph := CF.box.heap
        have pl := CF.box.lt
        have HROW := CF.rows.alloc (.cells #[.int .i64 1, .int .i64 z, .int .i64 0] 128)
        have HSZB : w2.heap.size ≤ ((w4.setCell ⟨w3.heap.size, 1, none⟩ (.int .i64 z)).alloc (.cells #[.int .i64 1, .int .i64 z, .int .i64 0] 128)).heap.size := by
          rw [World.size_alloc]
          simp [World.setCell]
          omega
        rw [hGl] at HROW p1
        clear g2 C3 C3a xg C4 xg4 xgF ho4 hc4 hrb
        go_wp2_with (at_builtin; refine wpList_append_own _ rfl _ _ 24 rfl w2.heap.size 128 j0 (.agg #[.int .i64 0, .int .i64 0, .int .i64 0]) 3 24 Try.underlying24 hjf hy0 hy1 hy2 rfl (by decide) _ _ _ rfl HROW ⟨(w4.setCell ⟨w3.heap.size, 1, none⟩ (.int .i64 z)).heap.size, 0, none⟩ 1 1 [.int .i64 1, .int .i64 z, .int .i64 0] (by simp [Act.eval, Act.put, World.setCell]) rfl (oneG_cells (w4.setCell ⟨w3.heap.size, 1, none⟩ (.int .i64 z)) 1 z 0) (flat3_one [(1, z, 0)]) (by unfold maxLen; omega) (by omega) HSZB ?_)
        intro v8 w8 own8 grow8 _
        rw [← hGl] at own8 grow8
        obtain ⟨hx8, C8⟩ := CF.laid hbP (by omega) (Nat.le_refl _) own8 grow8
        obtain ⟨va, vcap, hv8⟩ := own_shape own8
        subst hv8
        obtain ⟨r0, r1, r2⟩ := hx8.cells
        have rh := hx8.heap
        have rl := hx8.lt
        have rf1 := hx8.frozen 1
        have HC8 : Hid (CS w2 P b w2.heap.size B (m + 4 + 6 * (j + 1)) sv ins _ (.slice none 0 0) (G ++ [(1, z, 0)]) [] _) := ⟨C8.box, C8.rows, C8.outs, C8.frame, C8.cur.more (by omega)⟩
        have HS8 : Hid (∀ g ∈ G ++ [((1 : Int), (z : Int), (0 : Int))], smG 1000 g) := by
          intro g hg
          simp only [List.mem_append, List.mem_singleton] at hg
          rcases hg with hg | rfl
          · exact HS.out g hg
          · unfold smG; simp only; omega
        have hG8 : (G ++ [((1 : Int), (z : Int), (0 : Int))]).length = j + 1 := by rw [List.length_append, hGl]; rfl
        rw [hGl] at HC8
        clear own8 grow8 hx8 C8 CF HROW HSZB HS
        go_wp2_with fail
        go_roundw
        case rel => exact ⟨j + 1, _, _, by omega, by go_num, hG8, HS8, HC8⟩
        case measure => simp [intOf]; omega
      · obtain ⟨K, hK⟩ : ∃ K : Int, 1 + y = K := ⟨_, rfl⟩
        rw [hK] at C3a xg hsg
        have hK1 : (K == 1) = false := beq_eq_false_iff_ne.2 (by omega)
        obtain ⟨N, hN⟩ : ∃ N : Int, ins + (G.length : Int) = N := ⟨_, rfl⟩
        have hN1 : 1 ≤ N := by omega
        have hN2 : N ≤ 100 := by omega
        have GW : Hid (∀ w5 : World, Calls Try.prog 93 #[.agg #[.int .i64 ins, .slice ga G.length gcap, .slice none 0 0]] w5 fun e w' => e = .returned (.int .i64 N) ∧ w' = w5.alloc (.cells #[.int .i64 ins, .slice ga G.length gcap, .slice none 0 0] 27)) := fun w5 => by
          have g := l4Wires_raw ins ga G.length gcap (.slice none 0 0) (by omega) (by omega) (by omega) w5
          rw [hN] at g
          exact g
        rw [hGl] at GW
        obtain ⟨p0, p1, p2⟩ := C3a.box.cells
        have ph := C3a.box.heap
        have pl := C3a.box.lt
        rw [hGl] at p1 ph
        obtain ⟨q0, q1, q2⟩ := xg.cells
        have qh := xg.heap
        have ql := xg.lt
        clear hN
        go_wp2_with fail
        refine (GW.out _).mono ?_
        rintro e w3b ⟨rfl, hw3b⟩
        have C3b : CS w2 P b w2.heap.size B (m + 4 + 6 * j + 2) sv ins (.slice ga G.length gcap) (.slice none 0 0) G [] w3b := by
          rw [hw3b]
          exact C3a.alloc _
        have xgb : Box3 w3b w3.heap.size 128 (.int .i64 K) (.int .i64 0) (.int .i64 0) := by
          rw [hw3b]
          exact xg.alloc _
        have hsb' : w3.heap.size + 1 ≤ w3b.heap.size := by
          rw [hw3b, World.size_alloc]
          omega
        clear hw3b C3 C3a xg p0 p1 p2 ph pl q0 q1 q2 qh ql
        have g2 := pick_any B b (m + 4 + 6 * j + 2) sv N (by omega) (by omega) _ C3b.cur (by omega)
        go_wp2_with fail
        refine g2.mono ?_
        rintro e w4 ⟨z, ⟨hz0', hz1'⟩, rfl, ho4, hc4⟩
        have C4 := C3b.only ho4 hc4 (by omega) hb2
        have xg4 := ho4.box xgb (by omega)
        have hs4 := ho4.size
        have CZ := C4.set (g := w3.heap.size) (o := 1) (v := .int .i64 z) hgP (by omega) (by omega) hrb (fun k hk => by cases hk)
        have xgZ := xg4.set1 (.int .i64 z)
        obtain ⟨q0, q1, q2⟩ := xg4.cells
        have qh := xg4.heap
        have ql := xg4.lt
        have qf := xg4.frozen 1
        obtain ⟨t0, t1, t2⟩ := xgZ.cells
        have th := xgZ.heap
        have tl := xgZ.lt
        obtain ⟨p0, p1, p2⟩ := CZ.box.cells
        have ph := CZ.box.heap
        have pl := CZ.box.lt
        rw [hGl] at p1 ph
        by_cases hK2 : K = 2
        · subst hK2
          have CF := CZ
          have HROW := CF.rows.alloc (.cells #[.int .i64 2, .int .i64 z, .int .i64 0] 128)
          have HSZB : w2.heap.size ≤ ((w4.setCell ⟨w3.heap.size, 1, none⟩ (.int .i64 z)).alloc (.cells #[.int .i64 2, .int .i64 z, .int .i64 0] 128)).heap.size := by
            rw [World.size_alloc]
            simp [World.setCell]
            omega
          rw [hGl] at HROW
          clear g2 C3b xgb C4 xg4 xgZ ho4 hc4 hrb CZ GW
          go_wp2_with (at_builtin; refine wpList_append_own _ rfl _ _ 24 rfl w2.heap.size 128 j0 (.agg #[.int .i64 0, .int .i64 0, .int .i64 0]) 3 24 Try.underlying24 hjf hy0 hy1 hy2 rfl (by decide) _ _ _ rfl HROW ⟨(w4.setCell ⟨w3.heap.size, 1, none⟩ (.int .i64 z)).heap.size, 0, none⟩ 1 1 [.int .i64 2, .int .i64 z, .int .i64 0] (by simp [Act.eval, Act.put, World.setCell]) rfl (oneG_cells (w4.setCell ⟨w3.heap.size, 1, none⟩ (.int .i64 z)) 2 z 0) (flat3_one [(2, z, 0)]) (by unfold maxLen; omega) (by omega) HSZB ?_)
          intro v8 w8 own8 grow8 _
          rw [← hGl] at own8 grow8
          obtain ⟨hx8, C8⟩ := CF.laid hbP (by omega) (Nat.le_refl _) own8 grow8
          obtain ⟨va, vcap, hv8⟩ := own_shape own8
          subst hv8
          obtain ⟨r0, r1, r2⟩ := hx8.cells
          have rh := hx8.heap
          have rl := hx8.lt
          have rf1 := hx8.frozen 1
          have HC8 : Hid (CS w2 P b w2.heap.size B (m + 4 + 6 * (j + 1)) sv ins _ (.slice none 0 0) (G ++ [(2, z, 0)]) [] _) := ⟨C8.box, C8.rows, C8.outs, C8.frame, C8.cur.more (by omega)⟩
          have HS8 : Hid (∀ g ∈ G ++ [((2 : Int), (z : Int), (0 : Int))], smG 1000 g) := by
            intro g hg
            simp only [List.mem_append, List.mem_singleton] at hg
            rcases hg with hg | rfl
            · exact HS.out g hg
            · unfold smG; simp only; omega
          have hG8 : (G ++ [((2 : Int), (z : Int), (0 : Int))]).length = j + 1 := by rw [List.length_append, hGl]; rfl
          rw [hGl] at HC8
          clear own8 grow8 hx8 C8 CF HROW HSZB HS
          go_wp2_with fail
          go_roundw
          case rel => exact ⟨j + 1, _, _, by omega, by go_num, hG8, HS8, HC8⟩
          case measure => simp [intOf]; omega
        · have hKg : (2 : Int) < K := by omega
          clear g2 C3b xgb C4 xg4 ho4 hc4
          go_wp2_with fail
          refine (GW.out _).mono ?_
          rintro e w5 ⟨rfl, hw5⟩
          have C5 : CS w2 P b w2.heap.size B (m + 4 + 6 * j + 2 + 2) sv ins (.slice ga G.length gcap) (.slice none 0 0) G [] w5 := by
            rw [hw5]
            exact CZ.alloc _
          have xg5 : Box3 w5 w3.heap.size 128 (.int .i64 K) (.int .i64 z) (.int .i64 0) := by
            rw [hw5]
            exact xgZ.alloc _
          have hs5 : w3.heap.size + 1 ≤ w5.heap.size := by
            rw [hw5, World.size_alloc]
            simp [World.setCell]
            omega
          clear hw5 CZ xgZ p0 p1 p2 ph pl q0 q1 q2 qh ql qf t0 t1 t2 th tl
          have g6 := pick_any B b (m + 4 + 6 * j + 2 + 2) sv N (by omega) (by omega) _ C5.cur (by omega)
          go_wp2_with fail
          refine g6.mono ?_
          rintro e w6 ⟨zb, ⟨hb0', hb1'⟩, rfl, ho6, hc6⟩
          have C6 := C5.only ho6 hc6 (by omega) hb2
          have xg6 := ho6.box xg5 (by omega)
          have hs6 := ho6.size
          have CF := C6.set (g := w3.heap.size) (o := 2) (v := .int .i64 zb) hgP (by omega) (by omega) hrb (fun k hk => by cases hk)
          have xgF := xg6.set2 (.int .i64 zb)
          obtain ⟨q0, q1, q2⟩ := xg6.cells
          have qh := xg6.heap
          have ql := xg6.lt
          have qf := xg6.frozen 2
          obtain ⟨t0, t1, t2⟩ := xgF.cells
          have th := xgF.heap
          have tl := xgF.lt
          obtain ⟨p0, p1, p2⟩ := CF.box.cells
          have ph := CF.box.heap
          have pl := CF.box.lt
          have HROW := CF.rows.alloc (.cells #[.int .i64 K, .int .i64 z, .int .i64 zb] 128)
          have HSZB : w2.heap.size ≤ ((w6.setCell ⟨w3.heap.size, 2, none⟩ (.int .i64 zb)).alloc (.cells #[.int .i64 K, .int .i64 z, .int .i64 zb] 128)).heap.size := by
            rw [World.size_alloc]
            simp [World.setCell]
            omega
          rw [hGl] at HROW p1 ph
          clear g6 C5 xg5 C6 xg6 xgF ho6 hc6 hrb GW
          go_wp2_with (at_builtin; refine wpList_append_own _ rfl _ _ 24 rfl w2.heap.size 128 j0 (.agg #[.int .i64 0, .int .i64 0, .int .i64 0]) 3 24 Try.underlying24 hjf hy0 hy1 hy2 rfl (by decide) _ _ _ rfl HROW ⟨(w6.setCell ⟨w3.heap.size, 2, none⟩ (.int .i64 zb)).heap.size, 0, none⟩ 1 1 [.int .i64 K, .int .i64 z, .int .i64 zb] (by simp [Act.eval, Act.put, World.setCell]) rfl (oneG_cells (w6.setCell ⟨w3.heap.size, 2, none⟩ (.int .i64 zb)) (K) z zb) (flat3_one [(K, z, zb)]) (by unfold maxLen; omega) (by omega) HSZB ?_)
          intro v8 w8 own8 grow8 _
          rw [← hGl] at own8 grow8
          obtain ⟨hx8, C8⟩ := CF.laid hbP (by omega) (Nat.le_refl _) own8 grow8
          obtain ⟨va, vcap, hv8⟩ := own_shape own8
          subst hv8
          obtain ⟨r0, r1, r2⟩ := hx8.cells
          have rh := hx8.heap
          have rl := hx8.lt
          have rf1 := hx8.frozen 1
          have HC8 : Hid (CS w2 P b w2.heap.size B (m + 4 + 6 * (j + 1)) sv ins _ (.slice none 0 0) (G ++ [(K, z, zb)]) [] _) := ⟨C8.box, C8.rows, C8.outs, C8.frame, C8.cur.more (by omega)⟩
          have HS8 : Hid (∀ g ∈ G ++ [((K : Int), (z : Int), (zb : Int))], smG 1000 g) := by
            intro g hg
            simp only [List.mem_append, List.mem_singleton] at hg
            rcases hg with hg | rfl
            · exact HS.out g hg
            · unfold smG; simp only; omega
          have hG8 : (G ++ [((K : Int), (z : Int), (zb : Int))]).length = j + 1 := by rw [List.length_append, hGl]; rfl
          rw [hGl] at HC8
          clear own8 grow8 hx8 C8 CF HROW HSZB HS
          go_wp2_with fail
          go_roundw
          case rel => exact ⟨j + 1, _, _, by omega, by go_num, hG8, HS8, HC8⟩
          case measure => simp [intOf]; omega
    · obtain rfl : j = n0 := by omega
      have hz : ((j : Int) - j) = 0 := by omega
      rw [hz]
      obtain ⟨ga, gcap, hgs⟩ := own_shape HC.out.rows
      subst hgs
      obtain ⟨N, hN⟩ : ∃ N : Int, ins + (G.length : Int) = N := ⟨_, rfl⟩
      have hN1 : 1 ≤ N := by omega
      have hN2 : N ≤ 100 := by omega
      have GW : Hid (∀ (o : Value) (w5 : World), Calls Try.prog 93 #[.agg #[.int .i64 ins, .slice ga G.length gcap, o]] w5 fun e w' => e = .returned (.int .i64 N) ∧ w' = w5.alloc (.cells #[.int .i64 ins, .slice ga G.length gcap, o] 27)) := fun o w5 => by
        have g := l4Wires_raw ins ga G.length gcap o (by omega) (by omega) (by omega) w5
        rw [hN] at g
        exact g
      rw [hGl] at GW
      obtain ⟨p0, p1, p2⟩ := HC.out.box.cells
      have ph := HC.out.box.heap
      have pl := HC.out.box.lt
      rw [hGl] at p1 ph
      clear hN
      go_wp2_with fail
      refine (GW.out _ _).mono ?_
      rintro e w5 ⟨rfl, hw5⟩
      have C5 : CS w2 P b w2.heap.size B (m + 4 + 6 * j) sv ins (.slice ga G.length gcap) (.slice none 0 0) G [] w5 := by
        rw [hw5]
        exact HC.out.alloc _
      clear hw5 p0 p1 p2 ph pl
      have g6 := pick_any B b (m + 4 + 6 * j) sv 5 (by omega) (by omega) _ C5.cur (by omega)
      go_wp2_with fail
      refine g6.mono ?_
      rintro e w6 ⟨many', ⟨hm0, hm1⟩, rfl, ho6, hc6⟩
      have C6 := C5.only ho6 hc6 (by omega) hb2
      obtain ⟨many, rfl⟩ := Int.eq_ofNat_of_zero_le hm0
      have g7 := wires_any B b (m + 4 + 6 * j + 2) sv N (by omega) many (by omega) w6 C6.cur (by omega)
      have hs6 := C6.frame.size
      clear g6 C5 ho6 hc6
      go_wp2_with fail
      refine g7.mono ?_
      rintro e w7 ⟨r, os, rfl, hosl, hosb, hor, ho7, hc7⟩
      subst hosl
      have C7 := C6.only ho7 hc7 (by omega) hb2
      obtain ⟨oa, ocap, hoa⟩ := own_shape hor
      subst hoa
      have C8 := C7.setOuts (own_base hor hs6) hbP (by omega)
      obtain ⟨p0, p1, p2⟩ := C7.box.cells
      have ph := C7.box.heap
      have pl := C7.box.lt
      have pf := C7.box.frozen 2
      have g8 := pick_any B b (m + 4 + 6 * j + 2 + 2 * os.length) sv 30 (by omega) (by omega) _ C8.cur (by omega)
      clear g7 C6 ho7 hc7 C7 hor
      go_wp2_with fail
      refine g8.mono ?_
      rintro e w9 ⟨sw, ⟨hsw0, hsw1⟩, rfl, ho9, hc9⟩
      have C9 := C8.only ho9 hc9 (by omega) hb2
      have HOB : Hid (∀ x ∈ os, 0 ≤ x ∧ x ≤ 1000) := hosb
      have hm9 : m + 4 + 6 * j + 2 + 2 * os.length + 2 ≤ m + 200 := by omega
      clear g8 C8 ho9 hc9 p0 p1 p2 ph pl pf hosb HC
      by_cases hsw : 3 ≤ sw
      · have e0 : (sw == 0) = false := beq_eq_false_iff_ne.2 (by omega)
        have e1 : (sw == 1) = false := beq_eq_false_iff_ne.2 (by omega)
        have e2 : (sw == 2) = false := beq_eq_false_iff_ne.2 (by omega)
        obtain ⟨hRr, HF⟩ := C9.done HON.out HR.out hlies (by omega) (by omega)
        obtain ⟨p0, p1, p2⟩ := C9.box.cells
        have ph := C9.box.heap
        have pl := C9.box.lt
        obtain ⟨q0, q1, q2⟩ := hRr.cells
        have qh := hRr.heap
        have ql := hRr.lt
        have qf0 := hRr.frozen 0
        have qf1 := hRr.frozen 1
        have qf2 := hRr.frozen 2
        have hne : P ≠ w.heap.size := by omega
        rw [hGl] at HF p1 ph
        clear C9 hRr
        go_wp2_with fail
        refine bodyPost_ret (results_cell_row rfl _ _ w.heap.size 27 _ (0, 0) _ rfl HF.out.1 Try.underlying27 rfl (by kernel_rfl)) rfl ?_
        obtain ⟨_, f2, f3, f4, f5⟩ := HF.out
        unfold CircOut
        exact ⟨_, _, (ins, G, os), rfl, ⟨by omega, by simp only; omega, by simp only; omega, HS.out⟩, (by show World.ownsRow _ _ _ _ _ G.length _; rw [hGl]; exact f2), f3, f4, f5.more (by omega)⟩
      · by_cases hs1 : sw = 1
        · subst hs1
          have C10 := C9.alloc (.cells #[.int .i64 (-1), .int .i64 0, .int .i64 16, .int .i64 17] 3)
          have hlb : ∀ i : Nat, i < 4 → ∃ x : Int, (w9.alloc (.cells #[.int .i64 (-1), .int .i64 0, .int .i64 16, .int .i64 17] 3)).cell? ⟨w9.heap.size, i, none⟩ = some (.int .i64 x) ∧ -1 ≤ x ∧ x ≤ 17 := by
            intro i hi
            match i, hi with
            | 0, _ => exact ⟨-1, by simp, by omega, by omega⟩
            | 1, _ => exact ⟨0, by simp, by omega, by omega⟩
            | 2, _ => exact ⟨16, by simp, by omega, by omega⟩
            | 3, _ => exact ⟨17, by simp, by omega, by omega⟩
          have hb9 := C9.cur.lies
          have ga1 := among_any B b _ sv w9.heap.size 4 4 (-1) 17 (by omega) (by omega) _ C10.cur (by omega) (by omega) (by rw [World.size_alloc]; omega) hlb
          clear hlb
          go_wp2_with fail
          refine ga1.mono ?_
          rintro e w10 ⟨nv, ⟨hnv0, hnv1⟩, rfl, ho10, hc10⟩
          have C11 := C10.only ho10 hc10 (by omega) hb2
          obtain ⟨p0, p1, p2⟩ := C11.box.cells
          have ph := C11.box.heap
          have pl := C11.box.lt
          have pf := C11.box.frozen 0
          have C12 := C11.setIns (n := nv) hbP (by omega)
          rw [hGl] at p1 ph
          clear ga1 C9 C10 C11 ho10 hc10
          obtain ⟨hRr, HF⟩ := C12.done HON.out HR.out hlies (by omega) (by omega)
          obtain ⟨zp0, zp1, zp2⟩ := C12.box.cells
          have zph := C12.box.heap
          have zpl := C12.box.lt
          obtain ⟨zq0, zq1, zq2⟩ := hRr.cells
          have zqh := hRr.heap
          have zql := hRr.lt
          have zqf0 := hRr.frozen 0
          have zqf1 := hRr.frozen 1
          have zqf2 := hRr.frozen 2
          have hne : P ≠ w.heap.size := by omega
          rw [hGl] at HF zp1 zph
          clear C12 hRr
          go_wp2_with fail
          refine bodyPost_ret (results_cell_row rfl _ _ w.heap.size 27 _ (0, 0) _ rfl HF.out.1 Try.underlying27 rfl (by kernel_rfl)) rfl ?_
          obtain ⟨_, f2, f3, f4, f5⟩ := HF.out
          unfold CircOut
          exact ⟨_, _, (nv, G, os), rfl, ⟨by simp only; omega, by simp only; omega, by simp only; omega, HS.out⟩, (by show World.ownsRow _ _ _ _ _ G.length _; rw [hGl]; exact f2), f3, f4, f5.more (by omega)⟩
        · by_cases hs0 : sw = 0
          · subst hs0
            obtain ⟨p0, p1, p2⟩ := C9.box.cells
            have ph := C9.box.heap
            have pl := C9.box.lt
            rw [hGl] at p1 ph
            have HK : Hid (∀ w10 : World, w10 = w9.drew.alloc (.cells #[.int .i64 ins, .slice ga j gcap, .slice oa os.length ocap] 27) → CS w2 P b w2.heap.size B (m + 4 + 6 * j + 2 + 2 * os.length + 2) sv ins (.slice ga G.length gcap) (.slice oa os.length ocap) G os w10) := by
              intro w10 hw
              rw [hw]
              exact C9.drew.alloc _
            have hs9 := C9.frame.size
            clear C9
            go_wp2_with fail
            go_region_law (first | (refine step_append_own rfl _ _ 25 rfl w2.heap.size 3 i0 (.int .i64 0) 1 8 Try.underlying25 hif hz0 hz1 hz2 rfl (by decide) (.slice oa os.length ocap) _ _ (by simp [Act.eval, Act.put]) OW ⟨w10.heap.size, 0, none⟩ 1 1 [.int .i64 N] (by simp [Act.eval, Act.put]) rfl (oneI_cells w10 N) (ints_one [N]) (by unfold maxLen; omega) (by omega) HSB ?_; intro v8 w8 own8 grow8; obtain ⟨hx8, C11⟩ := C10.appOuts hbP (by omega) (Nat.le_refl _) own8 grow8; obtain ⟨va, vcap, hv8⟩ := own_shape own8; subst hv8; obtain ⟨r0, r1, r2⟩ := hx8.cells; have rh := hx8.heap; have rl := hx8.lt; have rf2 := hx8.frozen 2; have HC11 : Hid _ := C11; clear own8 grow8 hx8 C11) | (go_simp; go_at_call 93; refine (GW.out _ _).mono ?_; rintro e w10 ⟨rfl, hw10⟩; have C10 := HK.out w10 hw10; have OW := C10.outs.alloc (.cells #[.int .i64 N] 3); have HSB : w2.heap.size ≤ (w10.alloc (.cells #[.int .i64 N] 3)).heap.size := (by have := C10.frame.size; rw [World.size_alloc]; omega); obtain ⟨k0, k1, k2⟩ := C10.box.cells; have kh := C10.box.heap; have kl := C10.box.lt; rw [hGl] at k1 kh; clear hw10))
            all_goals
              have C12 := HC11.out
              clear HC11 C10 OW HSB r0 r1 r2 rh rl rf2 k0 k1 k2 kh kl p0 p1 p2 ph pl
              have h17 : os.length + 1 ≤ 16 := by omega
              obtain ⟨hRr, HF⟩ := C12.done HON.out HR.out hlies (by omega) (by omega)
              obtain ⟨zp0, zp1, zp2⟩ := C12.box.cells
              have zph := C12.box.heap
              have zpl := C12.box.lt
              obtain ⟨zq0, zq1, zq2⟩ := hRr.cells
              have zqh := hRr.heap
              have zql := hRr.lt
              have zqf0 := hRr.frozen 0
              have zqf1 := hRr.frozen 1
              have zqf2 := hRr.frozen 2
              have hne : P ≠ w.heap.size := by omega
              rw [hGl] at HF zp1 zph
              clear C12 hRr
              go_wp2_with fail
              refine bodyPost_ret (results_cell_row rfl _ _ w.heap.size 27 _ (0, 0) _ rfl HF.out.1 Try.underlying27 rfl (by kernel_rfl)) rfl ?_
              obtain ⟨_, f2, f3, f4, f5⟩ := HF.out
              unfold CircOut
              exact ⟨_, _, (ins, G, os ++ [N]), rfl, ⟨by simp only; omega, by simp only; omega, by simp only [List.length_append, List.length_singleton]; omega, HS.out⟩, (by show World.ownsRow _ _ _ _ _ G.length _; rw [hGl]; exact f2), f3, f4, f5.more (by omega)⟩
          · obtain rfl : sw = 2 := by omega
            clear hsw hs1 hs0 hsw0 hsw1
            have HC9 : Hid _ := C9
            clear C9 GW
            go_wp2_with fail
            go_loopw [] (fun wr => ∃ (q : Nat) (gsl : Value) (G' : List Gt), q ≤ 301 ∧ G'.length = q ∧ Hid (∀ g ∈ G', smG 1000 g) ∧ Hid (CS w2 P b w2.heap.size B (m + 300 + 2 * q) sv ins gsl (.slice oa os.length ocap) G' os wr)) (fun wr => 400 - lenAt (wr.cell? ⟨P, 1, none⟩))
            case atStart => exact ⟨G.length, _, G, by omega, rfl, HS, ⟨HC9.out.box, HC9.out.rows, HC9.out.outs, HC9.out.frame, HC9.out.cur.more (by omega)⟩⟩
            case round =>
              clear HC9 HS hGl
              obtain ⟨q, gsl, G', hq, hql, HS, HC⟩ := hrel
              obtain ⟨ga', gcap', hgs⟩ := own_shape HC.out.rows
              subst hgs
              have gp := fun w1 (h1 : Cur B b (m + 300 + 2 * q) sv w1) => pick_any B b (m + 300 + 2 * q) sv 2 (by omega) (by omega) w1 h1 (by omega)
              have GP : Hid _ := gp
              clear gp
              obtain ⟨p0, p1, p2⟩ := HC.out.box.cells
              have ph := HC.out.box.heap
              have pl := HC.out.box.lt
              rw [hql] at p1 ph
              have HM : Hid (lenAt (wr.cell? ⟨P, 1, none⟩) = q) := by
                show lenAt (wr.cell? ⟨P, 1, none⟩) = q
                rw [p1]
                rfl
              go_wp2_with fail
              go_region_with (go_at_call 89; refine (GP.out _ ?_).mono ?_; (first | exact HC.out.cur | exact HC.out.cur.drew | exact HC.out.cur.drew.drew); rintro e w3 ⟨y, ⟨hyy0, hyy1⟩, rfl, ho3, hc3⟩; have hyw : IntKind.i64.wrap (300 + y) = 300 + y := IntWalk.i64_in _ (by omega); have C3 : CS w2 P b w2.heap.size B (m + 300 + 2 * q + 2) sv ins (.slice ga' G'.length gcap') (.slice oa os.length ocap) G' os w3 := (by first | exact HC.out.only ho3 hc3 (by omega) hb2 | exact HC.out.drew.only ho3 hc3 (by omega) hb2 | exact HC.out.drew.drew.only ho3 hc3 (by omega) hb2); obtain ⟨k0, k1, k2⟩ := C3.box.cells; have kh := C3.box.heap; have kl := C3.box.lt; rw [hql] at k1 kh; clear ho3 hc3)
              all_goals
                clear p0 p1 p2 ph pl HC GP
                by_cases hlt : (q : Int) < 300 + y
                · rw [decide_eq_true hlt]
                  have HROW := C3.rows.alloc (.cells #[.int .i64 2, .int .i64 0, .int .i64 0] 128)
                  have HSZB : w2.heap.size ≤ (w3.alloc (.cells #[.int .i64 2, .int .i64 0, .int .i64 0] 128)).heap.size := by
                    have := C3.frame.size
                    rw [World.size_alloc]
                    omega
                  rw [hql] at HROW
                  go_wp2_with (at_builtin; refine wpList_append_own _ rfl _ _ 24 rfl w2.heap.size 128 j0 (.agg #[.int .i64 0, .int .i64 0, .int .i64 0]) 3 24 Try.underlying24 hjf hy0 hy1 hy2 rfl (by decide) _ _ _ rfl HROW ⟨w3.heap.size, 0, none⟩ 1 1 [.int .i64 2, .int .i64 0, .int .i64 0] rfl rfl (oneG_cells w3 2 0 0) (flat3_one [(2, 0, 0)]) (by unfold maxLen; omega) (by omega) HSZB ?_)
                  intro v8 w8 own8 grow8 _
                  rw [← hql] at own8 grow8
                  obtain ⟨hx8, C8⟩ := C3.laid hbP (by omega) (Nat.le_refl _) own8 grow8
                  obtain ⟨va, vcap, hv8⟩ := own_shape own8
                  subst hv8
                  obtain ⟨r0, r1, r2⟩ := hx8.cells
                  have rh := hx8.heap
                  have rl := hx8.lt
                  have rf1 := hx8.frozen 1
                  have HC8 : Hid (CS w2 P b w2.heap.size B (m + 300 + 2 * (q + 1)) sv ins _ (.slice oa os.length ocap) (G' ++ [(2, 0, 0)]) os _) := ⟨C8.box, C8.rows, C8.outs, C8.frame, C8.cur.more (by omega)⟩
                  have HS8 : Hid (∀ g ∈ G' ++ [((2 : Int), (0 : Int), (0 : Int))], smG 1000 g) := by
                    intro g hg
                    simp only [List.mem_append, List.mem_singleton] at hg
                    rcases hg with hg | rfl
                    · exact HS.out g hg
                    · unfold smG; simp only; omega
                  have hG8 : (G' ++ [((2 : Int), (0 : Int), (0 : Int))]).length = q + 1 := by rw [List.length_append, hql]; rfl
                  have HL8 := C8.box.cells.2.1
                  have HM8 : Hid (lenAt ((w8.setCell ⟨P, 1, none⟩ (.slice va (G'.length + 1) vcap)).cell? ⟨P, 1, none⟩) = q + 1) := by
                    show lenAt ((w8.setCell ⟨P, 1, none⟩ (.slice va (G'.length + 1) vcap)).cell? ⟨P, 1, none⟩) = q + 1
                    rw [HL8, hql]
                    rfl
                  rw [hql] at HC8 HM8
                  clear own8 grow8 hx8 C8 C3 HROW HSZB HS HL8
                  go_wp2_with fail
                  go_roundw
                  case rel => exact ⟨q + 1, _, _, by omega, hG8, HS8, HC8⟩
                  case measure => rw [HM8.out, HM.out]; omega
                · rw [decide_eq_false hlt]
                  have h301 : G'.length ≤ 301 := by omega
                  obtain ⟨hRr, HF⟩ := C3.done HON.out HR.out hlies (by omega) (by omega)
                  obtain ⟨zp0, zp1, zp2⟩ := C3.box.cells
                  have zph := C3.box.heap
                  have zpl := C3.box.lt
                  obtain ⟨zq0, zq1, zq2⟩ := hRr.cells
                  have zqh := hRr.heap
                  have zql := hRr.lt
                  have zqf0 := hRr.frozen 0
                  have zqf1 := hRr.frozen 1
                  have zqf2 := hRr.frozen 2
                  have hne : P ≠ w.heap.size := by omega
                  rw [hql] at HF zp1 zph
                  clear C3 hRr
                  go_wp2_with fail
                  refine bodyPost_ret (results_cell_row rfl _ _ w.heap.size 27 _ (0, 0) _ rfl HF.out.1 Try.underlying27 rfl (by kernel_rfl)) rfl ?_
                  obtain ⟨_, f2, f3, f4, f5⟩ := HF.out
                  unfold CircOut
                  exact ⟨_, _, (ins, G', os), rfl, ⟨by simp only; omega, by simp only; omega, by simp only; omega, HS.out⟩, (by show World.ownsRow _ _ _ _ _ G'.length _; rw [hql]; exact f2), f3, f4, f5.more (by omega)⟩
end Go.Proofs.Ytpjllhlbdcanlaa
