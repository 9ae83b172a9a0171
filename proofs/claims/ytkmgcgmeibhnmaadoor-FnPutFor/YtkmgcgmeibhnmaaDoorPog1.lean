/-
  What the law of joined terms draws out of bytes.
  What the law of what is put for variables draws out of bytes.
  Plain mathematics for trees: what joined terms come to, and what is turned twice.
  What is put for the variables of a tree: the program's put.
  The tree of a term, all of it new: the program's rootOf, told once more with where its nodes lie.
  The program's rootOfKind and PutAll.
  Plain mathematics for trees: what is put for the variables does as their values do.
  A state of good words that is made: what the walk of the law of what is put for variables needs.
  The walk of the law of what is put for variables.
-/
import Derived.Test.YtkmgcgmeibhnmaaDoorTog1
import Derived.Test.YtkmgcgmeibhnmaaDoorTog2
import Derived.Test.YtkmgcgmeibhnmaaDoorPuts2
import Derived.Test.YtkmgcgmeibhnmaaDoorILay2
import Derived.Test.YtkmgcgmeibhnmaaDoorLJoin
namespace Go.Proofs.YtkmgcgmeibhnmaaDoor
open Go Go.RowKit
open M
set_option linter.unusedVariables false

theorem results_tmp4 {fn : Func} {t u v x : Tmp} (h : fn.results = #[.tmp t, .tmp u, .tmp v, .tmp x]) (tmps : Array Value) (P : Program) (w : World) :
    (results fn tmps).run P w = .ok (.tuple #[tmps.getD t undef, tmps.getD u undef, tmps.getD v undef, tmps.getD x undef]) w := by
  simp [results, h]
theorem results_tmp5 {fn : Func} {t u v x y : Tmp} (h : fn.results = #[.tmp t, .tmp u, .tmp v, .tmp x, .tmp y]) (tmps : Array Value) (P : Program) (w : World) :
    (results fn tmps).run P w = .ok (.tuple #[tmps.getD t undef, tmps.getD u undef, tmps.getD v undef, tmps.getD x undef, tmps.getD y undef]) w := by
  simp [results, h]
theorem slice_of_code {B : Nat} {w : World} {sv : Value} (h : CodeOk B w sv) : ∃ sa sl sc, sv = .slice sa sl sc := by
  rcases h with ⟨a, cap, rfl⟩ | ⟨cb, off, len, cap, rfl, _⟩
  · exact ⟨_, _, _, rfl⟩
  · exact ⟨_, _, _, rfl⟩
set_option maxRecDepth 100000 in
set_option maxHeartbeats 1000000 in
theorem drawTurn_any (sv : Value) (w : World) (h : CodeOk w.heap.size w sv) :
    Calls Tryd.prog 38 #[sv] w fun e w' => ∃ (k : Nat) (vars op : Int) (v : Value) (t : List Nd), e = .returned (.tuple #[.int .i64 (k : Int), .int .i64 vars, .int .i64 op, v]) ∧ (1 ≤ k ∧ k ≤ 64) ∧ (0 ≤ vars ∧ vars ≤ 5) ∧ (3 ≤ op ∧ op ≤ 19) ∧ NodesD w w' v t ∧ Below w.heap.size w w' := by
  have hc := cur_new w sv h
  have g := term_any _ _ _ sv _ hc (by omega)
  have HB0 : Hid (Below w.heap.size w (w.alloc (.cells #[sv, .int .i64 0, .int .u64 0] 78))) := (Below.refl _ _).alloc (Nat.le_refl _) _
  obtain ⟨sa, sl, sc, rfl⟩ := slice_of_code h
  clear h hc
  go_enter Tryd.func38, Tryd.ntmps38
  go_wp2_with fail
  refine g.mono ?_
  rintro e w1 ⟨k, vars, v, t, rfl, hd⟩
  have HD : Hid (TermD _ _ _ _ _ w1 k vars v t) := hd
  have hcur := hd.2.2.2.2.2.2.2.2
  have hlies := hcur.lies
  have g2 := among_any _ _ _ _ w1.heap.size 4 4 3 19 (by omega) (by omega) _ (hcur.alloc (.cells (nums [13, 19, 19, 3]) 3)) (by omega) (by omega) (by simp) (nums_at (l := [13, 19, 19, 3]) (by decide) w1)
  clear g hd hcur hlies
  go_wp2_with fail
  refine g2.mono ?_
  rintro e w2 ⟨op, hop, rfl, ho2, hc2⟩
  have HR : Hid ((1 ≤ k ∧ k ≤ 64) ∧ (0 ≤ vars ∧ vars ≤ 5) ∧ (3 ≤ op ∧ op ≤ 19) ∧ NodesD w w2 v t ∧ Below w.heap.size w w2) := by
    obtain ⟨h1, h2⟩ := TermD.out HD.out HB0.out
    have ho3 : Only w.heap.size w1 w2 := ((Only.refl _ w1).alloc _).trans ho2
    refine ⟨⟨HD.out.1, HD.out.2.1⟩, ⟨HD.out.2.2.1, HD.out.2.2.2.1⟩, hop, ⟨?_, h1.2⟩, h2.trans (ho3.below (Nat.le_refl _) h2.size)⟩
    have own0 : OwnNodes w1 (w.heap.size + 1) v t := by
      have h9 := HD.out.2.2.2.2.1
      rw [show (w.alloc (.cells #[.slice sa sl sc, .int .i64 0, .int .u64 0] 78)).heap.size = w.heap.size + 1 from by simp] at h9
      exact h9
    exact OwnNodes.low (own_keeps own0 (by omega) ho3) (by omega)
  clear g2 ho2 hc2 HD
  go_wp2_with fail
  refine bodyPost_ret (results_tmp4 rfl _ _ _) rfl ?_
  exact ⟨k, vars, op, v, t, rfl, HR.out⟩
set_option maxRecDepth 100000 in
set_option maxHeartbeats 2000000 in
theorem drawJoin_any (sv : Value) (w : World) (h : CodeOk w.heap.size w sv) :
    Calls Tryd.prog 33 #[sv] w fun e w' => ∃ (k : Nat) (vars op : Int) (av : Value) (a : List Nd) (bv : Value) (b : List Nd), e = .returned (.tuple #[.int .i64 (k : Int), .int .i64 vars, .int .i64 op, av, bv]) ∧ (1 ≤ k ∧ k ≤ 8) ∧ (1 ≤ vars ∧ vars ≤ 3) ∧ (0 ≤ op ∧ op ≤ 20) ∧ NodesD w w' av a ∧ NodesD w w' bv b ∧ Below w.heap.size w w' := by
  have hc := cur_new w sv h
  have HB0 : Hid (Below w.heap.size w (w.alloc (.cells #[sv, .int .i64 0, .int .u64 0] 78))) := (Below.refl _ _).alloc (Nat.le_refl _) _
  obtain ⟨sa, sl, sc, rfl⟩ := slice_of_code h
  have GP : Hid (∀ (n : Int) (m' : Nat) (w1 : World), 1 ≤ n → n ≤ 50 → Cur w.heap.size w.heap.size m' (.slice sa sl sc) w1 → m' ≤ 9000000 → Calls Tryd.prog 77 #[ptr w.heap.size, .int .i64 n] w1 fun e w' => ∃ x : Int, (0 ≤ x ∧ x < n) ∧ e = .returned (.int .i64 x) ∧ Only w.heap.size w1 w' ∧ Cur w.heap.size w.heap.size (m' + 2) (.slice sa sl sc) w') := fun n m' w1 h1 h2 hc' hm' => pick_any _ _ m' _ n h1 (by omega) w1 hc' (by omega)
  have GO : Hid (∀ (n : Int) (m' : Nat) (w1 : World), 1 ≤ n → n ≤ 50 → Cur w.heap.size w.heap.size m' (.slice sa sl sc) w1 → m' ≤ 9000000 → Calls Tryd.prog 59 #[ptr w.heap.size, .int .i64 n] w1 fun e w' => ∃ x : Bool, e = .returned (.bool x) ∧ Only w.heap.size w1 w' ∧ Cur w.heap.size w.heap.size (m' + 2) (.slice sa sl sc) w') := fun n m' w1 h1 h2 hc' hm' => one_any _ _ m' _ n h1 (by omega) w1 hc' (by omega)
  have HEND : Hid (∀ (m1 m2 L1 L2 : Nat) (w3 w4 w5 : World) (av bv : Value) (a b : List Nd), Only w.heap.size (w.alloc (.cells #[.slice sa sl sc, .int .i64 0, .int .u64 0] 78)) w3 → Drawn w.heap.size w.heap.size m1 (.slice sa sl sc) L1 w3 w4 av a → Drawn w.heap.size w.heap.size m2 (.slice sa sl sc) L2 w4 w5 bv b → L1 ≤ 31 → L2 ≤ 31 → NodesD w w5 av a ∧ NodesD w w5 bv b ∧ Below w.heap.size w w5) := by
    intro m1 m2 L1 L2 w3 w4 w5 av bv a b ho ha hb h1 h2
    have s0 : (w.alloc (.cells #[.slice sa sl sc, .int .i64 0, .int .u64 0] 78)).heap.size = w.heap.size + 1 := by simp
    have hs := ho.size
    rw [s0] at hs
    have ha2 := ha.only (by omega) hb.2.2.2.2.1 hb.cur
    have hs4 := ha.2.2.2.2.1.size
    exact ⟨⟨OwnNodes.low ha2.1 (by omega), ha2.2.1, Nat.le_trans ha2.2.2.2.1 h1⟩, ⟨OwnNodes.low hb.1 (by omega), hb.2.1, Nat.le_trans hb.2.2.2.1 h2⟩, HB0.out.trans (((ho.trans ha.2.2.2.2.1).trans hb.2.2.2.2.1).below (Nat.le_refl _) HB0.out.size)⟩
  have HC0 : Hid _ := hc
  have g1 := GP.out 8 _ _ (by omega) (by omega) hc (by omega)
  clear h hc
  go_enter Tryd.func33, Tryd.ntmps33
  go_wp2_with fail
  refine g1.mono ?_
  rintro e w1 ⟨x, ⟨hx0, hx1⟩, rfl, ho1, hc1⟩
  have HO1 : Hid _ := ho1
  have g2 := GP.out 3 _ w1 (by omega) (by omega) hc1 (by omega)
  clear g1 ho1 hc1
  go_wp2_with fail
  refine g2.mono ?_
  rintro e w2 ⟨y, ⟨hy0, hy1⟩, rfl, ho2, hc2⟩
  have HO2 : Hid _ := Only.trans HO1.out ho2
  have g3 := GO.out 3 _ w2 (by omega) (by omega) hc2 (by omega)
  clear g2 ho2 hc2 HO1
  obtain ⟨k0, hk0⟩ : ∃ k : Nat, (1 + x : Int) = (k : Int) := ⟨(1 + x).toNat, by omega⟩
  have hkr : 1 ≤ k0 ∧ k0 ≤ 8 := by omega
  go_wp2_with fail
  refine g3.mono ?_
  rintro e w3 ⟨q, rfl, ho3, hc3⟩
  have HO3 : Hid _ := Only.trans HO2.out ho3
  clear g3 ho3 HO2
  cases q with
  | true =>
    have g4 := GP.out 21 _ w3 (by omega) (by omega) hc3 (by omega)
    clear hc3
    go_wp2_with fail
    refine g4.mono ?_
    rintro e w4 ⟨op, ⟨hop0, hop1⟩, rfl, ho4, hc4⟩
    have HO4 : Hid _ := Only.trans HO3.out ho4
    have g5 := ask1 _ _ _ _ k0 (1 + y) w4 hkr.1 (by omega) (by omega) (by omega) hc4 (by omega)
    clear g4 ho4 hc4 HO3
    go_wp2_with fail
    refine g5.mono ?_
    rintro e w5 ⟨av, a, rfl, hd5⟩
    have HD5 : Hid (Drawn _ _ _ _ 15 w4 w5 av a) := hd5
    have g6 := ask2 _ _ _ _ k0 (1 + y) w5 hkr.1 (by omega) (by omega) (by omega) hd5.cur (by omega)
    clear g5 hd5
    go_wp2_with fail
    refine g6.mono ?_
    rintro e w6 ⟨bv, b, rfl, hd6⟩
    have HR : Hid _ := HEND.out _ _ _ _ w4 w5 w6 av bv a b HO4.out HD5.out hd6 (by omega) (by omega)
    clear g6 hd6 HD5
    go_wp2_with fail
    refine bodyPost_ret (results_tmp5 rfl _ _ _) rfl ?_
    exact ⟨k0, 1 + y, op, av, a, bv, b, rfl, hkr, ⟨by omega, by omega⟩, ⟨by omega, by omega⟩, HR.out⟩
  | false =>
    have g4 := GP.out 18 _ w3 (by omega) (by omega) hc3 (by omega)
    clear hc3
    go_wp2_with fail
    refine g4.mono ?_
    rintro e w4 ⟨op, ⟨hop0, hop1⟩, rfl, ho4, hc4⟩
    have HO4 : Hid _ := Only.trans HO3.out ho4
    have g5 := num2 _ _ _ _ k0 (1 + y) w4 hkr.1 (by omega) (by omega) (by omega) hc4 (by omega)
    clear g4 ho4 hc4 HO3
    go_wp2_with fail
    refine g5.mono ?_
    rintro e w5 ⟨av, a, rfl, hd5⟩
    have HD5 : Hid (Drawn _ _ _ _ 7 w4 w5 av a) := hd5
    have g6 := num3 _ _ _ _ k0 (1 + y) w5 hkr.1 (by omega) (by omega) (by omega) hd5.cur (by omega)
    clear g5 hd5
    go_wp2_with fail
    refine g6.mono ?_
    rintro e w6 ⟨bv, b, rfl, hd6⟩
    have HR : Hid _ := HEND.out _ _ _ _ w4 w5 w6 av bv a b HO4.out HD5.out hd6 (by omega) (by omega)
    clear g6 hd6 HD5
    go_wp2_with fail
    refine bodyPost_ret (results_tmp5 rfl _ _ _) rfl ?_
    exact ⟨k0, 1 + y, op, av, a, bv, b, rfl, hkr, ⟨by omega, by omega⟩, ⟨by omega, by omega⟩, HR.out⟩
end Go.Proofs.YtkmgcgmeibhnmaaDoor

namespace Go.Proofs.YtkmgcgmeibhnmaaDoor
open Go Go.RowKit
open M
set_option linter.unusedVariables false

/-- lists of nodes in a row, all of it owned from B on -/
def SSD (w : World) (R B : Nat) (v : Value) (us : List Value) (bs : List (List Nd)) : Prop :=
  w.ownsRow R 24 1 v us.length us ∧ us.length = bs.length ∧ ∀ (i : Nat) (u : Value) (b : List Nd), us[i]? = some u → bs[i]? = some b → OwnNodes w B u b ∧ (∀ x ∈ b, NdOk x) ∧ b.length ≤ 31
theorem infoNodeS : (Tryd.prog.info? 24).map (fun i => (i.zero, i.size, i.bytes)) = some (some (.slice none 0 0), 1, 24) := by kernel_rfl
theorem SSD.only {w w' : World} {R B b : Nat} {v : Value} {us : List Value} {bs : List (List Nd)} (h : SSD w R B v us bs) (hr : b < R) (hb : b < B) (ho : Only b w w') : SSD w' R B v us bs :=
  ⟨own_keeps h.1 hr ho, h.2.1, fun i u x hu hx => ⟨own_keeps (h.2.2 i u x hu hx).1 hb ho, (h.2.2 i u x hu hx).2⟩⟩
theorem SSD.alloc {w : World} {R B : Nat} {v : Value} {us : List Value} {bs : List (List Nd)} (h : SSD w R B v us bs) (o : Obj) : SSD (w.alloc o) R B v us bs :=
  ⟨h.1.alloc o, h.2.1, fun i u x hu hx => ⟨World.ownsRow.alloc (h.2.2 i u x hu hx).1 o, (h.2.2 i u x hu hx).2⟩⟩
theorem SSD.below {w w' : World} {R B : Nat} {v : Value} {us : List Value} {bs : List (List Nd)} (h : SSD w R B v us bs) (hb : Below w.heap.size w w') : SSD w' R B v us bs :=
  ⟨owns_below h.1 hb, h.2.1, fun i u x hu hx => ⟨owns_below (h.2.2 i u x hu hx).1 hb, (h.2.2 i u x hu hx).2⟩⟩
/-- nodes are kept where a row of lists grows -/
theorem nodes_apart {w w7 : World} {B B' n : Nat} {v u : Value} {us : List Value} {b : List Nd} (hv : w.ownsRow B 24 1 v n us) (hu : OwnNodes w B' u b) (grow : w.grownBy w7 v.ownBlock) : OwnNodes w7 B' u b := by
  obtain ⟨h1, h2⟩ := hu
  refine ⟨h1, ?_⟩
  rcases h2 with h2 | ⟨g, cap, cur, he, hg, hh, r⟩
  · exact Or.inl h2
  · refine Or.inr ⟨g, cap, cur, he, hg, ?_, r⟩
    rw [grow.block g (Array.getElem?_eq_some_iff.1 hh).1 ?_]
    · exact hh
    · intro e
      rcases hv.2 with ⟨rfl, _⟩ | ⟨g', cap', cur', rfl, _, hh', _⟩
      · cases e
      · have e2 : g = g' := Option.some.inj e
        rw [← e2, hh] at hh'
        simp at hh'
theorem SSD.append {w w7 : World} {R B : Nat} {v v7 u : Value} {us : List Value} {bs : List (List Nd)} {b : List Nd} (h : SSD w R B v us bs) (hu : OwnNodes w B u b) (hk : ∀ x ∈ b, NdOk x) (hl : b.length ≤ 31)
    (own7 : w7.ownsRow R 24 1 v7 (us.length + 1) (us ++ [u])) (grow : w.grownBy w7 v.ownBlock) : SSD w7 R B v7 (us ++ [u]) (bs ++ [b]) := by
  refine ⟨by rw [List.length_append]; exact own7, by simp [h.2.1], fun i x y hx hy => ?_⟩
  have hlen := h.2.1
  by_cases hi : i < us.length
  · rw [List.getElem?_append_left hi] at hx
    rw [List.getElem?_append_left (by omega)] at hy
    exact ⟨nodes_apart h.1 (h.2.2 i x y hx hy).1 grow, (h.2.2 i x y hx hy).2⟩
  · rw [List.getElem?_append_right (by omega)] at hx hy
    rw [hlen] at hx
    generalize i - bs.length = j at hx hy
    match j, hx, hy with
    | 0, hx, hy =>
      simp at hx hy
      subst hx hy
      exact ⟨nodes_apart h.1 hu grow, hk, hl⟩
    | j + 1, hx, hy => simp at hy
theorem SSD.ss {w : World} {R B : Nat} {v : Value} {us : List Value} {bs : List (List Nd)} (h : SSD w R B v us bs) (hl : bs.length ≤ 1000) : NodesSS w v bs := by
  refine ⟨by omega, ?_⟩
  rcases h.1.2 with ⟨rfl, h0⟩ | ⟨g, cap, cur, rfl, hg, hh, _⟩
  · exact Or.inl ⟨List.length_eq_zero_iff.1 (by rw [← h.2.1]; exact h0), none, 0, rfl⟩
  · refine Or.inr ⟨g, 0, cap, by rw [h.2.1], (Array.getElem?_eq_some_iff.1 hh).1, fun i t ht => ?_⟩
    have hi : i < us.length := by
      rw [h.2.1]
      exact (List.getElem?_eq_some_iff.1 ht).1
    obtain ⟨u, hu⟩ : ∃ u, us[i]? = some u := ⟨us[i], List.getElem?_eq_getElem hi⟩
    obtain ⟨p1, p2, p3⟩ := h.2.2 i u t hu ht
    refine ⟨u, ?_, nodes_of_own p2 (by omega) p1⟩
    rw [Nat.zero_add, h.1.cellAt i (by omega)]
    exact hu
theorem oneS_cells (w : World) (x : Value) : ∀ (j : Nat) (u : Value), ([x] : List Value)[j]? = some u → (w.alloc (.cells #[x] 24)).cell? ((⟨w.heap.size, 0, none⟩ : Addr).add j) = some u := by
  intro j u hu
  match j, hu with
  | 0, hu => simp at hu; subst hu; simp [Addr.add]
theorem l2One_any (n : Int) (h : 1 ≤ n) (w : World) : Calls Tryd.prog 58 #[.int .i64 n] w fun e w' => e = .returned (.int .i64 n) ∧ w' = w := by
  go_enter Tryd.func58, Tryd.ntmps58
  go_wp2
  go_ret
  exact ⟨rfl, rfl⟩
set_option maxRecDepth 100000 in
set_option maxHeartbeats 4000000 in
theorem drawPut_any (sv : Value) (w : World) (h : CodeOk w.heap.size w sv) :
    Calls Tryd.prog 15 #[sv] w fun e w' => ∃ (k : Nat) (vars : Int) (v : Value) (t : List Nd) (bv : Value) (us : List Value) (bs : List (List Nd)), e = .returned (.tuple #[.int .i64 (k : Int), .int .i64 vars, v, bv]) ∧ (1 ≤ k ∧ k ≤ 64) ∧ (0 ≤ vars ∧ vars ≤ 5) ∧ NodesD w w' v t ∧ (∃ R, w.heap.size ≤ R ∧ SSD w' R w.heap.size bv us bs) ∧ us.length ≤ 6 ∧ Below w.heap.size w w' := by
  have hc := cur_new w sv h
  have g := term_any _ _ _ sv _ hc (by omega)
  have HB0 : Hid (Below w.heap.size w (w.alloc (.cells #[sv, .int .i64 0, .int .u64 0] 78))) := (Below.refl _ _).alloc (Nat.le_refl _) _
  obtain ⟨sa, sl, sc, rfl⟩ := slice_of_code h
  obtain ⟨i0, hi, hz0, hz1, hz2⟩ := info_parts infoNodeS
  have s0 : (w.alloc (.cells #[.slice sa sl sc, .int .i64 0, .int .u64 0] 78)).heap.size = w.heap.size + 1 := by simp
  have HS0 : Hid _ := s0
  clear h hc s0
  go_enter Tryd.func15, Tryd.ntmps15
  go_wp2_with fail
  refine g.mono ?_
  rintro e w1 ⟨k, vars, v, t, rfl, hd⟩
  have hq := hd
  obtain ⟨k1, k64, hv0, hv5, ho1, hok1, hl1, hon1, hcur1⟩ := hq
  obtain ⟨n, rfl⟩ := Int.eq_ofNat_of_zero_le hv0
  have hn5 : n ≤ 5 := by omega
  have HBW : Hid (w.heap.size < w.heap.size + 1) := Nat.lt_succ_self _
  have HOT : Hid (OwnNodes w1 (w.heap.size + 1) v t ∧ (∀ x ∈ t, NdOk x) ∧ t.length ≤ 31) := by
    rw [HS0.out] at ho1
    exact ⟨ho1, hok1, hl1⟩
  have HB1 : Hid (Below w.heap.size w w1 ∧ w.heap.size + 1 ≤ w1.heap.size) := by
    have hs := hon1.size
    rw [HS0.out] at hs
    exact ⟨HB0.out.trans (hon1.below (Nat.le_refl _) HB0.out.size), hs⟩
  have HC1 : Hid (Cur w.heap.size w.heap.size _ (.slice sa sl sc) w1) := hcur1
  have hvsh : ∃ (a : Option Addr) (cap : Nat), v = .slice a t.length cap := own_shape ho1
  obtain ⟨va, vc, rfl⟩ := hvsh
  clear g hd ho1 hok1 hl1 hon1 hcur1 HB0
  go_wp2_with fail
  go_loopw [10, 11] (fun x i wr => ∃ (j : Nat) (us : List Value) (bs : List (List Nd)), j ≤ n ∧ i = .int .i64 j ∧ us.length = j ∧ Hid (SSD wr w1.heap.size (w.heap.size + 1) x us bs) ∧ Hid (Only w.heap.size w1 wr) ∧ Hid (Cur w.heap.size w.heap.size (1000 + j * 40) (.slice sa sl sc) wr)) (fun _ i _ => n - (intOf i).toNat)
  case atStart => exact ⟨0, [], [], by omega, rfl, rfl, ⟨World.ownsRow_nil _ _ _ _, rfl, fun i u b hu _ => by simp at hu⟩, Only.refl _ _, HC1.out.more (by omega)⟩
  case round =>
    obtain ⟨j, us, bs, hj, rfl, hul, HS, HO, HC⟩ := hrel
    by_cases hlt' : j < n
    · have g1 := l2One_any (n : Int) (by omega) wr
      have g2 := num1 _ _ _ _ k (n : Int) wr k1 k64 (by omega) (by omega) HC.out (by omega)
      have HUL : Hid (us.length = j) := hul
      have hus5 : us.length ≤ 5 := by omega
      clear hul
      go_wp2_with fail
      refine g1.mono ?_
      rintro e wq ⟨rfl, rfl⟩
      clear g1
      go_wp2_with fail
      refine g2.mono ?_
      rintro e w2 ⟨v2, t2, rfl, hd2⟩
      obtain ⟨a2, c2, rfl⟩ := own_shape hd2.1
      have HON : Hid (Only w.heap.size w1 w2) := HO.out.trans hd2.2.2.2.2.1
      have HS2 : Hid (SSD w2 w1.heap.size (w.heap.size + 1) u10 us bs) := HS.out.only (by have := HB1.out.2; omega) (by omega) hd2.2.2.2.2.1
      have HO2 : Hid (OwnNodes w2 (w.heap.size + 1) (.slice a2 t2.length c2) t2) := OwnNodes.low hd2.1 (by have h1 := HO.out.size; have h2 := HB1.out.2; omega)
      have HK2 : Hid ((∀ x ∈ t2, NdOk x) ∧ t2.length ≤ 31) := ⟨hd2.2.1, by have := hd2.2.2.2.1; omega⟩
      have HC2 : Hid (Cur w.heap.size w.heap.size (1000 + (j + 1) * 40) (.slice sa sl sc) w2) := hd2.cur.more (by omega)
      clear g2 hd2 HS HO HC
      have hss := HS2.out.alloc (.cells #[.slice a2 t2.length c2] 24)
      have HSS : Hid (SSD (w2.alloc (.cells #[.slice a2 t2.length c2] 24)) w1.heap.size (w.heap.size + 1) u10 us bs) := hss
      have own1 : (w2.alloc (.cells #[.slice a2 t2.length c2] 24)).ownsRow w1.heap.size 24 1 u10 us.length us := hss.1
      have HOU : Hid (OwnNodes (w2.alloc (.cells #[.slice a2 t2.length c2] 24)) (w.heap.size + 1) (.slice a2 t2.length c2) t2) := World.ownsRow.alloc HO2.out _
      have cellsN := oneS_cells w2 (.slice a2 t2.length c2)
      clear hss
      go_wp2_with (at_builtin; refine wpList_append_own _ rfl _ _ 25 rfl w1.heap.size 24 i0 (.slice none 0 0) 1 24 Tryd.underlying25 hi hz0 hz1 hz2 rfl (by decide) _ _ _ rfl own1 ⟨w2.heap.size, 0, none⟩ 1 1 [.slice a2 t2.length c2] rfl rfl cellsN (by intro u hu; simp at hu; subst hu; rfl) (by unfold maxLen; omega) (by omega) (by have := HON.out.size; simp; omega) ?_)
      intro v7 w7 own7 grow7 _
      have HS7 : Hid (SSD w7 w1.heap.size (w.heap.size + 1) v7 (us ++ [.slice a2 t2.length c2]) (bs ++ [t2])) := HSS.out.append HOU.out HK2.out.1 HK2.out.2 own7 grow7
      have hrow : ∀ k, u10.ownBlock = some k → w1.heap.size ≤ k := fun k hk => (World.ownsRow.lt own1 k hk).1
      have HO7 : Hid (Only w.heap.size w1 w7) := by
        have hs := HON.out.size
        refine ⟨grow7.os.trans HON.out.os, grow7.tape.trans HON.out.tape, grow7.output.trans HON.out.output, Nat.le_trans hs (Nat.le_trans (by simp) grow7.size), fun k hk hks => ?_⟩
        rw [grow7.block k (by simp; omega) (fun e => by have := hrow k e.symm; omega), Below.heap_alloc _ _ _ (by omega)]
        exact HON.out.block k hk hks
      have HC7 : Hid (Cur w.heap.size w.heap.size _ (.slice sa sl sc) w7) := (HC2.out.alloc (.cells #[.slice a2 t2.length c2] 24)).below ⟨grow7.os, grow7.tape, grow7.output, grow7.size, fun k hk => grow7.block k (by have := HON.out.size; have := HB1.out.2; simp; omega) (fun e => by have := hrow k e.symm; have := HB1.out.2; omega)⟩
      clear own1 own7 grow7 cellsN hrow
      go_wp2_with fail
      go_roundw
      case rel => exact ⟨j + 1, us ++ [.slice a2 t2.length c2], bs ++ [t2], by omega, by go_num, by have := HUL.out; simp only [List.length_append, List.length_singleton]; omega, HS7, HO7, HC7⟩
      case measure => simp [intOf]; omega
    · obtain rfl : j = n := by omega
      have g1 := one_any _ _ _ _ 20 (by omega) (by omega) wr HC.out (by omega)
      have HUL : Hid (us.length = j) := hul
      have hus5 : us.length ≤ 5 := by omega
      have HFIN : Hid (∀ (x : Value) (us' : List Value) (bs' : List (List Nd)) (w' : World), SSD w' w1.heap.size (w.heap.size + 1) x us' bs' → Only w.heap.size w1 w' → us'.length ≤ 6 → (1 ≤ k ∧ k ≤ 64) ∧ (0 ≤ (j : Int) ∧ (j : Int) ≤ 5) ∧ NodesD w w' (.slice va t.length vc) t ∧ (∃ R, w.heap.size ≤ R ∧ SSD w' R w.heap.size x us' bs') ∧ us'.length ≤ 6 ∧ Below w.heap.size w w') := by
        intro x us' bs' w' hss ho hl
        have hb := HB1.out.1
        have h1 := HB1.out.2
        exact ⟨⟨k1, k64⟩, ⟨by omega, by omega⟩, ⟨OwnNodes.low (own_keeps HOT.out.1 (by omega) ho) (by omega), HOT.out.2⟩, ⟨w1.heap.size, by omega, hss.1, hss.2.1, fun i u b hu hb => ⟨OwnNodes.low (hss.2.2 i u b hu hb).1 (by omega), (hss.2.2 i u b hu hb).2⟩⟩, hl, hb.trans (ho.below (Nat.le_refl _) (by omega))⟩
      clear hul
      go_wp2_with fail
      refine g1.mono ?_
      rintro e w2 ⟨q, rfl, ho2, hc2⟩
      have HON : Hid (Only w.heap.size w1 w2) := HO.out.trans ho2
      have HS2 : Hid (SSD w2 w1.heap.size (w.heap.size + 1) u10 us bs) := HS.out.only (by have := HB1.out.2; omega) (by omega) ho2
      have HO2 : Hid (OwnNodes w2 (w.heap.size + 1) (.slice va t.length vc) t) := own_keeps HOT.out.1 (by omega) HON.out
      have HC2 : Hid (Cur w.heap.size w.heap.size _ (.slice sa sl sc) w2) := hc2
      clear g1 ho2 hc2 HS HO HC
      cases q with
      | false =>
        have HR : Hid _ := HFIN.out u10 us bs w2 HS2.out HON.out (by omega)
        go_wp2_with fail
        refine bodyPost_ret (results_tmp4 rfl _ _ _) rfl ?_
        exact ⟨k, _, _, t, _, us, bs, rfl, HR.out⟩
      | true =>
        have hss := HS2.out.alloc (.cells #[.slice va t.length vc] 24)
        have HSS : Hid (SSD (w2.alloc (.cells #[.slice va t.length vc] 24)) w1.heap.size (w.heap.size + 1) u10 us bs) := hss
        have own1 : (w2.alloc (.cells #[.slice va t.length vc] 24)).ownsRow w1.heap.size 24 1 u10 us.length us := hss.1
        have HOU : Hid (OwnNodes (w2.alloc (.cells #[.slice va t.length vc] 24)) (w.heap.size + 1) (.slice va t.length vc) t) := World.ownsRow.alloc HO2.out _
        have cellsN := oneS_cells w2 (.slice va t.length vc)
        clear hss
        go_wp2_with (at_builtin; refine wpList_append_own _ rfl _ _ 25 rfl w1.heap.size 24 i0 (.slice none 0 0) 1 24 Tryd.underlying25 hi hz0 hz1 hz2 rfl (by decide) _ _ _ rfl own1 ⟨w2.heap.size, 0, none⟩ 1 1 [.slice va t.length vc] rfl rfl cellsN (by intro u hu; simp at hu; subst hu; rfl) (by unfold maxLen; omega) (by omega) (by have := HON.out.size; simp; omega) ?_)
        intro v7 w7 own7 grow7 _
        have HS7 : Hid (SSD w7 w1.heap.size (w.heap.size + 1) v7 (us ++ [.slice va t.length vc]) (bs ++ [t])) := HSS.out.append HOU.out HOT.out.2.1 HOT.out.2.2 own7 grow7
        have hrow : ∀ k, u10.ownBlock = some k → w1.heap.size ≤ k := fun k hk => (World.ownsRow.lt own1 k hk).1
        have HO7 : Hid (Only w.heap.size w1 w7) := by
          have hs := HON.out.size
          refine ⟨grow7.os.trans HON.out.os, grow7.tape.trans HON.out.tape, grow7.output.trans HON.out.output, Nat.le_trans hs (Nat.le_trans (by simp) grow7.size), fun k hk hks => ?_⟩
          rw [grow7.block k (by simp; omega) (fun e => by have := hrow k e.symm; omega), Below.heap_alloc _ _ _ (by omega)]
          exact HON.out.block k hk hks
        have HC7 : Hid (Cur w.heap.size w.heap.size _ (.slice sa sl sc) w7) := (HC2.out.alloc (.cells #[.slice va t.length vc] 24)).below ⟨grow7.os, grow7.tape, grow7.output, grow7.size, fun k hk => grow7.block k (by have := HON.out.size; have := HB1.out.2; simp; omega) (fun e => by have := hrow k e.symm; have := HB1.out.2; omega)⟩
        clear own1 own7 grow7 cellsN hrow
        have HR : Hid _ := HFIN.out v7 _ _ w7 HS7.out HO7.out (by simp only [List.length_append, List.length_singleton]; omega)
        go_wp2_with fail
        refine bodyPost_ret (results_tmp4 rfl _ _ _) rfl ?_
        exact ⟨k, _, _, t, _, _, _, rfl, HR.out⟩
end Go.Proofs.YtkmgcgmeibhnmaaDoor

namespace Go.Proofs.YtkmgcgmeibhnmaaDoor
open Go Go.RowKit
open M
set_option linter.unusedVariables false

theorem said_of_kind {k : Nat} {t : List Nd} {st : List Int} (h : 0 < kindL k st.length t) (hst : ∀ s ∈ st, goodB k s = true) : saidV k t st = true := by
  unfold saidV
  rw [decide_eq_true h, Bool.true_and]
  exact List.all_eq_true.2 hst
theorem st_words {k : Nat} {st : List Int} (h0 : ∀ s ∈ st, 0 ≤ s) (hst : ∀ s ∈ st, goodB k s = true) : ∀ s ∈ st, 0 ≤ s ∧ s < pw k := by
  intro s hs
  obtain ⟨k', e, _, _, h3⟩ := goodB_true (hst s hs)
  obtain rfl : k = k' := by omega
  exact ⟨h0 s hs, h3⟩
theorem pos_of {t : List Nd} {r : Tr} (hok : ∀ x ∈ t, NdOk x) (h : r.flat = t) : Pos r := by
  intro x hx
  rw [h] at hx
  exact (hok x hx).2.2.1
theorem below_of {k : Int} {n : Nat} {r : Tr} (h : r.Ok k n) (hp : Pos r) : VarsBelow r n := by
  intro x hx h2
  have h3 := ok_vars h x hx h2
  have h4 := hp x hx
  omega
/-- what is joined comes to what its op makes of both -/
theorem joined_said {k : Nat} {op : Int} {a b : List Nd} {st : List Int} (hoka : ∀ x ∈ a, NdOk x) (hokb : ∀ x ∈ b, NdOk x) (h : saidJoin k st.length op a b = true) (h0 : ∀ s ∈ st, 0 ≤ s) (hst : ∀ s ∈ st, goodB k s = true) :
    1 ≤ st.length ∧ st.length ≤ 4 ∧ saidV k (joinL k st.length op a b) st = true ∧ saidV k a st = true ∧ saidV k b st = true ∧ valueL k (joinL k st.length op a b) st = doOp k op (valueL k a st) (valueL k b st) ∧ (0 ≤ valueL k a st ∧ valueL k a st < pw k) ∧ (0 ≤ valueL k b st ∧ valueL k b st < pw k) ∧ (1 ≤ k ∧ k ≤ 64) := by
  have h' : manyOf op = 2 ∧ kindL k st.length a = partOf op ∧ kindL k st.length b = partOf op ∧ 0 < kindL k st.length (a ++ b ++ [(op, 0)]) := of_decide_eq_true h
  obtain ⟨m2, ha, hb, hj⟩ := h'
  have hne : manyOf op ≠ 0 := by omega
  have hpp := part_many hne
  obtain ⟨g1, g2, g3, g4, g5, ra, hra, a1, a2, a3⟩ := root_tree (show 0 < kindL k st.length a by omega)
  obtain ⟨_, _, _, _, _, rb, hrb, b1, b2, b3⟩ := root_tree (show 0 < kindL k st.length b by omega)
  obtain ⟨k', e, hk1, hk64⟩ := wideB_true g1
  obtain rfl : k = k' := by omega
  have hT : (Tr.two (op, 0) ra rb).Ok k st.length := ⟨own_many hne, okN_zero hne, m2, by rw [a3]; exact ha, by rw [b3]; exact hb, a1, b1⟩
  have hF : (Tr.two (op, 0) ra rb).flat = a ++ b ++ [(op, 0)] := by
    show ra.flat ++ rb.flat ++ [(op, 0)] = _
    rw [a2, b2]
  have hsz : (Tr.two (op, 0) ra rb).size ≤ 48 := by
    by_cases hs : (Tr.two (op, 0) ra rb).size ≤ 48
    · exact hs
    · have := Tr.kindL_long (wide := k) (vars := st.length) (t := Tr.two (op, 0) ra rb) (by omega)
      rw [hF] at this
      omega
  have hJ : joinL k st.length op a b = (Tr.two (op, 0) ra rb).flat := by
    unfold joinL madeL
    rw [if_pos ⟨m2, ha, hb⟩, if_pos hj, hF]
  have sa := said_of_kind (show 0 < kindL k st.length a by omega) hst
  have sb := said_of_kind (show 0 < kindL k st.length b by omega) hst
  have va : valueL k a st = trVal k st ra := by have := valueL_tree sa hra; simpa using this
  have vb : valueL k b st = trVal k st rb := by have := valueL_tree sb hrb; simpa using this
  obtain ⟨s1, s2⟩ := value_of_flat hT hk1 hk64 (by omega) (by omega) hsz hst
  have wst := st_words h0 hst
  have pa := pos_of hoka a2
  have pb := pos_of hokb b2
  have oa := (trVal_ok hk1 hk64 wst a1 pa (below_of a1 pa)).word hk1
  have ob := (trVal_ok hk1 hk64 wst b1 pb (below_of b1 pb)).word hk1
  rw [hJ, va, vb]
  exact ⟨by omega, by omega, s1, sa, sb, s2, oa, ob, hk1, hk64⟩
theorem joined_good {k : Nat} {vars op : Int} {a b : List Nd} (h : saidJoin k vars op a b = true) : 1 ≤ vars ∧ vars ≤ 4 ∧ 1 ≤ k ∧ k ≤ 64 := by
  have h' : manyOf op = 2 ∧ kindL k vars a = partOf op ∧ kindL k vars b = partOf op ∧ 0 < kindL k vars (a ++ b ++ [(op, 0)]) := of_decide_eq_true h
  obtain ⟨g1, g2, g3, _⟩ := root_tree h'.2.2.2
  obtain ⟨k', e, hk1, hk64⟩ := wideB_true g1
  exact ⟨g2, g3, by omega, by omega⟩
/-- twice the same op of one part is as before -/
theorem turned_said {k : Nat} {op : Int} {t : List Nd} {st : List Int} (hok : ∀ x ∈ t, NdOk x) (h1 : saidTurn k st.length op t = true) (h2 : saidTurn k st.length op (turnL k st.length op t) = true) (h0 : ∀ s ∈ st, 0 ≤ s) (hst : ∀ s ∈ st, goodB k s = true) :
    saidV k (turnL k st.length op (turnL k st.length op t)) st = true ∧ saidV k t st = true ∧ valueL k (turnL k st.length op (turnL k st.length op t)) st = valueL k t st := by
  have h1' : manyOf op = 1 ∧ kindL k st.length t = partOf op ∧ 0 < kindL k st.length (t ++ [(op, 0)]) := of_decide_eq_true h1
  obtain ⟨m1, ht, hj⟩ := h1'
  have hne : manyOf op ≠ 0 := by omega
  have hpp := part_many hne
  obtain ⟨g1, g2, g3, g4, g5, r, hr, r1, r2, r3⟩ := root_tree (show 0 < kindL k st.length t by omega)
  obtain ⟨k', e, hk1, hk64⟩ := wideB_true g1
  obtain rfl : k = k' := by omega
  have e1 : turnL k st.length op t = t ++ [(op, 0)] := by
    unfold turnL madeL
    rw [if_pos ⟨m1, ht⟩, if_pos hj]
  rw [e1] at h2 ⊢
  have h2' : manyOf op = 1 ∧ kindL k st.length (t ++ [(op, 0)]) = partOf op ∧ 0 < kindL k st.length (t ++ [(op, 0)] ++ [(op, 0)]) := of_decide_eq_true h2
  obtain ⟨_, ht2, hj2⟩ := h2'
  have e2 : turnL k st.length op (t ++ [(op, 0)]) = t ++ [(op, 0)] ++ [(op, 0)] := by
    unfold turnL madeL
    rw [if_pos ⟨m1, ht2⟩, if_pos hj2]
  rw [e2]
  have hop : op = 13 ∨ op = 19 := by
    unfold manyOf at m1
    split at m1
    · assumption
    · split at m1 <;> omega
  have hopk : ownOf op = partOf op := by rcases hop with rfl | rfl <;> rfl
  have hT1 : (Tr.one (op, 0) r).Ok k st.length := ⟨own_many hne, okN_zero hne, m1, by rw [r3]; exact ht, r1⟩
  have hT2 : (Tr.one (op, 0) (Tr.one (op, 0) r)).Ok k st.length := ⟨own_many hne, okN_zero hne, m1, hopk, hT1⟩
  have hF : (Tr.one (op, 0) (Tr.one (op, 0) r)).flat = t ++ [(op, 0)] ++ [(op, 0)] := by
    show r.flat ++ [(op, 0)] ++ [(op, 0)] = _
    rw [r2]
  have hsz : (Tr.one (op, 0) (Tr.one (op, 0) r)).size ≤ 48 := by
    by_cases hs : (Tr.one (op, 0) (Tr.one (op, 0) r)).size ≤ 48
    · exact hs
    · have := Tr.kindL_long (wide := k) (vars := st.length) (t := Tr.one (op, 0) (Tr.one (op, 0) r)) (by omega)
      rw [hF] at this
      omega
  have sa := said_of_kind (show 0 < kindL k st.length t by omega) hst
  have va : valueL k t st = trVal k st r := by have := valueL_tree sa hr; simpa using this
  obtain ⟨s1, s2⟩ := value_of_flat hT2 hk1 hk64 (by omega) (by omega) hsz hst
  rw [hF] at s1 s2
  refine ⟨s1, sa, ?_⟩
  rw [s2, va]
  show val1 k (op, 0) (val1 k (op, 0) (trVal k st r)) = trVal k st r
  unfold val1
  rcases hop with rfl | rfl
  · simp only [if_true]
    omega
  · simp
    omega
theorem turned_good {k : Nat} {vars op : Int} {t : List Nd} (h : saidTurn k vars op t = true) : 1 ≤ vars ∧ vars ≤ 4 ∧ 1 ≤ k ∧ k ≤ 64 := by
  have h' : manyOf op = 1 ∧ kindL k vars t = partOf op ∧ 0 < kindL k vars (t ++ [(op, 0)]) := of_decide_eq_true h
  obtain ⟨g1, g2, g3, _⟩ := root_tree h'.2.2
  obtain ⟨k', e, hk1, hk64⟩ := wideB_true g1
  exact ⟨g2, g3, by omega, by omega⟩
end Go.Proofs.YtkmgcgmeibhnmaaDoor

namespace Go.Proofs.YtkmgcgmeibhnmaaDoor
open Go Go.RowKit
open M
set_option linter.unusedVariables false

theorem trPut_over (bys : List Tr) (r : Tr) (h : ¬ r.nd.1 = 2) : trPut bys r = Tr.over r.nd (r.parts.map (trPut bys)) := by
  cases r with
  | leaf x => simp only [trPut, if_neg (show ¬ x.1 = 2 from h), Tr.parts, List.map_nil, Tr.over, Tr.nd]
  | one x a => rfl
  | two x a b => rfl
theorem trPut_size (bys : List Tr) (hb : ∀ q ∈ bys, q.size ≤ 48) : ∀ r : Tr, (trPut bys r).size ≤ 48 * r.size
  | .leaf x => by
    simp only [trPut]
    split
    · rw [List.getD_eq_getElem?_getD]
      cases hg : bys[x.2.toNat]? with
      | none => simp [Tr.size]
      | some q =>
        have := hb q (List.mem_of_getElem? hg)
        simp [Tr.size]
        omega
    · simp [Tr.size]
  | .one x a => by
    have ha := trPut_size bys hb a
    simp only [trPut, Tr.size]
    omega
  | .two x a b => by
    have ha := trPut_size bys hb a
    have hb' := trPut_size bys hb b
    simp only [trPut, Tr.size]
    omega
/-- what put does with a tree -/
def PutP (wide vars : Int) (bys : List Tr) (r : Tr) : Prop := ∀ (S : Nat → Prop) (b : Nat) (pbs : List Nat) (byv : Value) (w : World), (∀ k, S k → k < w.heap.size) → TrAt w (Old w) r b → PtrsAt w (Old w) byv pbs → TrsAt w S bys pbs → r.Ok wide vars → Pos r → VarsBelow r bys.length → r.size ≤ 1000 →
  Calls Tryd.prog 63 #[ptr b, byv] w fun e w' => ∃ b', e = .returned (ptr b') ∧ TrAt w' (New S w w') (trPut bys r) b' ∧ Below w.heap.size w w'
set_option maxRecDepth 100000 in
set_option maxHeartbeats 1000000 in
theorem put_var (bys : List Tr) (n : Nat) (S : Nat → Prop) (b : Nat) (pbs : List Nat) (byv : Value) (w : World) (htr : TrAt w (Old w) (.leaf (2, (n : Int))) b) (hpv : PtrsAt w (Old w) byv pbs) (hts : TrsAt w S bys pbs) (hn : n < bys.length) (hl : pbs.length ≤ 1000) :
    Calls Tryd.prog 63 #[ptr b, byv] w fun e w' => ∃ b', e = .returned (ptr b') ∧ TrAt w' (New S w w') (trPut bys (.leaf (2, (n : Int)))) b' ∧ Below w.heap.size w w' := by
  obtain ⟨_, n0, n1, _⟩ := htr
  obtain ⟨q, hq⟩ : ∃ q, bys[n]? = some q := ⟨bys[n], List.getElem?_eq_getElem hn⟩
  have hnp : n < pbs.length := by have := hts.1; omega
  obtain ⟨p, hp⟩ : ∃ p, pbs[n]? = some p := ⟨pbs[n], List.getElem?_eq_getElem hnp⟩
  have e1 : trPut bys (.leaf (2, (n : Int))) = q := by
    simp only [trPut, if_true]
    rw [List.getD_eq_getElem?_getD, show ((n : Int)).toNat = n from by omega, hq]
    rfl
  rw [e1]
  have HT : Hid (TrAt w (New S w w) q p) := TrAt.frame (fun k hk => Or.inl hk) (fun _ _ => rfl) (hts.2 n q p hq hp)
  obtain ⟨pa, pc, hsh⟩ := hpv.shape
  subst hsh
  obtain ⟨g, off, rfl, hg, c0⟩ := PtrsAt.at hpv hp
  simp only at n0 n1
  clear hpv hts hq hp e1
  go_enter Tryd.func63, Tryd.ntmps63
  go_wp2_with fail
  first
    | (go_ret; exact ⟨_, rfl, HT.out, Below.refl _ _⟩)
    | (go_region
       all_goals
         go_wp2_with fail
         go_ret
         exact ⟨_, rfl, HT.out, (Below.refl _ _).drew⟩)
set_option maxRecDepth 100000 in
set_option maxHeartbeats 4000000 in
theorem put_step (wide vars : Int) (bys : List Tr) (hb1 : ∀ q ∈ bys, q.kind = 1) (hbs : ∀ q ∈ bys, q.size ≤ 48) (hbl : bys.length ≤ 1000) (r : Tr) (ih : ∀ q ∈ r.parts, PutP wide vars bys q) : PutP wide vars bys r := by
  intro S b pbs byv w hSW htr hby hbt hok hp hvb hsz
  by_cases h2 : r.nd.1 = 2
  · have hm := (Tr.ok_nd hok).2.2
    rw [h2] at hm
    cases r with
    | leaf x =>
      obtain ⟨op, n⟩ := x
      obtain rfl : op = 2 := h2
      have h4 := hp (2, n) (by simp [Tr.flat])
      have h5 := hvb (2, n) (by simp [Tr.flat]) rfl
      simp only at h4 h5
      obtain ⟨i, rfl⟩ := Int.eq_ofNat_of_zero_le h4
      exact put_var bys i S b pbs byv w htr hby hbt (by omega) (by have := hbt.1; omega)
    | one x a => exact absurd (show (0 : Nat) = 1 from hm) (by decide)
    | two x a c => exact absurd (show (0 : Nat) = 2 from hm) (by decide)
  rw [trPut_over bys r h2]
  have e2 : (r.nd.1 == 2) = false := beq_eq_false_iff_ne.2 h2
  obtain ⟨ps, ⟨hb0, n0, n1, _, _, pvl, n4, hpv⟩, hpt⟩ := trAt_open htr
  obtain ⟨pa, pc, hpsh⟩ := hpv.shape
  have hpl2 : ps.length ≤ 2 := by
    have h2 : r.parts.length ≤ 2 := by cases r <;> simp [Tr.parts]
    have := hpt.1
    omega
  have HN : Hid (∀ w1, Below w.heap.size w w1 → w1.cell? ⟨b, 0, none⟩ = some (.int .i64 r.nd.1) ∧ w1.cell? ⟨b, 1, none⟩ = some (.int .u64 r.nd.2) ∧ w1.cell? ⟨b, 4, none⟩ = some pvl) := fun w1 hb => by
    refine ⟨?_, ?_, ?_⟩
    · rw [hb.cell (p := ⟨b, 0, none⟩) hb0]
      exact n0
    · rw [hb.cell (p := ⟨b, 1, none⟩) hb0]
      exact n1
    · rw [hb.cell (p := ⟨b, 4, none⟩) hb0]
      exact n4
  have HIH : Hid (∀ (j q' : Nat) (q : Tr) (w1 : World), r.parts[j]? = some q → ps[j]? = some q' → Below w.heap.size w w1 → Calls Tryd.prog 63 #[ptr q', byv] w1 fun e w' => ∃ b', e = .returned (ptr b') ∧ TrAt w' (New S w1 w') (trPut bys q) b' ∧ Below w1.heap.size w1 w') := by
    intro j q' q w1 hq hq' hb1
    have hmem := List.mem_of_getElem? hq
    have hfl : ∀ x ∈ q.flat, x ∈ r.flat := by
      intro x hx
      rw [Tr.flat_eq r]
      exact List.mem_append_left _ (List.mem_flatMap.2 ⟨q, hmem, hx⟩)
    have hqs : q.size ≤ r.size := by
      rw [Tr.size_eq r]
      have := size_le_sizes hmem
      omega
    exact ih q hmem S q' pbs byv w1 (fun k hk => Nat.lt_of_lt_of_le (hSW k hk) hb1.size) ((hpt.2 j q q' hq hq').below hb1) (hby.below hb1) (TrsAt.frame (fun k hk => hk) (fun k hk => hb1.block k (hSW k hk)) hbt) (Tr.ok_parts hok q hmem).2 (fun x hx => hp x (hfl x hx)) (fun x hx => hvb x (hfl x hx)) (by omega)
  have HMADE : Hid (∀ (bs : List Nat) (v : Value) (w1 : World) (S1 : Nat → Prop), (∀ k, S1 k → k < w1.heap.size) → PtrsAt w1 (Old w1) v bs → TrsAt w1 S1 (r.parts.map (trPut bys)) bs → Calls Tryd.prog 79 #[.agg #[.int .i64 r.nd.1, .int .u64 r.nd.2], v] w1 fun e w' => ∃ b', e = .returned (ptr b') ∧ TrAt w' (New S1 w1 w') (Tr.over r.nd (r.parts.map (trPut bys))) b' ∧ Below w1.heap.size w1 w') := by
    intro bs v w1 S1 hS1 h1 h2
    obtain ⟨m1, m2, m3⟩ := Tr.ok_nd hok
    refine nodeOver_made r.nd.1 r.nd.2 (r.parts.map (trPut bys)) bs v w1 S1 hS1 h1 h2 m1 (by simpa using m3) ?_ ?_
    · intro q hq
      obtain ⟨q0, hq0, rfl⟩ := List.mem_map.1 hq
      rw [trPut_kind bys hb1 q0 (Tr.ok_parts hok q0 hq0).2]
      exact (Tr.ok_parts hok q0 hq0).1
    · have h3 : ∀ l : List Tr, sizes (l.map (trPut bys)) ≤ 48 * sizes l := by
        intro l
        induction l with
        | nil => simp [sizes]
        | cons a l ihl =>
          have := trPut_size bys hbs a
          simp only [List.map_cons, sizes]
          omega
      have h4 := h3 r.parts
      have h5 := Tr.size_eq r
      omega
  have HPV : Hid _ := hpv
  have HL : Hid (r.parts.length = ps.length) := hpt.1
  have HSW : Hid _ := hSW
  obtain ⟨i0, hi, hz0, hz1, hz2⟩ := info_parts infoPtr
  obtain ⟨ya, yc, hysh⟩ := hby.shape
  have HB1 : Hid (Below w.heap.size w w) := Below.refl _ _
  clear ih htr hok hp hvb hpv hpt hb0 hSW hby hbt h2 hb1 hbs hbl
  subst hpsh
  generalize hTR : Tr.over r.nd (r.parts.map (trPut bys)) = TR at *
  clear hTR
  generalize r.nd.1 = op at *
  generalize r.nd.2 = n at *
  subst hysh
  go_enter Tryd.func63, Tryd.ntmps63
  go_wp2_with fail
  go_loopw [5, 27] (fun v i wr => ∃ (j : Nat) (bs : List Nat), j ≤ ps.length ∧ i = .int .i64 j ∧ Hid (wr.ownsRow w.heap.size 83 1 v bs.length (ptrs bs)) ∧ Hid (TrsAt wr (Mix S w wr v) ((r.parts.take j).map (trPut bys)) bs) ∧ Hid (Below w.heap.size w wr)) (fun _ i _ => ps.length - (intOf i).toNat)
  case atStart => exact ⟨0, [], by omega, rfl, World.ownsRow_nil _ _ _ _, ⟨rfl, fun i a p ha _ => by simp at ha⟩, HB1⟩
  case round =>
    obtain ⟨j, bs, hj, rfl, HO, HS, HB⟩ := hrel
    have hbl : bs.length = j := by
      have h1 := HS.out.1
      have h2 := HL.out
      simp at h1
      omega
    by_cases hlt' : j < ps.length
    · obtain ⟨p, hp⟩ : ∃ p, ps[j]? = some p := ⟨ps[j], List.getElem?_eq_getElem hlt'⟩
      obtain ⟨q, hq⟩ : ∃ q, r.parts[j]? = some q := ⟨r.parts[j]'(by have := HL.out; omega), List.getElem?_eq_getElem _⟩
      obtain ⟨g, off, rfl, hg, c0⟩ := PtrsAt.at HPV.out hp
      rw [← HB.out.cell (p := ⟨g, off + j, none⟩) hg] at c0
      have gI := HIH.out j p q wr hq hp HB.out
      have HE : Hid ((r.parts.take j).map (trPut bys) ++ [trPut bys q] = (r.parts.take (j + 1)).map (trPut bys)) := by
        show _ = _
        rw [List.take_add_one, hq]
        simp
      obtain ⟨av, cv, hsv⟩ := own_shape HO.out
      have HBL : Hid (bs.length = j) := hbl
      have hb2' : bs.length ≤ 2 := by omega
      clear hp hq hg hbl
      generalize hNL : (r.parts.take (j + 1)).map (trPut bys) = NL at *
      have HNL : Hid _ := hNL
      clear hNL
      generalize trPut bys q = tq at *
      subst hsv
      go_wp2_with fail
      refine gI.mono ?_
      rintro e w2 ⟨b2, rfl, ht2, hb2⟩
      have HB2 : Hid (Below w.heap.size w w2) := HB.out.trans (hb2.mono HB.out.size)
      have HS2 : Hid (TrsAt w2 (Mix S w w2 (.slice av bs.length cv)) NL (bs ++ [b2])) := by
        show TrsAt _ _ _ _
        rw [← HE.out]
        refine trs_snoc (TrsAt.frame (fun k hk => ⟨hk.1, Nat.lt_of_lt_of_le hk.2.1 hb2.size, hk.2.2⟩) (fun k hk => hb2.block k hk.2.1) HS.out) (TrAt.frame (fun k hk => ?_) (fun _ _ => rfl) ht2)
        rcases hk with hk | hk
        · have h1 := HSW.out k hk
          have h2 := HB2.out.size
          exact ⟨Or.inl hk, by omega, fun e => by have := (HO.out.lt k e.symm).1; omega⟩
        · have h2 := HB.out.size
          exact ⟨Or.inr (by omega), hk.2, fun e => by have := (HO.out.lt k e.symm).2; omega⟩
      have own2 : w2.ownsRow w.heap.size 83 1 (.slice av bs.length cv) bs.length (ptrs bs) := owns_below HO.out hb2
      have HO2 : Hid _ := own2
      have HLX : Hid (ptrs bs ++ [ptr b2] = ptrs (bs ++ [b2]) ∧ bs.length + 1 = (bs ++ [b2]).length) := by
        constructor
        · simp [ptrs]
        · simp
      have own1 := own2.alloc (.cells #[ptr b2] 83)
      generalize ptrs bs = xs0 at own1 HLX
      generalize bs ++ [b2] = NB at *
      have HBx : Hid (Below w.heap.size w (w2.alloc (.cells #[ptr b2] 83))) := HB2.out.alloc HB2.out.size _
      have cellsN := onePtr_cells w2 b2
      clear gI ht2 hb2 own2
      go_wp2_with (at_builtin; refine wpList_append_own_at _ rfl _ _ 85 rfl w.heap.size 83 i0 (.pointer none) 1 8 Tryd.underlying85 hi hz0 hz1 hz2 rfl (by decide) _ _ _ rfl own1 ⟨w2.heap.size, 0, none⟩ 1 1 [ptr b2] rfl rfl cellsN (by intro u hu; simp at hu; subst hu; rfl) (by unfold maxLen; omega) (by omega) (by have h := HB2.out.size; simp; omega) ?_)
      intro v7 w7 own7 grow7 _ hat7
      have HO7 : Hid (w7.ownsRow w.heap.size 83 1 v7 NB.length (ptrs NB)) := by
        show World.ownsRow _ _ _ _ _ _ _
        rw [← HLX.out.1, ← HLX.out.2]
        exact own7
      have HT7 : Hid (TrsAt w7 (Mix S w w7 v7) NL NB) := mix_next HS2.out grow7 hat7 rfl
      have HB7 : Hid (Below w.heap.size w w7) := HBx.out.grown grow7 HBx.out.size (fun k hk => (World.ownsRow.lt HO2.out k hk).1)
      clear own1 own7 grow7 hat7 cellsN
      go_wp2_with fail
      go_roundw
      case rel => exact ⟨j + 1, NB, by omega, by go_num, HO7, by rw [HNL.out]; exact HT7, HB7⟩
      case measure => simp [intOf]; omega
    · obtain rfl : j = ps.length := by omega
      have hall : (r.parts.take ps.length).map (trPut bys) = r.parts.map (trPut bys) := by
        rw [← HL.out, List.take_length]
      have hS2 := HS.out
      rw [hall] at hS2
      obtain ⟨av, cv, hsv⟩ := own_shape HO.out
      have g9 := HMADE.out bs u5 wr (Mix S w wr u5) (fun k hk => hk.2.1) (ptrs_of_own HO.out (by omega)) hS2
      obtain ⟨n0, n1, _⟩ := HN.out wr HB.out
      clear hS2 hall HS HIH HPV HMADE hbl
      subst hsv
      go_wp2_with fail
      refine g9.mono ?_
      rintro e w9 ⟨b9, rfl, ht9, hb9⟩
      have HT9 : Hid (TrAt w9 (fun k => S k ∨ (w.heap.size ≤ k ∧ k < w9.heap.size)) TR b9) := by
        refine TrAt.frame (fun k hk => ?_) (fun _ _ => rfl) ht9
        have h2 := HB.out.size
        have h3 := hb9.size
        rcases hk with hk | hk
        · rcases hk.1 with h1 | h1
          · exact Or.inl h1
          · exact Or.inr ⟨h1, Nat.lt_of_lt_of_le hk.2.1 h3⟩
        · exact Or.inr ⟨by omega, hk.2⟩
      have HB9 : Hid (Below w.heap.size w w9) := HB.out.trans (hb9.mono HB.out.size)
      clear g9 ht9 hb9
      go_wp2_with fail
      go_ret
      exact ⟨_, rfl, HT9.out, HB9.out⟩
theorem put_any (wide vars : Int) (bys : List Tr) (hb1 : ∀ q ∈ bys, q.kind = 1) (hbs : ∀ q ∈ bys, q.size ≤ 48) (hbl : bys.length ≤ 1000) : ∀ r : Tr, PutP wide vars bys r := Tr.ind (put_step wide vars bys hb1 hbs hbl)
end Go.Proofs.YtkmgcgmeibhnmaaDoor

namespace Go.Proofs.YtkmgcgmeibhnmaaDoor
open Go Go.RowKit
open M
set_option linter.unusedVariables false

set_option maxRecDepth 100000 in
set_option maxHeartbeats 4000000 in
theorem rootOf_inN (k : Nat) (vars : Int) (b off cap : Nat) (t : List Nd) (hk1 : 1 ≤ k) (hk : k ≤ 64) (hv : 1 ≤ vars) (hv4 : vars ≤ 4) (hl : t.length ≤ 48) (hok : ∀ x ∈ t, NdOk x) (w : World) (hT : Tab w) (hlt : b < w.heap.size)
    (hc : ∀ (i : Nat) (x : Nd), t[i]? = some x → w.cell? ⟨b, off + i * 2, none⟩ = some (.int .i64 x.1) ∧ w.cell? ⟨b, off + i * 2 + 1, none⟩ = some (.int .u64 x.2)) :
    Calls Tryd.prog 60 #[.int .i64 k, .int .i64 vars, .slice (some ⟨b, off, none⟩) t.length cap] w fun e w' => Below w.heap.size w w' ∧
      ((kindL k vars t = 0 ∧ e = .returned (.pointer none)) ∨ ∃ (r : Tr) (p : Nat), pileT k vars t t.length = some [⟨0, r.kind, r⟩] ∧ e = .returned (ptr p) ∧ TrAt w' (New (fun _ => False) w w') r p) := by
  have hw : wideB k = true := decide_eq_true (by omega)
  have g1 := goodWide_any k w
  rw [hw] at g1
  have g2 := goodVars_yes vars ⟨hv, hv4⟩ w
  clear hw
  obtain ⟨i0, hi, hz0, hz1, hz2⟩ := info_parts infoPtr
  go_enter Tryd.func60, Tryd.ntmps60
  go_wp2_with fail
  refine g1.mono ?_
  rintro e w' ⟨rfl, rfl⟩
  clear g1
  go_wp2_with fail
  refine g2.mono ?_
  rintro e w' ⟨rfl, rfl⟩
  clear g2
  go_wp2_with fail
  have HC : Hid _ := hc
  have HOK : Hid _ := hok
  have HT : Hid (Tab w') := hT
  clear hc hok hT
  go_loopw [7, 30] (fun v i wr => ∃ (j : Nat) (p : List (Ent Tr)) (bs : List Nat), j ≤ t.length ∧ i = .int .i64 j ∧ Hid (pileT k vars t j = some p) ∧ Hid (wr.ownsRow w'.heap.size 83 1 v bs.length (ptrs bs)) ∧ Hid (TrsAt wr (Mix (fun _ => False) w' wr v) (p.reverse.map Ent.val) bs) ∧ Hid (Below w'.heap.size w' wr)) (fun _ i _ => t.length - (intOf i).toNat)
  case atStart => exact ⟨0, [], [], by omega, rfl, rfl, World.ownsRow_nil _ _ _ _, ⟨rfl, fun i a p ha _ => by simp at ha⟩, Below.refl _ _⟩
  case round =>
    obtain ⟨j, p, bs, hj, rfl, HF, HO, HS, HB⟩ := hrel
    have hpl : p.length = bs.length := by
      have := HS.out.1
      simpa using this
    by_cases hlt' : j < t.length
    · obtain ⟨⟨op, n⟩, hx⟩ : ∃ x, t[j]? = some x := ⟨t[j], List.getElem?_eq_getElem hlt'⟩
      obtain ⟨ho0, ho1, hn0, hn1⟩ := HOK.out (op, n) (List.mem_of_getElem? hx)
      simp only at ho0 ho1 hn0 hn1
      obtain ⟨c0, c1⟩ := HC.out j (op, n) hx
      rw [← HB.out.cell (p := ⟨b, off + j * 2, none⟩) hlt] at c0
      rw [← HB.out.cell (p := ⟨b, off + j * 2 + 1, none⟩) hlt] at c1
      simp only at c0 c1
      have HX : Hid (t[j]? = some (op, n)) := hx
      have hb1 : Below w'.heap.size w' (wr.alloc (.cells #[.int .i64 op, .int .u64 n] 91)) := HB.out.alloc HB.out.size _
      have g1 := shapeOf_any op (wr.alloc (.cells #[.int .i64 op, .int .u64 n] 91))
      have g2 := goodN_any k vars op n (by omega) (by omega) hn0 hn1 (wr.alloc (.cells #[.int .i64 op, .int .u64 n] 91)) (HT.out.below hb1 HT.out.some)
      have HBa : Hid (Below w'.heap.size w' (wr.alloc (.cells #[.int .i64 op, .int .u64 n] 91))) := hb1
      have hpj : bs.length ≤ 48 := by
        have h1 := foldK_of_pileT HF.out
        have h2 := foldK_len _ _ _ h1
        simp at h2
        omega
      have hml := manyOf_le op
      have HPL : Hid (p.length = bs.length) := hpl
      obtain ⟨ad, cp, hv7⟩ := own_shape HO.out
      clear hx hb1 hpl
      cases z2 : okN k vars op n with
      | false =>
        have HK : Hid (kindL k vars t = 0) := kind_stop HX.out (foldK_of_pileT HF.out) (step_num z2)
        rw [z2] at g2
        clear z2
        generalize ownOf op = o at *
        generalize manyOf op = m at *
        generalize wantOf op = q at *
        subst hv7
        go_wp2_with fail
        refine g1.mono ?_
        rintro e w2 ⟨rfl, rfl⟩
        clear g1
        go_wp2_with fail
        refine g2.mono ?_
        rintro e w2 ⟨rfl, hb2⟩
        clear g2
        have HB2 : Hid (Below w'.heap.size w' w2) := HBa.out.trans (hb2.mono HBa.out.size)
        clear hb2
        go_wp2_with fail
        go_ret
        exact ⟨HB2.out, Or.inl ⟨HK.out, rfl⟩⟩
      | true =>
        rw [z2] at g2
        by_cases z3 : bs.length < manyOf op
        · have HK : Hid (kindL k vars t = 0) := kind_stop HX.out (foldK_of_pileT HF.out) (step_few (by have := HPL.out; simp; omega))
          clear z2
          generalize ownOf op = o at *
          generalize manyOf op = m at *
          generalize wantOf op = q at *
          subst hv7
          go_wp2_with fail
          refine g1.mono ?_
          rintro e w2 ⟨rfl, rfl⟩
          clear g1
          go_wp2_with fail
          refine g2.mono ?_
          rintro e w2 ⟨rfl, hb2⟩
          clear g2
          have HB2 : Hid (Below w'.heap.size w' w2) := HBa.out.trans (hb2.mono HBa.out.size)
          clear hb2
          go_wp2_with fail
          go_ret
          exact ⟨HB2.out, Or.inl ⟨HK.out, rfl⟩⟩
        · subst hv7
          obtain ⟨m, hmm⟩ : ∃ m, m = manyOf op := ⟨_, rfl⟩
          rw [← hmm] at g1 z3 hml
          have HMM : Hid (m = manyOf op) := hmm
          clear hmm
          generalize hqq : wantOf op = q at g1
          generalize hoo : ownOf op = o at g1
          go_wp2_with fail
          refine g1.mono ?_
          rintro e w2 ⟨rfl, rfl⟩
          clear g1
          go_wp2_with fail
          refine g2.mono ?_
          rintro e w2 ⟨rfl, hb2⟩
          clear g2
          have HB2 : Hid (Below w'.heap.size w' w2) := HBa.out.trans (hb2.mono HBa.out.size)
          have e0 : w2.cell? ⟨wr.heap.size, 0, none⟩ = some (.int .i64 op) := by
            rw [hb2.cell (p := ⟨wr.heap.size, 0, none⟩) (by simp)]
            simp
          have e1 : w2.cell? ⟨wr.heap.size, 1, none⟩ = some (.int .u64 n) := by
            rw [hb2.cell (p := ⟨wr.heap.size, 1, none⟩) (by simp)]
            simp
          obtain ⟨rest, hrest⟩ : ∃ rest : Nat, (bs.length : Int) - (m : Int) = (rest : Int) := ⟨bs.length - m, by omega⟩
          have hr1 : rest ≤ bs.length := by omega
          have HR : Hid (rest + m = bs.length) := (by omega : rest + m = bs.length)
          go_wp2_with fail
          clear hrest
          have hp1 : Hid (TrsAt w2 (Mix (fun _ => False) w' w2 (.slice ad bs.length cp)) (p.reverse.map Ent.val) bs ∧ w2.ownsRow w'.heap.size 83 1 (.slice ad bs.length cp) bs.length (ptrs bs)) := by
            have hba : Below wr.heap.size wr w2 := ((Below.refl _ _).alloc (Nat.le_refl _) _).trans (hb2.mono (by simp))
            exact ⟨TrsAt.frame (fun k hk => ⟨hk.1, Nat.lt_of_lt_of_le hk.2.1 hba.size, hk.2.2⟩) (fun k hk => hba.block k hk.2.1) HS.out, owns_below HO.out hba⟩
          have HLP : Hid ((p.reverse.map Ent.val).drop rest = (p.take m).reverse.map Ent.val ∧ (p.reverse.map Ent.val).take rest = (p.drop m).reverse.map Ent.val) := by
            have h1 := HPL.out
            have h2 := HR.out
            constructor
            · rw [← List.map_drop, List.drop_reverse, show p.length - rest = m from by omega]
            · rw [← List.map_take, List.take_reverse, show p.length - rest = m from by omega]
          by_cases hgood : ¬ ownOf op = 0 ∧ ∀ e ∈ p.take m, e.kind = partOf op
          · obtain ⟨a0, hst⟩ := step_tree (j := j) (k := k) (vars := vars) (x := (op, n)) (p := p) hgood.1 z2 (by have := HMM.out; have := HPL.out; have := HR.out; simp only; omega) (by rw [show manyOf (op, n).1 = m from HMM.out.symm]; exact hgood.2)
            have HF2 : Hid (pileT k vars t (j + 1) = some (⟨a0, ownOf op, Tr.over (op, n) ((p.take m).reverse.map Ent.val)⟩ :: p.drop m)) := by
              show pileE k vars Tr.leaf Tr.one Tr.two t (j + 1) = _
              rw [pileE, show pileE k vars Tr.leaf Tr.one Tr.two t j = some p from HF.out, HX.out]
              simp only [Option.bind_some]
              rw [hst, ← show m = manyOf (op, n).1 from HMM.out]
            have GE : Hid (∀ (sl : Value) (w1 : World), PtrsAt w1 (Old w1) sl (bs.drop rest) → Below w2.heap.size w2 w1 → Calls Tryd.prog 79 #[.agg #[.int .i64 op, .int .u64 n], sl] w1 fun e w3 => ∃ pb, e = .returned (ptr pb) ∧
                TrsAt w3 (Mix (fun _ => False) w' w3 (.slice ad bs.length cp)) ((p.drop m).reverse.map Ent.val ++ [Tr.over (op, n) ((p.take m).reverse.map Ent.val)]) (bs.take rest ++ [pb]) ∧ w3.ownsRow w'.heap.size 83 1 (.slice ad bs.length cp) bs.length (ptrs bs) ∧ Below w'.heap.size w' w3) := by
              intro sl w1 hsl hb3
              obtain ⟨h1, h2⟩ := hp1.out
              have h1' : TrsAt w1 (Mix (fun _ => False) w' w1 (.slice ad bs.length cp)) (p.reverse.map Ent.val) bs := TrsAt.frame (fun k hk => ⟨hk.1, Nat.lt_of_lt_of_le hk.2.1 hb3.size, hk.2.2⟩) (fun k hk => hb3.block k hk.2.1) h1
              have h2' := owns_below h2 hb3
              have hd := trs_drop h1' rest
              rw [HLP.out.1] at hd
              have ht := trs_take h1' rest
              rw [HLP.out.2] at ht
              have hkk : ∀ q ∈ (p.take m).reverse.map Ent.val, q.kind = partOf op := by
                intro q hq
                obtain ⟨e, he, rfl⟩ := List.mem_map.1 hq
                have he' : e ∈ p.take m := by simpa using he
                rw [← ((pileT_ok j p HF.out).1 e (List.mem_of_mem_take he')).2]
                exact hgood.2 e he'
              have hsz : sizes ((p.take m).reverse.map Ent.val) ≤ 1000000 := by
                have h3 := pile_sizes HF.out
                have h4 := sizes_append ((p.reverse.map Ent.val).take rest) ((p.reverse.map Ent.val).drop rest)
                rw [List.take_append_drop, HLP.out.1] at h4
                omega
              refine (nodeOver_made op n _ (bs.drop rest) sl w1 (Mix (fun _ => False) w' w1 (.slice ad bs.length cp)) (fun k hk => hk.2.1) hsl hd hgood.1 ?_ hkk hsz).mono ?_
              · rw [← HMM.out]
                have := HPL.out
                have := HR.out
                simp
                omega
              · rintro e w3 ⟨pb, he, htr, hb4⟩
                have hS : ∀ k, Mix (fun _ => False) w' w1 (.slice ad bs.length cp) k → Mix (fun _ => False) w' w3 (.slice ad bs.length cp) k := fun k hk => ⟨hk.1, Nat.lt_of_lt_of_le hk.2.1 hb4.size, hk.2.2⟩
                refine ⟨pb, he, trs_snoc (TrsAt.frame hS (fun k hk => hb4.block k hk.2.1) ht) (TrAt.frame (fun k hk => ?_) (fun _ _ => rfl) htr), owns_below h2' hb4, HB2.out.trans ((hb3.trans (hb4.mono hb3.size)).mono HB2.out.size)⟩
                rcases hk with hk | ⟨hk1, hk2⟩
                · exact hS k hk
                · refine ⟨Or.inr (Nat.le_trans HB2.out.size (Nat.le_trans hb3.size hk1)), hk2, fun e => ?_⟩
                  have := (h2'.lt k e.symm).2
                  omega
            clear hgood hst HF
            have HSH : Hid _ := hp1.out.2
            have HN2 : Hid ((p.drop m).reverse.map Ent.val ++ [Tr.over (op, n) ((p.take m).reverse.map Ent.val)] = ((⟨a0, ownOf op, Tr.over (op, n) ((p.take m).reverse.map Ent.val)⟩ :: p.drop m).reverse.map Ent.val)) := by
              show _ = _
              simp
            generalize hNL : (p.drop m).reverse.map Ent.val ++ [Tr.over (op, n) ((p.take m).reverse.map Ent.val)] = NL at *
            generalize hNP : (⟨a0, ownOf op, Tr.over (op, n) ((p.take m).reverse.map Ent.val)⟩ :: p.drop m : List (Ent Tr)) = NP at *
            clear hNL hNP HLP
            rcases HO.out.2 with ⟨hnil, hb0⟩ | ⟨g, cap', cur, hv, hg, hh, hcap1, hcap2, hcap3, hcur⟩
            · have hbs : bs = [] := List.length_eq_zero_iff.1 hb0
              subst hbs
              obtain rfl : rest = 0 := by simp at hr1; exact hr1
              obtain ⟨rfl, rfl⟩ : ad = none ∧ cp = 0 := by
                simp at hnil
                exact hnil
              have GC := fun (w1 : World) (hb3 : Below w2.heap.size w2 w1) => GE.out (.slice none 0 0) w1 ⟨by simp, Or.inl ⟨rfl, none, 0, rfl⟩⟩ hb3
              have hd2 : Below w2.heap.size w2 w2.drew := (Below.refl _ _).drew
              clear hnil hb0 HO hr1 hp1 HSH GE HPL HS
              go_region_with (go_at_call 79; refine (GC _ hd2).mono ?_; rintro e w3 ⟨pb, rfl, ht3, ho3, hb3⟩; have HT3 : Hid _ := ht3; have HO3 : Hid _ := ho3; have HB3 : Hid _ := hb3; clear ht3 ho3 hb3)
              all_goals clear GC hd2
              all_goals
                have own1 : (w3.alloc (.cells #[ptr pb] 83)).ownsRow w'.heap.size 83 1 (.slice none 0 0) 0 [] := World.ownsRow_nil _ _ _ _
                have HBx : Hid (Below w'.heap.size w' (w3.alloc (.cells #[ptr pb] 83))) := HB3.out.alloc HB3.out.size _
                have cellsN := onePtr_cells w3 pb
                go_wp2_with (at_builtin; refine wpList_append_own_at _ rfl _ _ 85 rfl w'.heap.size 83 i0 (.pointer none) 1 8 Tryd.underlying85 hi hz0 hz1 hz2 rfl (by decide) _ _ _ rfl own1 ⟨w3.heap.size, 0, none⟩ 1 1 [ptr pb] rfl rfl cellsN (by intro u hu; simp at hu; subst hu; rfl) (by unfold maxLen; omega) (by omega) (by have h := HB3.out.size; simp; omega) ?_)
                intro v7 w7 own7 grow7 _ hat7
                have HO7 : Hid (w7.ownsRow w'.heap.size 83 1 v7 ([pb] : List Nat).length (ptrs [pb])) := own7
                have HT7 : Hid (TrsAt w7 (Mix (fun _ => False) w' w7 v7) (NP.reverse.map Ent.val) [pb]) := by
                  show TrsAt _ _ _ _
                  rw [← HN2.out]
                  exact mix_next HT3.out grow7 hat7 rfl
                have HB7 : Hid (Below w'.heap.size w' w7) := HBx.out.grown grow7 HBx.out.size (fun k hk => by cases hk)
                clear own1 own7 grow7 hat7 cellsN
                go_wp2_with fail
                go_roundw
                case rel => exact ⟨j + 1, NP, [pb], by omega, by go_num, HF2, HO7, HT7, HB7⟩
                case measure => simp [intOf]; omega
            · obtain ⟨rfl, rfl⟩ : ad = some ⟨g, 0, none⟩ ∧ cap' = cp := by
                simp at hv
                exact ⟨hv.1, hv.2.symm⟩
              have hcap2' : cap' ≤ 9223372036854775807 := hcap2
              have GC := fun (w1 : World) (hb3 : Below w2.heap.size w2 w1) => GE.out _ w1 (own_high (owns_below HSH.out hb3) rfl hr1 hpj) hb3
              obtain ⟨asl, hasl⟩ : ∃ asl, (if cap' = rest then some (⟨g, 0, none⟩ : Addr) else some ⟨g, rest, none⟩) = asl := ⟨_, rfl⟩
              rw [hasl] at GC
              have hd2 : Below w2.heap.size w2 w2.drew := (Below.refl _ _).drew
              have HG0 : Hid (w'.heap.size ≤ g) := hg
              clear hv hcur hcap2 hh HO hg hp1 HSH GE HPL HS
              go_region_with (go_at_call 79; refine (GC _ hd2).mono ?_; rintro e w3 ⟨pb, rfl, ht3, ho3, hb3⟩; have HT3 : Hid _ := ht3; have HO3 : Hid _ := ho3; have HB3 : Hid _ := hb3; clear ht3 ho3 hb3)
              all_goals clear GC hd2 hasl
              all_goals
                have own1 := (own_low HO3.out rfl hr1).alloc (.cells #[ptr pb] 83)
                have HLX : Hid (ptrs (bs.take rest) ++ [ptr pb] = ptrs (bs.take rest ++ [pb]) ∧ rest + 1 = (bs.take rest ++ [pb]).length) := by
                  constructor
                  · simp [ptrs]
                  · simp
                    omega
                generalize ptrs (bs.take rest) = xs0 at own1 HLX
                generalize bs.take rest ++ [pb] = NB at *
                have HBx : Hid (Below w'.heap.size w' (w3.alloc (.cells #[ptr pb] 83))) := HB3.out.alloc HB3.out.size _
                have cellsN := onePtr_cells w3 pb
                go_wp2_with (at_builtin; refine wpList_append_own_at _ rfl _ _ 85 rfl w'.heap.size 83 i0 (.pointer none) 1 8 Tryd.underlying85 hi hz0 hz1 hz2 rfl (by decide) _ _ _ rfl own1 ⟨w3.heap.size, 0, none⟩ 1 1 [ptr pb] rfl rfl cellsN (by intro u hu; simp at hu; subst hu; rfl) (by unfold maxLen; omega) (by omega) (by have h := HB3.out.size; simp; omega) ?_)
                intro v7 w7 own7 grow7 _ hat7
                have HO7 : Hid (w7.ownsRow w'.heap.size 83 1 v7 NB.length (ptrs NB)) := by
                  show World.ownsRow _ _ _ _ _ _ _
                  rw [← HLX.out.1, ← HLX.out.2]
                  exact own7
                have HT7 : Hid (TrsAt w7 (Mix (fun _ => False) w' w7 v7) (NP.reverse.map Ent.val) NB) := by
                  show TrsAt _ _ _ _
                  rw [← HN2.out]
                  exact mix_next HT3.out grow7 hat7 rfl
                have HB7 : Hid (Below w'.heap.size w' w7) := HBx.out.grown grow7 HBx.out.size (fun k hk => by
                  have e : g = k := Option.some.inj hk
                  rw [← e]
                  exact HG0.out)
                clear own1 own7 grow7 hat7 cellsN
                go_wp2_with fail
                go_roundw
                case rel => exact ⟨j + 1, NP, NB, by omega, by go_num, HF2, HO7, HT7, HB7⟩
                case measure => simp [intOf]; omega
          · have HK : Hid (kindL k vars t = 0) := by
              show _ = _
              by_cases h0 : ownOf op = 0
              · exact kind_stop HX.out (foldK_of_pileT HF.out) (step_own h0)
              · refine kind_stop HX.out (foldK_of_pileT HF.out) (step_kind (x := (op, n)) (by have := HMM.out; have := HPL.out; have := HR.out; simp only; omega) ?_)
                rw [show manyOf (op, n).1 = m from HMM.out.symm]
                refine Classical.byContradiction fun hne => hgood ⟨h0, fun e he => Classical.byContradiction fun hk' => hne ⟨e, he, hk'⟩⟩
            have GE : Hid (∀ (sl : Value) (w1 : World), PtrsAt w1 (Old w1) sl (bs.drop rest) → Below w2.heap.size w2 w1 → Calls Tryd.prog 79 #[.agg #[.int .i64 op, .int .u64 n], sl] w1 fun e w3 => e = .returned (.pointer none) ∧ Below w'.heap.size w' w3) := by
              intro sl w1 hsl hb3
              obtain ⟨h1, h2⟩ := hp1.out
              have h1' : TrsAt w1 (Mix (fun _ => False) w' w1 (.slice ad bs.length cp)) (p.reverse.map Ent.val) bs := TrsAt.frame (fun k hk => ⟨hk.1, Nat.lt_of_lt_of_le hk.2.1 hb3.size, hk.2.2⟩) (fun k hk => hb3.block k hk.2.1) h1
              have hd := trs_drop h1' rest
              rw [HLP.out.1] at hd
              have hsz : sizes ((p.take m).reverse.map Ent.val) ≤ 1000000 := by
                have h3 := pile_sizes HF.out
                have h4 := sizes_append ((p.reverse.map Ent.val).take rest) ((p.reverse.map Ent.val).drop rest)
                rw [List.take_append_drop, HLP.out.1] at h4
                omega
              refine (nodeOver_mixed op n _ (bs.drop rest) sl w1 (Mix (fun _ => False) w' w1 (.slice ad bs.length cp)) (fun k hk => hk.2.1) hsl hd ?_ ?_ hsz).mono ?_
              · rw [← HMM.out]
                have := HPL.out
                have := HR.out
                simp
                omega
              · rintro ⟨h0, hall⟩
                refine hgood ⟨h0, fun e he => ?_⟩
                rw [((pileT_ok j p HF.out).1 e (List.mem_of_mem_take he)).2]
                exact hall e.val (List.mem_map.2 ⟨e, by simpa using he, rfl⟩)
              · rintro e w3 ⟨he, hb4⟩
                exact ⟨he, HB2.out.trans ((hb3.trans (hb4.mono hb3.size)).mono HB2.out.size)⟩
            clear hgood HF HLP
            have HSH : Hid _ := hp1.out.2
            rcases HO.out.2 with ⟨hnil, hb0⟩ | ⟨g, cap', cur, hv, hg, hh, hcap1, hcap2, hcap3, hcur⟩
            · have hbs : bs = [] := List.length_eq_zero_iff.1 hb0
              subst hbs
              obtain rfl : rest = 0 := by simp at hr1; exact hr1
              obtain ⟨rfl, rfl⟩ : ad = none ∧ cp = 0 := by
                simp at hnil
                exact hnil
              have GC := fun (w1 : World) (hb3 : Below w2.heap.size w2 w1) => GE.out (.slice none 0 0) w1 ⟨by simp, Or.inl ⟨rfl, none, 0, rfl⟩⟩ hb3
              have hd2 : Below w2.heap.size w2 w2.drew := (Below.refl _ _).drew
              clear hnil hb0 HO hr1 hp1 HSH GE HPL HS
              go_region_with (go_at_call 79; refine (GC _ hd2).mono ?_; rintro e w3 ⟨rfl, hb3⟩; have HB3 : Hid _ := hb3; clear hb3)
              all_goals clear GC hd2
              all_goals
                go_wp2_with fail
                go_ret
                exact ⟨HB3.out, Or.inl ⟨HK.out, rfl⟩⟩
            · obtain ⟨rfl, rfl⟩ : ad = some ⟨g, 0, none⟩ ∧ cap' = cp := by
                simp at hv
                exact ⟨hv.1, hv.2.symm⟩
              have hcap2' : cap' ≤ 9223372036854775807 := hcap2
              have GC := fun (w1 : World) (hb3 : Below w2.heap.size w2 w1) => GE.out _ w1 (own_high (owns_below HSH.out hb3) rfl hr1 hpj) hb3
              obtain ⟨asl, hasl⟩ : ∃ asl, (if cap' = rest then some (⟨g, 0, none⟩ : Addr) else some ⟨g, rest, none⟩) = asl := ⟨_, rfl⟩
              rw [hasl] at GC
              have hd2 : Below w2.heap.size w2 w2.drew := (Below.refl _ _).drew
              clear hv hcur hcap2 hh HO hg hp1 HSH GE HPL HS
              go_region_with (go_at_call 79; refine (GC _ hd2).mono ?_; rintro e w3 ⟨rfl, hb3⟩; have HB3 : Hid _ := hb3; clear hb3)
              all_goals clear GC hd2 hasl
              all_goals
                go_wp2_with fail
                go_ret
                exact ⟨HB3.out, Or.inl ⟨HK.out, rfl⟩⟩
    · obtain rfl : j = t.length := by omega
      have HE := pile_end hk1 hk hv hv4 hl HF.out
      obtain ⟨ad, cp, hv7⟩ := own_shape HO.out
      by_cases h1 : bs.length = 1
      · obtain ⟨b0, rfl⟩ := List.length_eq_one_iff.1 h1
        obtain ⟨e0, rfl⟩ : ∃ e0, p = [e0] := List.length_eq_one_iff.1 hpl
        have hr := HE.2 e0 rfl
        have htr : TrAt wr (New (fun _ => False) w' wr) e0.val b0 := TrAt.frame (fun k hk => Or.inr ⟨hk.1.elim (fun h => h.elim) id, hk.2.1⟩) (fun _ _ => rfl) (HS.out.2 0 e0.val b0 rfl rfl)
        rcases HO.out.2 with ⟨_, hb0⟩ | ⟨g, cap', cur, hv, hg, hh, _⟩
        · simp at hb0
        have hcell := HO.out.cells (g := g) (by rw [hv]; rfl) 0 (ptr b0) rfl
        have hcell' : wr.cell? ⟨g, 0, none⟩ = some (ptr b0) := hcell
        have HR : Hid (Below w'.heap.size w' wr ∧ ∃ r : Tr, pileT k vars t t.length = some [⟨0, r.kind, r⟩] ∧ TrAt wr (New (fun _ => False) w' wr) r b0) := ⟨HB.out, e0.val, hr, htr⟩
        clear hcell hr htr HE hh HO HS HF HB hv7
        subst hv
        go_wp2_with fail
        go_ret
        obtain ⟨h1, r, h2, h4⟩ := HR.out
        exact ⟨h1, Or.inr ⟨r, b0, h2, rfl, h4⟩⟩
      · have HK : Hid (kindL k vars t = 0) := HE.1 (by omega)
        have hne : ((bs.length : Int) != 1) = true := bne_iff_ne.2 (by omega)
        have hb48 : bs.length ≤ 48 := by
          have h1 := foldK_of_pileT HF.out
          have h2 := foldK_len _ _ _ h1
          simp at h2
          omega
        clear HE HF HS HO
        subst hv7
        go_wp2_with fail
        go_ret
        exact ⟨HB.out, Or.inl ⟨HK.out, rfl⟩⟩
theorem rootOf_new (wide vars : Int) (v : Value) (t : List Nd) (w : World) (hT : Tab w) (h : NodesAt w v t) (r : Tr) (hk : 0 < kindL wide vars t) (hr : pileT wide vars t t.length = some [⟨0, r.kind, r⟩]) :
    Calls Tryd.prog 60 #[.int .i64 wide, .int .i64 vars, v] w fun e w' => ∃ p, e = .returned (ptr p) ∧ TrAt w' (New (fun _ => False) w w') r p ∧ Below w.heap.size w w' := by
  obtain ⟨h1, h2, h3, h4, h5, _⟩ := root_tree hk
  obtain ⟨k, rfl, hk1, hk64⟩ := wideB_true h1
  obtain ⟨hok, hlen, hN⟩ := h
  rcases hN with ⟨rfl, _⟩ | ⟨b, off, cap, rfl, hlt, hc⟩
  · simp at h4
  refine (rootOf_inN k vars b off cap t hk1 hk64 h2 h3 h5 hok w hT hlt hc).mono ?_
  rintro e w' ⟨hb, ⟨h0, _⟩ | ⟨r', p, hr', he, htr⟩⟩
  · omega
  · rw [hr] at hr'
    simp at hr'
    obtain rfl := hr'.2
    exact ⟨p, he, htr, hb⟩
end Go.Proofs.YtkmgcgmeibhnmaaDoor

namespace Go.Proofs.YtkmgcgmeibhnmaaDoor
open Go Go.RowKit
open M
set_option linter.unusedVariables false

set_option maxRecDepth 100000 in
theorem rootOfKind_no (wide vars kind : Int) (v : Value) (t : List Nd) (w : World) (hT : Tab w) (h : NodesAt w v t) (hk0 : kind = 1) (hk : ¬ kindL wide vars t = kind) :
    Calls Tryd.prog 61 #[.int .i64 wide, .int .i64 vars, v, .int .i64 kind] w fun e w' => e = .returned (.pointer none) ∧ Below w.heap.size w w' := by
  subst hk0
  by_cases hp : 0 < kindL wide vars t
  · obtain ⟨_, _, _, _, _, r, hr, _, _, k3⟩ := root_tree hp
    have g := rootOf_yes wide vars v t w hT h r hp hr
    have hne : (r.kind != 1) = true := bne_iff_ne.2 (by rw [k3]; exact hk)
    have HK : Hid _ := hne
    clear hT h hk hp hr k3 hne
    go_enter Tryd.func61, Tryd.ntmps61
    go_wp2_with fail
    refine g.mono ?_
    rintro e w1 ⟨b, rfl, htr, hb⟩
    obtain ⟨ps, ⟨_, _, _, n2, _⟩, _⟩ := trAt_open htr
    have hne := HK.out
    have HB : Hid _ := hb
    clear g htr hb
    generalize r.kind = kk at *
    go_wp2_with fail
    go_ret
    exact ⟨rfl, HB.out⟩
  · have g := rootOf_no wide vars v t w hT h hp
    clear hT h hk hp
    go_enter Tryd.func61, Tryd.ntmps61
    go_wp2_with fail
    refine g.mono ?_
    rintro e w1 ⟨rfl, hb⟩
    have HB : Hid _ := hb
    clear g hb
    go_wp2_with fail
    go_ret
    exact ⟨rfl, HB.out⟩
set_option maxRecDepth 100000 in
theorem rootOfKind_yes (wide vars : Int) (v : Value) (t : List Nd) (w : World) (hT : Tab w) (h : NodesAt w v t) (r : Tr) (hk : kindL wide vars t = 1) (hr : pileT wide vars t t.length = some [⟨0, r.kind, r⟩]) (hrk : r.kind = 1) :
    Calls Tryd.prog 61 #[.int .i64 wide, .int .i64 vars, v, .int .i64 1] w fun e w' => ∃ p, e = .returned (ptr p) ∧ TrAt w' (New (fun _ => False) w w') r p ∧ Below w.heap.size w w' := by
  have g := rootOf_new wide vars v t w hT h r (by omega) hr
  have HK : Hid _ := hrk
  clear hT h hk hr hrk
  go_enter Tryd.func61, Tryd.ntmps61
  go_wp2_with fail
  refine g.mono ?_
  rintro e w1 ⟨b, rfl, htr, hb⟩
  obtain ⟨ps, ⟨_, _, _, n2, _⟩, _⟩ := trAt_open htr
  rw [HK.out] at n2
  have HT : Hid _ := htr
  have HB : Hid _ := hb
  clear g htr hb
  go_wp2_with fail
  go_ret
  exact ⟨_, rfl, HT.out, HB.out⟩
/-- what the program's PutAll is to do -/
def DoesPutAll : Prop := ∀ (wide : Int) (vars : Int) (tv : Value) (t : List Nd) (bv : Value) (bs : List (List Nd)) (w : World), Tab w → NodesAt w tv t → t.length ≤ 1048576 → NodesSS w bv bs → bs.length ≤ 1048576 →
  Calls Tryd.prog 16 #[.int .i64 wide, .int .i64 vars, tv, bv] w fun e w' => ∃ r0' : Value, e = .returned (.tuple #[r0', .bool (saidPut wide vars t bs)]) ∧ OwnNodes w' w.heap.size r0' (putAllL wide vars t bs) ∧ Below w.heap.size w w'
/-- trees of good numbers, for lists of nodes -/
def ByOk (wide vars : Int) (rs : List Tr) (us : List (List Nd)) : Prop := rs.map Tr.flat = us ∧ ∀ q ∈ rs, q.Ok wide vars ∧ q.kind = 1 ∧ q.size ≤ 48
set_option maxRecDepth 100000 in
set_option maxHeartbeats 4000000 in
theorem putAll_good (wide vars : Int) (tv : Value) (t : List Nd) (c o cp : Nat) (bs : List (List Nd)) (w : World) (hT : Tab w) (h : NodesAt w tv t) (hk : 0 < kindL wide vars t) (hn : (bs.length : Int) = vars) (hclt : c < w.heap.size)
    (hcs : ∀ (i : Nat) (u : List Nd), bs[i]? = some u → ∃ z : Value, w.cell? ⟨c, o + i, none⟩ = some z ∧ NodesAt w z u) :
    Calls Tryd.prog 16 #[.int .i64 wide, .int .i64 vars, tv, .slice (some ⟨c, o, none⟩) bs.length cp] w fun e w' => ∃ r0' : Value, e = .returned (.tuple #[r0', .bool (saidPut wide vars t bs)]) ∧ OwnNodes w' w.heap.size r0' (putAllL wide vars t bs) ∧ Below w.heap.size w w' := by
  obtain ⟨g1, g2, g3, g4, g5, r, hr, k1, k2, k3⟩ := root_tree hk
  have g := rootOf_yes wide vars tv t w hT h r hk hr
  have hp : Pos r := by
    intro x hx
    rw [k2] at hx
    exact (h.1 x hx).2.2.1
  have hsz : r.size ≤ 48 := by
    have := r.flat_len
    rw [k2] at this
    omega
  have hvb : VarsBelow r bs.length := by
    intro x hx h2
    have h3 := ok_vars k1 x hx h2
    have h4 := hp x hx
    omega
  have HBAD : Hid ((¬ ∀ u ∈ bs, kindL wide vars u = 1) → saidPut wide vars t bs = false ∧ putAllL wide vars t bs = []) := by
    intro hbad
    have e1 : canPut wide vars t bs = false := by
      cases hcp : canPut wide vars t bs with
      | false => rfl
      | true =>
        unfold canPut at hcp
        rw [decide_eq_true hk, decide_eq_true hn] at hcp
        simp only [Bool.true_and, List.all_eq_true, decide_eq_true_eq] at hcp
        exact absurd hcp hbad
    unfold saidPut putAllL
    rw [e1]
    exact ⟨rfl, rfl⟩
  have HGOOD : Hid ((∀ u ∈ bs, kindL wide vars u = 1) → saidPut wide vars t bs = decide (0 < kindL wide vars (putsL bs t)) ∧ putAllL wide vars t bs = madeL wide vars (putsL bs t)) := by
    intro hall
    have e1 : canPut wide vars t bs = true := by
      unfold canPut
      rw [decide_eq_true hk, decide_eq_true hn]
      simp only [Bool.true_and, List.all_eq_true, decide_eq_true_eq]
      exact hall
    unfold saidPut putAllL
    rw [e1, if_pos rfl, Bool.true_and]
    exact ⟨rfl, rfl⟩
  have HKIND : Hid (∀ (z : Value) (u : List Nd) (w1 : World), NodesAt w1 z u → Below w.heap.size w w1 → ¬ kindL wide vars u = 1 → Calls Tryd.prog 61 #[.int .i64 wide, .int .i64 vars, z, .int .i64 1] w1 fun e w' => e = .returned (.pointer none) ∧ Below w1.heap.size w1 w') :=
    fun z u w1 hz hb hne => rootOfKind_no wide vars 1 z u w1 (hT.below hb hT.some) hz rfl hne
  have HKIND2 : Hid (∀ (z : Value) (u : List Nd) (w1 : World), NodesAt w1 z u → Below w.heap.size w w1 → kindL wide vars u = 1 → ∃ q : Tr, q.flat = u ∧ q.Ok wide vars ∧ q.kind = 1 ∧ q.size ≤ 48 ∧ Calls Tryd.prog 61 #[.int .i64 wide, .int .i64 vars, z, .int .i64 1] w1 fun e w' => ∃ p, e = .returned (ptr p) ∧ TrAt w' (New (fun _ => False) w1 w') q p ∧ Below w1.heap.size w1 w') := by
    intro z u w1 hz hb h1
    obtain ⟨_, _, _, _, l5, q, hq, q1, q2, q3⟩ := root_tree (show 0 < kindL wide vars u by omega)
    refine ⟨q, q2, q1, by omega, ?_, rootOfKind_yes wide vars z u w1 (hT.below hb hT.some) hz q h1 hq (by omega)⟩
    have := q.flat_len
    rw [q2] at this
    omega
  have HPUT : Hid (∀ (rs : List Tr) (pbs : List Nat) (pv : Value) (b : Nat) (w1 : World), rs.length = bs.length → (∀ q ∈ rs, q.Ok wide vars ∧ q.kind = 1 ∧ q.size ≤ 48) → TrAt w1 (Old w1) r b → PtrsAt w1 (Old w1) pv pbs → TrsAt w1 (Old w1) rs pbs → Calls Tryd.prog 63 #[ptr b, pv] w1 fun e w' => ∃ b', e = .returned (ptr b') ∧ TrAt w' (Old w') (trPut rs r) b' ∧ Below w1.heap.size w1 w') := by
    intro rs pbs pv b w1 hl hq htr hpv hts
    refine (put_any wide vars rs (fun q h => (hq q h).2.1) (fun q h => (hq q h).2.2) (by omega) r (Old w1) b pbs pv w1 (fun k hk => hk) htr hpv hts k1 hp (by rw [hl]; exact hvb) (by omega)).mono ?_
    rintro e w' ⟨b', he, ht, hb⟩
    exact ⟨b', he, tr_all (S := Old w1) (fun k hk => hk) hb ht, hb⟩
  have HFLAT : Hid (∀ rs : List Tr, ByOk wide vars rs bs → (trPut rs r).Ok wide vars ∧ (trPut rs r).flat = putsL bs t) := by
    rintro rs ⟨h1, h2⟩
    refine ⟨trPut_ok rs (fun q hq => ⟨(h2 q hq).2.1, (h2 q hq).1⟩) r k1, ?_⟩
    rw [trPut_flat rs r k1 hp (by rw [← h1] at hvb; simpa using hvb), h1, k2]
  have HW : Hid (wideB wide = true ∧ 1 ≤ vars ∧ vars ≤ 4) := ⟨g1, g2, g3⟩
  have HCS : Hid _ := hcs
  obtain ⟨i0, hi, hz0, hz1, hz2⟩ := info_parts infoPtr
  have hb4 : bs.length ≤ 4 := by omega
  generalize hSP : saidPut wide vars t bs = SP at *
  generalize hPA : putAllL wide vars t bs = PA at *
  have HN : Hid ((bs.length : Int) = vars) := hn
  clear hT h hk hr k1 k2 k3 hp hsz hvb hcs g1 g2 g3 g4 g5 hSP hPA
  have hne : ((bs.length : Int) != vars) = false := by rw [hn]; simp
  clear hn
  go_enter Tryd.func16, Tryd.ntmps16
  go_wp2_with fail
  refine g.mono ?_
  rintro e w1 ⟨b, rfl, htr, hb1⟩
  have HTR : Hid (TrAt w1 (Old w1) r b) := htr
  have HB1 : Hid (Below w.heap.size w w1) := hb1
  clear g htr hb1
  go_wp2_with fail
  go_loopw [11, 29] (fun v i wr => ∃ (j : Nat) (rs : List Tr) (pbs : List Nat), j ≤ bs.length ∧ i = .int .i64 j ∧ Hid (wr.ownsRow w1.heap.size 83 1 v pbs.length (ptrs pbs)) ∧ Hid (TrsAt wr (Mix (fun _ => False) w1 wr v) rs pbs) ∧ Hid (ByOk wide vars rs (bs.take j)) ∧ Hid (Below w1.heap.size w1 wr)) (fun _ i _ => bs.length - (intOf i).toNat)
  case atStart => exact ⟨0, [], [], by omega, rfl, World.ownsRow_nil _ _ _ _, ⟨rfl, fun i a p ha _ => by simp at ha⟩, ⟨rfl, fun q hq => by cases hq⟩, Below.refl _ _⟩
  case round =>
    obtain ⟨j, rs, pbs, hj, rfl, HO, HS, HY, HB⟩ := hrel
    have hrl : rs.length = j := by
      have h1 := congrArg List.length HY.out.1
      simp at h1
      omega
    have hpl : pbs.length = j := by
      have h1 := HS.out.1
      omega
    have HBw : Hid (Below w.heap.size w wr) := HB1.out.trans (HB.out.mono HB1.out.size)
    by_cases hlt' : j < bs.length
    · obtain ⟨u, hu⟩ : ∃ u, bs[j]? = some u := ⟨bs[j], List.getElem?_eq_getElem hlt'⟩
      obtain ⟨z, cz, hz⟩ := HCS.out j u hu
      rw [← HBw.out.cell (p := ⟨c, o + j, none⟩) hclt] at cz
      have hz' := hz.below HBw.out
      obtain ⟨za, zc, rfl⟩ := hz.shape
      by_cases hk1 : kindL wide vars u = 1
      · obtain ⟨q, q1, q2, q3, q4, gq⟩ := HKIND2.out _ u wr hz' HBw.out hk1
        have HY2 : Hid (ByOk wide vars (rs ++ [q]) (bs.take (j + 1))) := by
          refine ⟨?_, ?_⟩
          · rw [List.map_append, HY.out.1, List.take_add_one, hu]
            simp [q1]
          · intro x hx
            rcases List.mem_append.1 hx with hx | hx
            · exact HY.out.2 x hx
            · simp at hx
              subst hx
              exact ⟨q2, q3, q4⟩
        obtain ⟨av, cv, hsv⟩ := own_shape HO.out
        have hb2' : pbs.length ≤ 4 := by omega
        clear hu hz hz' hk1 q1 q2 q3 q4 hrl hpl
        subst hsv
        go_wp2_with fail
        refine gq.mono ?_
        rintro e w2 ⟨b2, rfl, ht2, hb2⟩
        have HB2 : Hid (Below w1.heap.size w1 w2) := HB.out.trans (hb2.mono HB.out.size)
        have HS2 : Hid (TrsAt w2 (Mix (fun _ => False) w1 w2 (.slice av pbs.length cv)) (rs ++ [q]) (pbs ++ [b2])) := by
          refine trs_snoc (TrsAt.frame (fun k hk => ⟨hk.1, Nat.lt_of_lt_of_le hk.2.1 hb2.size, hk.2.2⟩) (fun k hk => hb2.block k hk.2.1) HS.out) (TrAt.frame (fun k hk => ?_) (fun _ _ => rfl) ht2)
          rcases hk with hk | hk
          · exact hk.elim
          · have h2 := HB.out.size
            exact ⟨Or.inr (by omega), hk.2, fun e => by have := (HO.out.lt k e.symm).2; omega⟩
        have own2 : w2.ownsRow w1.heap.size 83 1 (.slice av pbs.length cv) pbs.length (ptrs pbs) := owns_below HO.out hb2
        have HO2 : Hid _ := own2
        have HLX : Hid (ptrs pbs ++ [ptr b2] = ptrs (pbs ++ [b2]) ∧ pbs.length + 1 = (pbs ++ [b2]).length) := by
          constructor
          · simp [ptrs]
          · simp
        have own1 := own2.alloc (.cells #[ptr b2] 83)
        generalize ptrs pbs = xs0 at own1 HLX
        generalize pbs ++ [b2] = NB at *
        generalize rs ++ [q] = NR at *
        have HBx : Hid (Below w1.heap.size w1 (w2.alloc (.cells #[ptr b2] 83))) := HB2.out.alloc HB2.out.size _
        have cellsN := onePtr_cells w2 b2
        clear gq ht2 hb2 own2
        go_wp2_with (at_builtin; refine wpList_append_own_at _ rfl _ _ 85 rfl w1.heap.size 83 i0 (.pointer none) 1 8 Tryd.underlying85 hi hz0 hz1 hz2 rfl (by decide) _ _ _ rfl own1 ⟨w2.heap.size, 0, none⟩ 1 1 [ptr b2] rfl rfl cellsN (by intro u hu; simp at hu; subst hu; rfl) (by unfold maxLen; omega) (by omega) (by have h := HB2.out.size; simp; omega) ?_)
        intro v7 w7 own7 grow7 _ hat7
        have HO7 : Hid (w7.ownsRow w1.heap.size 83 1 v7 NB.length (ptrs NB)) := by
          show World.ownsRow _ _ _ _ _ _ _
          rw [← HLX.out.1, ← HLX.out.2]
          exact own7
        have HT7 : Hid (TrsAt w7 (Mix (fun _ => False) w1 w7 v7) NR NB) := mix_next HS2.out grow7 hat7 rfl
        have HB7 : Hid (Below w1.heap.size w1 w7) := HBx.out.grown grow7 HBx.out.size (fun k hk => (World.ownsRow.lt HO2.out k hk).1)
        clear own1 own7 grow7 hat7 cellsN
        go_wp2_with fail
        go_roundw
        case rel => exact ⟨j + 1, NR, NB, by omega, by go_num, HO7, HT7, HY2, HB7⟩
        case measure => simp [intOf]; omega
      · have gq := HKIND.out _ u wr hz' HBw.out hk1
        obtain ⟨hs1, hs2⟩ := HBAD.out (fun hall => hk1 (hall u (List.mem_of_getElem? hu)))
        subst hs1 hs2
        clear hu hz hz' hk1 hrl hpl
        go_wp2_with fail
        refine gq.mono ?_
        rintro e w2 ⟨rfl, hb2⟩
        have HB2 : Hid (Below w.heap.size w w2) := HBw.out.trans (hb2.mono HBw.out.size)
        clear gq hb2
        go_wp2_with fail
        go_ret2
        exact ⟨_, rfl, World.ownsRow_nil _ _ _ _, HB2.out⟩
    · obtain rfl : j = bs.length := by omega
      have hy : ByOk wide vars rs bs := by
        have h1 := HY.out
        rw [List.take_length] at h1
        exact h1
      have hall : ∀ u ∈ bs, kindL wide vars u = 1 := by
        intro u hu
        rw [← hy.1] at hu
        obtain ⟨q, hq, rfl⟩ := List.mem_map.1 hu
        obtain ⟨h1, h2, h3⟩ := hy.2 q hq
        rw [Tr.kindL_eq h1 HW.out.1 HW.out.2.1 HW.out.2.2 h3]
        exact h2
      obtain ⟨hs1, hs2⟩ := HGOOD.out hall
      obtain ⟨f1, f2⟩ := HFLAT.out rs hy
      obtain ⟨av, cv, hsv⟩ := own_shape HO.out
      have g9 := HPUT.out rs pbs u11 b wr hrl hy.2 (HTR.out.below HB.out) (ptrs_of_own HO.out (by omega)) (TrsAt.frame (fun k hk => hk.2.1) (fun _ _ => rfl) HS.out)
      have HM : Hid (∀ (b' : Nat) (w' : World), TrAt w' (Old w') (trPut rs r) b' → Calls Tryd.prog 62 #[ptr b'] w' fun e w'' => ∃ v', e = .returned (.tuple #[v', .bool SP]) ∧ OwnNodes w'' w'.heap.size v' PA ∧ Below w'.heap.size w' w'') := by
        intro b' w' ht'
        have h := made_nodes (trPut rs r) b' w' ht' wide vars f1 HW.out.1 HW.out.2.1 HW.out.2.2
        rw [f2, ← hs1, ← hs2] at h
        exact h
      clear hy hall hs1 hs2 f1 f2 hrl hpl HS HY HPUT HFLAT HKIND HKIND2 HBAD HGOOD HO
      subst hsv
      go_wp2_with fail
      refine g9.mono ?_
      rintro e w2 ⟨b2, rfl, ht2, hb2⟩
      have g10 := HM.out b2 w2 ht2
      have HB2 : Hid (Below w.heap.size w w2) := HBw.out.trans (hb2.mono HBw.out.size)
      clear g9 ht2 hb2 HM
      go_wp2_with fail
      refine g10.mono ?_
      rintro e w3 ⟨v3, rfl, ho3, hb3⟩
      have HO3 : Hid (OwnNodes w3 w.heap.size v3 PA) := ho3.low HB2.out.size
      have HB3 : Hid (Below w.heap.size w w3) := HB2.out.trans (hb3.mono HB2.out.size)
      clear g10 ho3 hb3
      go_wp2_with fail
      go_ret2
      exact ⟨_, rfl, HO3.out, HB3.out⟩
set_option maxRecDepth 100000 in
theorem impl_PutAll : DoesPutAll := by
  intro wide vars tv t bv bs w hT h hl hs hbl
  by_cases hk : 0 < kindL wide vars t
  · by_cases hn : (bs.length : Int) = vars
    · obtain ⟨_, hv1, _⟩ := root_tree hk
      rcases hs.2 with ⟨rfl, _⟩ | ⟨c, o, cp, rfl, hclt, hcs⟩
      · simp at hn
        omega
      exact putAll_good wide vars tv t c o cp bs w hT h hk hn hclt hcs
    · obtain ⟨_, _, _, _, _, r, hr, _⟩ := root_tree hk
      have g := rootOf_yes wide vars tv t w hT h r hk hr
      obtain ⟨a, cp, rfl⟩ := hs.shape
      have e1 : canPut wide vars t bs = false := by unfold canPut; rw [decide_eq_true hk, decide_eq_false hn]; rfl
      unfold saidPut putAllL
      rw [e1]
      have hne : ((bs.length : Int) != vars) = true := bne_iff_ne.2 hn
      clear hT h hk hr hs hn e1
      go_enter Tryd.func16, Tryd.ntmps16
      go_wp2_with fail
      refine g.mono ?_
      rintro e w1 ⟨b, rfl, _, hb1⟩
      have HB1 : Hid _ := hb1
      clear g hb1
      go_wp2_with fail
      go_ret2
      exact ⟨_, rfl, World.ownsRow_nil _ _ _ _, HB1.out⟩
  · have g := rootOf_no wide vars tv t w hT h hk
    obtain ⟨a, cp, rfl⟩ := hs.shape
    have e1 : canPut wide vars t bs = false := by unfold canPut; rw [decide_eq_false hk]; rfl
    unfold saidPut putAllL
    rw [e1]
    clear hT h hk hs e1
    go_enter Tryd.func16, Tryd.ntmps16
    go_wp2_with fail
    refine g.mono ?_
    rintro e w1 ⟨rfl, hb1⟩
    have HB1 : Hid _ := hb1
    clear g hb1
    go_wp2_with fail
    go_ret2
    exact ⟨_, rfl, World.ownsRow_nil _ _ _ _, HB1.out⟩
end Go.Proofs.YtkmgcgmeibhnmaaDoor

namespace Go.Proofs.YtkmgcgmeibhnmaaDoor
open Go Go.RowKit
open M
set_option linter.unusedVariables false

theorem trees_of {wide vars : Int} : ∀ bs : List (List Nd), (∀ u ∈ bs, kindL wide vars u = 1) → ∃ rs : List Tr, ByOk wide vars rs bs
  | [], _ => ⟨[], rfl, fun q hq => by cases hq⟩
  | u :: bs, h => by
    obtain ⟨rs, h1, h2⟩ := trees_of bs (fun x hx => h x (by simp [hx]))
    have hu := h u (by simp)
    obtain ⟨_, _, _, _, l5, q, _, q1, q2, q3⟩ := root_tree (show 0 < kindL wide vars u by omega)
    refine ⟨q :: rs, by simp [h1, q2], fun x hx => ?_⟩
    rcases List.mem_cons.1 hx with rfl | hx
    · refine ⟨q1, by omega, ?_⟩
      have := x.flat_len
      rw [q2] at this
      omega
    · exact h2 x hx
/-- what is put for the variables does as their values do -/
theorem put_said {k : Nat} {t : List Nd} {bs : List (List Nd)} {st : List Int} (hok : ∀ x ∈ t, NdOk x) (hokb : ∀ b ∈ bs, ∀ x ∈ b, NdOk x) (h : saidPut k st.length t bs = true) (h0 : ∀ s ∈ st, 0 ≤ s) (hst : ∀ s ∈ st, goodB k s = true) :
    bs.length = st.length ∧ 1 ≤ st.length ∧ st.length ≤ 4 ∧ (1 ≤ k ∧ k ≤ 64) ∧ (∀ b ∈ bs, saidV k b st = true ∧ 0 ≤ valueL k b st ∧ valueL k b st < pw k) ∧ saidV k (putAllL k st.length t bs) st = true ∧ saidV k t (bs.map fun b => valueL k b st) = true ∧
    valueL k (putAllL k st.length t bs) st = valueL k t (bs.map fun b => valueL k b st) := by
  unfold saidPut at h
  rw [Bool.and_eq_true] at h
  obtain ⟨hc, hp⟩ := h
  have hp' := of_decide_eq_true hp
  have hc' := hc
  unfold canPut at hc'
  simp only [Bool.and_eq_true, List.all_eq_true, decide_eq_true_eq] at hc'
  obtain ⟨hk, hlen, hall⟩ := hc'
  have hln : bs.length = st.length := by omega
  obtain ⟨g1, g2, g3, g4, g5, r, hr, r1, r2, r3⟩ := root_tree hk
  obtain ⟨k', e, hk1, hk64⟩ := wideB_true g1
  obtain rfl : k = k' := by omega
  obtain ⟨rs, q1, q2⟩ := trees_of bs hall
  have hrl : rs.length = st.length := by
    have := congrArg List.length q1
    simp at this
    omega
  have pr := pos_of hok r2
  have vr := below_of r1 pr
  have wst := st_words h0 hst
  have hT : (trPut rs r).Ok k st.length := trPut_ok rs (fun q hq => ⟨(q2 q hq).2.1, (q2 q hq).1⟩) r r1
  have hF : (trPut rs r).flat = putsL bs t := by
    rw [trPut_flat rs r r1 pr (by rw [hrl]; exact vr), q1, r2]
  have hsz : (trPut rs r).size ≤ 48 := by
    by_cases hs : (trPut rs r).size ≤ 48
    · exact hs
    · have := Tr.kindL_long (wide := k) (vars := st.length) (t := trPut rs r) (by omega)
      rw [hF] at this
      omega
  have hP : putAllL k st.length t bs = (trPut rs r).flat := by
    unfold putAllL madeL
    rw [if_pos hc, if_pos hp', hF]
  have hval : ∀ q ∈ rs, saidV k q.flat st = true ∧ valueL k q.flat st = trVal k st q ∧ 0 ≤ trVal k st q ∧ trVal k st q < pw k := by
    intro q hq
    obtain ⟨a1, a2, a3⟩ := q2 q hq
    obtain ⟨s1, s2⟩ := value_of_flat a1 hk1 hk64 (by omega) (by omega) a3 hst
    have pq : Pos q := by
      have hmem : q.flat ∈ bs := by
        rw [← q1]
        exact List.mem_map.2 ⟨q, hq, rfl⟩
      intro x hx
      exact (hokb _ hmem x hx).2.2.1
    have ow := (trVal_ok hk1 hk64 wst a1 pq (below_of a1 pq)).word hk1
    exact ⟨s1, s2, ow⟩
  have hvals : (bs.map fun b => valueL k b st) = rs.map (trVal k st) := by
    rw [← q1, List.map_map]
    apply List.map_congr_left
    intro q hq
    exact (hval q hq).2.1
  obtain ⟨s1, s2⟩ := value_of_flat hT hk1 hk64 (by omega) (by omega) hsz hst
  have hgood : ∀ s ∈ rs.map (trVal k st), goodB k s = true := by
    intro s hs
    obtain ⟨q, hq, rfl⟩ := List.mem_map.1 hs
    exact good_of k hk1 hk64 _ (hval q hq).2.2.2
  have hkt : 0 < kindL k ((rs.map (trVal k st)).length : Nat) t := by
    rw [List.length_map, hrl]
    exact hk
  have hst2 : saidV k t (rs.map (trVal k st)) = true := said_of_kind hkt hgood
  have hr2 : pileT k ((rs.map (trVal k st)).length : Nat) t t.length = some [⟨0, r.kind, r⟩] := by
    rw [List.length_map, hrl]
    exact hr
  have hvt : valueL k t (rs.map (trVal k st)) = trVal k (rs.map (trVal k st)) r := by
    have := valueL_tree hst2 hr2
    simpa using this
  refine ⟨hln, by omega, by omega, ⟨hk1, hk64⟩, ?_, ?_, ?_, ?_⟩
  · intro b hb
    rw [← q1] at hb
    obtain ⟨q, hq, rfl⟩ := List.mem_map.1 hb
    obtain ⟨a1, a2, a3, a4⟩ := hval q hq
    exact ⟨a1, by rw [a2]; exact a3, by rw [a2]; exact a4⟩
  · rw [hP]
    exact s1
  · rw [hvals]
    exact hst2
  · rw [hP, s2, hvals, hvt]
    exact trPut_val k st rs r (by rw [hrl]; exact vr)
theorem put_good {k : Nat} {vars : Int} {t : List Nd} {bs : List (List Nd)} (h : saidPut k vars t bs = true) : (bs.length : Int) = vars ∧ 1 ≤ vars ∧ vars ≤ 4 ∧ 1 ≤ k ∧ k ≤ 64 := by
  unfold saidPut at h
  rw [Bool.and_eq_true] at h
  have hc' := h.1
  unfold canPut at hc'
  simp only [Bool.and_eq_true, List.all_eq_true, decide_eq_true_eq] at hc'
  obtain ⟨g1, g2, g3, _⟩ := root_tree hc'.1
  obtain ⟨k', e, hk1, hk64⟩ := wideB_true g1
  exact ⟨hc'.2.1, g2, g3, by omega, by omega⟩
theorem putAll_len0 {wide vars : Int} {t : List Nd} {bs : List (List Nd)} : (putAllL wide vars t bs).length ≤ 48 := by
  unfold putAllL madeL
  split
  · split
    · rename_i h
      obtain ⟨_, _, _, _, g5, _⟩ := root_tree h
      exact g5
    · simp
  · simp
theorem putAll_ok0 {wide vars : Int} {t : List Nd} {bs : List (List Nd)} (hok : ∀ x ∈ t, NdOk x) (hokb : ∀ b ∈ bs, ∀ x ∈ b, NdOk x) : ∀ x ∈ putAllL wide vars t bs, NdOk x := by
  intro x hx
  unfold putAllL madeL at hx
  split at hx
  · split at hx
    · unfold putsL at hx
      obtain ⟨y, hy, hxy⟩ := List.mem_flatMap.1 hx
      split at hxy
      · rw [List.getD_eq_getElem?_getD] at hxy
        cases hg : bs[y.2.toNat]? with
        | none => rw [hg] at hxy; simp at hxy
        | some u =>
          rw [hg] at hxy
          exact hokb u (List.mem_of_getElem? hg) x (by simpa using hxy)
      · simp at hxy
        subst hxy
        exact hok x hy
    · cases hx
  · cases hx
end Go.Proofs.YtkmgcgmeibhnmaaDoor

namespace Go.Proofs.YtkmgcgmeibhnmaaDoor
open Go Go.RowKit
open M
set_option linter.unusedVariables false

/-- a state of good words that is made since B -/
def GoodD (k : Nat) (B : Nat) (w : World) (v : Value) (st : List Int) : Prop := w.ownsRow B 33 1 v st.length (cellsU st) ∧ ∀ s ∈ st, (0 ≤ s ∧ s ≤ 18446744073709551615) ∧ goodB k s = true
theorem GoodD.more {k B : Nat} {w w7 : World} {v v7 : Value} {st : List Int} {x : Int} (h : GoodD k B w v st) (hk1 : 1 ≤ k) (hk : k ≤ 64) (own7 : w7.ownsRow B 33 1 v7 (st.length + 1) (cellsU st ++ [.int .u64 (cut k x)])) : GoodD k B w7 v7 (st ++ [cut k x]) := by
  refine ⟨?_, ?_⟩
  · rw [List.length_append]
    unfold cellsU at own7 ⊢
    rw [List.map_append]
    exact own7
  · intro s hs
    rcases List.mem_append.1 hs with hs | hs
    · exact h.2 s hs
    · simp at hs
      subst hs
      have h1 := cut_lo k x
      have h2 := cut_hi k x
      have h3 := pw_le k hk
      exact ⟨⟨h1, by omega⟩, good_of k hk1 hk _ h2⟩
theorem GoodD.st {k B : Nat} {w : World} {v : Value} {st : List Int} (h : GoodD k B w v st) : StAt w v st := st_of_own h.1
end Go.Proofs.YtkmgcgmeibhnmaaDoor

namespace Go.Proofs.YtkmgcgmeibhnmaaDoor
open Go Go.RowKit
open M
set_option linter.unusedVariables false

set_option maxRecDepth 100000 in
theorem putFor_big (a0 a1 : Option Addr) (l0 c0 l1 c1 : Nat) (h0 : l0 ≤ 9223372036854775807) (h1 : l1 ≤ 9223372036854775807) (h : 1048576 < l0 + l1) (w : World) :
    Calls Tryd.prog 3 #[.slice a0 l0 c0, .slice a1 l1 c1] w fun e w' => e = .returned (.bool true) ∧ Below w.heap.size w w' := by
  have g0 := big_yes a0 a1 l0 c0 l1 c1 h0 h1 h w
  go_enter Tryd.func3, Tryd.ntmps3
  go_wp2_with fail
  refine g0.mono ?_
  rintro e w' ⟨rfl, rfl⟩
  clear g0
  go_wp2_with fail
  go_ret
  exact ⟨rfl, Below.refl _ _⟩
theorem GoodD.push {k B : Nat} {w w7 : World} {v v7 : Value} {st : List Int} {x : Int} (h : GoodD k B w v st) (hx : (0 ≤ x ∧ x ≤ 18446744073709551615) ∧ goodB k x = true) (own7 : w7.ownsRow B 33 1 v7 (st.length + 1) (cellsU st ++ [.int .u64 x])) : GoodD k B w7 v7 (st ++ [x]) := by
  refine ⟨?_, ?_⟩
  · rw [List.length_append]
    unfold cellsU at own7 ⊢
    rw [List.map_append]
    exact own7
  · intro s hs
    rcases List.mem_append.1 hs with hs | hs
    · exact h.2 s hs
    · simp at hs
      subst hs
      exact hx
set_option maxRecDepth 100000 in
set_option maxHeartbeats 64000000 in
theorem putFor_walk (a0 a1 : Option Addr) (l0 c0 l1 c1 : Nat) (h0 : l0 ≤ 9223372036854775807) (h1 : l1 ≤ 9223372036854775807) (w : World) (hT : Tab w) (hz : 0 < w.heap.size)
    (hc0 : CodeOk w.heap.size w (.slice a0 l0 c0)) (hc1 : CodeOk w.heap.size w (.slice a1 l1 c1)) :
    Calls Tryd.prog 3 #[.slice a0 l0 c0, .slice a1 l1 c1] w fun e w' => e = .returned (.bool true) ∧ Below w.heap.size w w' := by
  by_cases h : 1048576 < l0 + l1
  · exact putFor_big a0 a1 l0 c0 l1 c1 h0 h1 h w
  have g0 := big_no a0 a1 l0 c0 l1 c1 h0 h1 (by omega) w
  have g1 := drawPut_any (.slice a0 l0 c0) w hc0
  have HT : Hid (∀ w', Below w.heap.size w w' → Tab w') := fun w' hb => hT.below hb hT.some
  have GNM : Hid (∀ w', Below w.heap.size w w' → Calls Tryd.prog 22 #[.slice a1 l1 c1] w' fun e w'' => ∃ x : Int, (0 ≤ x ∧ x < 1000003) ∧ e = .returned (.int .i64 x) ∧ w'' = w') := fun w' hb => lawNumber_any _ _ w' (hc1.below hb)
  obtain ⟨i0, hi, hz0, hz1, hz2⟩ := info_parts infoU64
  clear hT hz hc0 hc1 h
  go_enter Tryd.func3, Tryd.ntmps3
  go_wp2_with fail
  refine g0.mono ?_
  rintro e w' ⟨rfl, rfl⟩
  clear g0
  obtain ⟨w, rfl⟩ : ∃ w, w = w' := ⟨_, rfl⟩
  go_wp2_with fail
  refine g1.mono ?_
  rintro e w1 ⟨k, vars, v, t, bv, us, bs, rfl, ⟨k1, k64⟩, ⟨hv0, hv5⟩, hnd, ⟨RR, hRR, hss⟩, hul, hb1⟩
  clear g1
  have hbl : bs.length ≤ 6 := by have := hss.2.1; omega
  have HW : Hid (∀ w', Below w1.heap.size w1 w' → Below w.heap.size w w') := fun w' hb => hb1.trans (hb.mono hb1.size)
  have H1 : Hid (Below w1.heap.size w1 w1) := Below.refl _ _
  have HND : Hid (∀ w', Below w1.heap.size w1 w' → NodesAt w' v t) := fun w' hb => (hnd.below hb).at
  have HKT : Hid ((∀ x ∈ t, NdOk x) ∧ t.length ≤ 31) := hnd.2
  have hssw := hss.ss (by omega)
  have HSS : Hid (∀ w', Below w1.heap.size w1 w' → NodesSS w' bv bs) := fun w' hb => hssw.below hb
  have HKB : Hid (∀ b ∈ bs, (∀ x ∈ b, NdOk x) ∧ b.length ≤ 31) := by
    intro b hb
    obtain ⟨i, hi⟩ := List.mem_iff_getElem?.1 hb
    have hil := (List.getElem?_eq_some_iff.1 hi).1
    obtain ⟨u, hu⟩ : ∃ u, us[i]? = some u := ⟨us[i]'(by have := hss.2.1; omega), List.getElem?_eq_getElem _⟩
    exact (hss.2.2 i u b hu hi).2
  have HPN : Hid (∀ (w' : World) (B : Nat) (v' : Value), OwnNodes w' B v' (putAllL k vars t bs) → NodesAt w' v' (putAllL k vars t bs)) := fun w' B v' ho => nodes_of_own (putAll_ok0 HKT.out.1 (fun b hb => (HKB.out b hb).1)) (by have := putAll_len0 (wide := k) (vars := vars) (t := t) (bs := bs); omega) ho
  have GIP : Hid (∀ w', Below w1.heap.size w1 w' → Calls Tryd.prog 16 #[.int .i64 (k : Int), .int .i64 vars, v, bv] w' fun e w'' => ∃ r : Value, e = .returned (.tuple #[r, .bool (saidPut k vars t bs)]) ∧ OwnNodes w'' w'.heap.size r (putAllL k vars t bs) ∧ Below w'.heap.size w' w'') := fun w' hb => impl_PutAll k vars v t bv bs w' (HT.out w' (HW.out w' hb)) (HND.out w' hb) (by have := HKT.out.2; omega) (HSS.out w' hb) (by omega)
  have GSP : Hid (∀ w', Below w1.heap.size w1 w' → Calls Tryd.prog 17 #[.int .i64 (k : Int), .int .i64 vars, v, bv] w' fun e w'' => ∃ r : Value, e = .returned (.tuple #[r, .bool (saidPut k vars t bs)]) ∧ OwnNodes w'' w'.heap.size r (putAllL k vars t bs) ∧ Below w'.heap.size w' w'') := fun w' hb => putAll_any k vars v bv t bs w' (HND.out w' hb) (HSS.out w' hb)
  have GIG : Hid (∀ w', Below w1.heap.size w1 w' → Calls Tryd.prog 19 #[.int .i64 (k : Int), .int .i64 vars, v] w' fun e w'' => e = .returned (.bool (decide (0 < kindL k vars t))) ∧ Below w'.heap.size w' w'') := fun w' hb => impl_GoodTerm k vars v t w' (HT.out w' (HW.out w' hb)) (HND.out w' hb) (by have := HKT.out.2; omega)
  have GSG : Hid (∀ w', Below w1.heap.size w1 w' → Calls Tryd.prog 20 #[.int .i64 (k : Int), .int .i64 vars, v] w' fun e w'' => e = .returned (.bool (decide (0 < kindL k vars t))) ∧ Below w'.heap.size w' w'') := fun w' hb => goodTerm_any k vars v t w' (HND.out w' hb)
  have HGD : Hid (saidPut k vars t bs = true → (bs.length : Int) = vars ∧ 1 ≤ vars ∧ vars ≤ 4) := fun hs => ⟨(put_good hs).1, (put_good hs).2.1, (put_good hs).2.2.1⟩
  have HPV : Hid (∀ n : Nat, vars = (n : Int) → saidPut k vars t bs = true → ∀ (st : List Int) (sv : Value) (B : Nat) (w0 : World), st.length = n → GoodD k B w0 sv st →
      (∀ b ∈ bs, (0 ≤ valueL k b st ∧ valueL k b st ≤ 18446744073709551615) ∧ goodB k (valueL k b st) = true) ∧
      (∀ (b : List Nd) (u : Value) (w' : World), b ∈ bs → Below w1.heap.size w1 w' → NodesAt w' u b → StAt w' sv st → Calls Tryd.prog 23 #[.int .i64 (k : Int), u, sv] w' fun e w'' => e = .returned (.tuple #[.int .u64 (valueL k b st), .bool true]) ∧ Below w'.heap.size w' w'') ∧
      (∀ (rv : Value) (w' : World), Below w1.heap.size w1 w' → NodesAt w' rv (putAllL k vars t bs) → StAt w' sv st → Calls Tryd.prog 23 #[.int .i64 (k : Int), rv, sv] w' fun e w'' => e = .returned (.tuple #[.int .u64 (valueL k t (bs.map fun b => valueL k b st)), .bool true]) ∧ Below w'.heap.size w' w'') ∧
      (∀ (vv : Value) (B' : Nat) (w0' w' : World), Below w1.heap.size w1 w' → GoodD k B' w0' vv (bs.map fun b => valueL k b st) → NodesAt w' v t → StAt w' vv (bs.map fun b => valueL k b st) → Calls Tryd.prog 23 #[.int .i64 (k : Int), v, vv] w' fun e w'' => e = .returned (.tuple #[.int .u64 (valueL k t (bs.map fun b => valueL k b st)), .bool true]) ∧ Below w'.heap.size w' w'')) := by
    rintro n rfl s1 st sv B w0 rfl hgd
    obtain ⟨p1, p2, p3, _, p5, p6, p7, p8⟩ := put_said HKT.out.1 (fun b hb => (HKB.out b hb).1) s1 (fun s hs => (hgd.2 s hs).1.1) (fun s hs => (hgd.2 s hs).2)
    have hso : StOk st := ⟨by omega, fun s hs => (hgd.2 s hs).1⟩
    have hl := pw_le k k64
    refine ⟨fun b hb => ?_, fun b u w' hb hbel hn hs => ?_, fun rv w' hb hn hs => ?_, fun vv B' w0' w' hb hg hn hs => ?_⟩
    · obtain ⟨_, q1, q2⟩ := p5 b hb
      exact ⟨⟨q1, by omega⟩, good_of k k1 k64 _ q2⟩
    · have h := impl_ValueOf k u sv b st w' (HT.out w' (HW.out w' hbel)) hn (by have := (HKB.out b hb).2; omega) hs hso
      rw [(p5 b hb).1] at h
      exact h
    · have h := impl_ValueOf k rv sv _ st w' (HT.out w' (HW.out w' hb)) hn (by have := putAll_len0 (wide := k) (vars := st.length) (t := t) (bs := bs); omega) hs hso
      rw [p6, p8] at h
      exact h
    · have h := impl_ValueOf k v vv t _ w' (HT.out w' (HW.out w' hb)) hn (by have := HKT.out.2; omega) hs ⟨by simp; omega, fun s hs => (hg.2 s hs).1⟩
      rw [p7] at h
      exact h
  obtain ⟨ba, bc, rfl⟩ := hssw.shape
  clear hnd hss hb1 HKT HKB hssw hul
  generalize putAllL k vars t bs = PA at *
  generalize hSP : saidPut k vars t bs = SP at *
  clear hSP
  generalize decide (0 < kindL k vars t) = KG at *
  cases SP with
  | false =>
    have g1_ := GIP.out w1 H1.out
    go_wp2_with fail
    refine g1_.mono ?_
    rintro e w2 ⟨r2, rfl, ho2, hb2⟩
    clear g1_
    have HR2 : Hid (∀ w', Below w2.heap.size w2 w' → NodesAt w' r2 PA) := fun w' hb => (HPN.out _ _ _ ho2).below hb
    have H2 : Hid (Below w1.heap.size w1 w2) := H1.out.trans (hb2.mono H1.out.size)
    clear ho2 hb2
    have g2_ := GSP.out w2 H2.out
    go_wp2_with fail
    refine g2_.mono ?_
    rintro e w3 ⟨r3, rfl, ho3, hb3⟩
    clear g2_
    have g4 := sameNodes_any r2 r3 PA w3 (HR2.out w3 hb3) (HPN.out _ _ _ ho3)
    have R3 : Hid (Below w2.heap.size w2 w3) := hb3
    have H3 : Hid (Below w1.heap.size w1 w3) := H2.out.trans (hb3.mono H2.out.size)
    clear ho3 hb3 GIP GSP HPN
    go_wp2_with fail
    refine g4.mono ?_
    rintro e w4 ⟨rfl, hb4⟩
    clear g4
    have R4 : Hid (Below w2.heap.size w2 w4) := R3.out.trans (hb4.mono R3.out.size)
    have H4 : Hid (Below w1.heap.size w1 w4) := H3.out.trans (hb4.mono H3.out.size)
    clear hb4
    have g3_ := GIG.out w4 H4.out
    go_wp2_with fail
    refine g3_.mono ?_
    rintro e w5 ⟨rfl, hb5⟩
    clear g3_
    have H5 : Hid (Below w1.heap.size w1 w5) := H4.out.trans (hb5.mono H4.out.size)
    have R5 : Hid (Below w2.heap.size w2 w5) := R4.out.trans (hb5.mono R4.out.size)
    clear hb5
    have g4_ := GSG.out w5 H5.out
    go_wp2_with fail
    refine g4_.mono ?_
    rintro e w6 ⟨rfl, hb6⟩
    clear g4_
    have H6 : Hid (Below w1.heap.size w1 w6) := H5.out.trans (hb6.mono H5.out.size)
    have R6 : Hid (Below w2.heap.size w2 w6) := R5.out.trans (hb6.mono R5.out.size)
    clear hb6 GIG GSG
    cases KG with
    | true =>
      go_wp2_with fail
      go_ret
      exact ⟨rfl, HW.out _ H6.out⟩
    | false =>
      go_wp2_with fail
      go_ret
      exact ⟨rfl, HW.out _ H6.out⟩
  | true =>
    obtain ⟨hbn, hv1, hv4⟩ := HGD.out rfl
    obtain ⟨n, rfl⟩ := Int.eq_ofNat_of_zero_le hv0
    have hn4 : n ≤ 4 := by omega
    clear hbn HGD
    have g1_ := GIP.out w1 H1.out
    go_wp2_with fail
    refine g1_.mono ?_
    rintro e w2 ⟨r2, rfl, ho2, hb2⟩
    clear g1_
    have HR2 : Hid (∀ w', Below w2.heap.size w2 w' → NodesAt w' r2 PA) := fun w' hb => (HPN.out _ _ _ ho2).below hb
    have H2 : Hid (Below w1.heap.size w1 w2) := H1.out.trans (hb2.mono H1.out.size)
    clear ho2 hb2
    have g2_ := GSP.out w2 H2.out
    go_wp2_with fail
    refine g2_.mono ?_
    rintro e w3 ⟨r3, rfl, ho3, hb3⟩
    clear g2_
    have g4 := sameNodes_any r2 r3 PA w3 (HR2.out w3 hb3) (HPN.out _ _ _ ho3)
    have R3 : Hid (Below w2.heap.size w2 w3) := hb3
    have H3 : Hid (Below w1.heap.size w1 w3) := H2.out.trans (hb3.mono H2.out.size)
    clear ho3 hb3 GIP GSP HPN
    go_wp2_with fail
    refine g4.mono ?_
    rintro e w4 ⟨rfl, hb4⟩
    clear g4
    have R4 : Hid (Below w2.heap.size w2 w4) := R3.out.trans (hb4.mono R3.out.size)
    have H4 : Hid (Below w1.heap.size w1 w4) := H3.out.trans (hb4.mono H3.out.size)
    clear hb4
    have g3_ := GIG.out w4 H4.out
    go_wp2_with fail
    refine g3_.mono ?_
    rintro e w5 ⟨rfl, hb5⟩
    clear g3_
    have H5 : Hid (Below w1.heap.size w1 w5) := H4.out.trans (hb5.mono H4.out.size)
    have R5 : Hid (Below w2.heap.size w2 w5) := R4.out.trans (hb5.mono R4.out.size)
    clear hb5
    have g4_ := GSG.out w5 H5.out
    go_wp2_with fail
    refine g4_.mono ?_
    rintro e w6 ⟨rfl, hb6⟩
    clear g4_
    have H6 : Hid (Below w1.heap.size w1 w6) := H5.out.trans (hb6.mono H5.out.size)
    have R6 : Hid (Below w2.heap.size w2 w6) := R5.out.trans (hb6.mono R5.out.size)
    clear hb6 GIG GSG
    go_wp2_with fail
    go_loopw [13, 15] (fun v i wr => ∃ (j : Nat) (st : List Int), j ≤ n ∧ i = .int .i64 j ∧ st.length = j ∧ Hid (GoodD k w6.heap.size wr v st) ∧ Hid (Below w6.heap.size w6 wr)) (fun _ i _ => n - (intOf i).toNat)
    case atStart => exact ⟨0, [], by omega, rfl, rfl, ⟨World.ownsRow_nil _ _ _ _, fun s hs => by cases hs⟩, Below.refl _ _⟩
    case round =>
      obtain ⟨j, st, hj, rfl, hsl, HG, HBR⟩ := hrel
      have HWR : Hid (Below w1.heap.size w1 wr) := H6.out.trans (HBR.out.mono H6.out.size)
      by_cases hlt' : j < n
      · have HSL : Hid (st.length = j) := hsl
        have hst5 : st.length ≤ 5 := by omega
        clear hsl
        rcases (show j = 0 ∨ j = 1 ∨ j = 2 ∨ j = 3 by omega) with rfl | rfl | rfl | rfl
        · have hdj : (0 : Int) < (n : Int) := by omega
          have gN := GNM.out wr (HW.out wr HWR.out)
          go_wp2_with fail
          refine gN.mono ?_
          rintro e wq ⟨x, ⟨hx0, hx1⟩, rfl, rfl⟩
          clear gN
          have gC := iCutTo_yes k k1 k64 (x) (by omega) (by omega) wq (HT.out wq (HW.out wq HWR.out))
          have own1 := HG.out.1.alloc (.cells #[.int .u64 (cut k (x))] 33)
          have cellsN := oneU_cells wq (cut k (x))
          have HNX : Hid (∀ v7 w7, w7.ownsRow w6.heap.size 33 1 v7 (st.length + 1) (cellsU st ++ [.int .u64 (cut k (x))]) → GoodD k w6.heap.size w7 v7 (st ++ [cut k (x)])) := fun v7 w7 ho => HG.out.more k1 k64 ho
          generalize cut k (x) = cx at *
          generalize cellsU st = xs0 at own1 HNX
          go_wp2_with fail
          refine gC.mono ?_
          rintro e wq2 ⟨rfl, rfl⟩
          clear gC
          go_wp2_with (at_builtin; refine wpList_append_own _ rfl _ _ 32 rfl w6.heap.size 33 i0 (.int .u64 0) 1 8 Tryd.underlying32 hi hz0 hz1 hz2 rfl (by decide) _ _ _ rfl own1 ⟨wq2.heap.size, 0, none⟩ 1 1 [.int .u64 cx] rfl rfl cellsN (by intro u hu; simp at hu; subst hu; rfl) (by unfold maxLen; omega) (by omega) (by have := HBR.out.size; simp; omega) ?_)
          intro v7 w7 own7 grow7 _
          have HG7 : Hid _ := HNX.out v7 w7 own7
          have HB7 : Hid (Below w6.heap.size w6 w7) := (HBR.out.alloc HBR.out.size _).grown grow7 (by have := HBR.out.size; simp; omega) (fun k hk => (World.ownsRow.lt HG.out.1 k hk).1)
          clear own1 own7 grow7 cellsN HNX
          go_wp2_with fail
          go_roundw
          case rel => exact ⟨0 + 1, st ++ [cx], by omega, by go_num, by have := HSL.out; simp only [List.length_append, List.length_singleton]; omega, HG7, HB7⟩
          case measure => simp [intOf]; omega
        · have hdj : (1 : Int) < (n : Int) := by omega
          have gN := GNM.out wr (HW.out wr HWR.out)
          go_wp2_with fail
          refine gN.mono ?_
          rintro e wq ⟨x, ⟨hx0, hx1⟩, rfl, rfl⟩
          clear gN
          have gC := iCutTo_yes k k1 k64 (x / 8) (by omega) (by omega) wq (HT.out wq (HW.out wq HWR.out))
          have own1 := HG.out.1.alloc (.cells #[.int .u64 (cut k (x / 8))] 33)
          have cellsN := oneU_cells wq (cut k (x / 8))
          have HNX : Hid (∀ v7 w7, w7.ownsRow w6.heap.size 33 1 v7 (st.length + 1) (cellsU st ++ [.int .u64 (cut k (x / 8))]) → GoodD k w6.heap.size w7 v7 (st ++ [cut k (x / 8)])) := fun v7 w7 ho => HG.out.more k1 k64 ho
          generalize cut k (x / 8) = cx at *
          generalize cellsU st = xs0 at own1 HNX
          go_wp2_with fail
          refine gC.mono ?_
          rintro e wq2 ⟨rfl, rfl⟩
          clear gC
          go_wp2_with (at_builtin; refine wpList_append_own _ rfl _ _ 32 rfl w6.heap.size 33 i0 (.int .u64 0) 1 8 Tryd.underlying32 hi hz0 hz1 hz2 rfl (by decide) _ _ _ rfl own1 ⟨wq2.heap.size, 0, none⟩ 1 1 [.int .u64 cx] rfl rfl cellsN (by intro u hu; simp at hu; subst hu; rfl) (by unfold maxLen; omega) (by omega) (by have := HBR.out.size; simp; omega) ?_)
          intro v7 w7 own7 grow7 _
          have HG7 : Hid _ := HNX.out v7 w7 own7
          have HB7 : Hid (Below w6.heap.size w6 w7) := (HBR.out.alloc HBR.out.size _).grown grow7 (by have := HBR.out.size; simp; omega) (fun k hk => (World.ownsRow.lt HG.out.1 k hk).1)
          clear own1 own7 grow7 cellsN HNX
          go_wp2_with fail
          go_roundw
          case rel => exact ⟨1 + 1, st ++ [cx], by omega, by go_num, by have := HSL.out; simp only [List.length_append, List.length_singleton]; omega, HG7, HB7⟩
          case measure => simp [intOf]; omega
        · have hdj : (2 : Int) < (n : Int) := by omega
          have gN := GNM.out wr (HW.out wr HWR.out)
          go_wp2_with fail
          refine gN.mono ?_
          rintro e wq ⟨x, ⟨hx0, hx1⟩, rfl, rfl⟩
          clear gN
          have gC := iCutTo_yes k k1 k64 (x / 64) (by omega) (by omega) wq (HT.out wq (HW.out wq HWR.out))
          have own1 := HG.out.1.alloc (.cells #[.int .u64 (cut k (x / 64))] 33)
          have cellsN := oneU_cells wq (cut k (x / 64))
          have HNX : Hid (∀ v7 w7, w7.ownsRow w6.heap.size 33 1 v7 (st.length + 1) (cellsU st ++ [.int .u64 (cut k (x / 64))]) → GoodD k w6.heap.size w7 v7 (st ++ [cut k (x / 64)])) := fun v7 w7 ho => HG.out.more k1 k64 ho
          generalize cut k (x / 64) = cx at *
          generalize cellsU st = xs0 at own1 HNX
          go_wp2_with fail
          refine gC.mono ?_
          rintro e wq2 ⟨rfl, rfl⟩
          clear gC
          go_wp2_with (at_builtin; refine wpList_append_own _ rfl _ _ 32 rfl w6.heap.size 33 i0 (.int .u64 0) 1 8 Tryd.underlying32 hi hz0 hz1 hz2 rfl (by decide) _ _ _ rfl own1 ⟨wq2.heap.size, 0, none⟩ 1 1 [.int .u64 cx] rfl rfl cellsN (by intro u hu; simp at hu; subst hu; rfl) (by unfold maxLen; omega) (by omega) (by have := HBR.out.size; simp; omega) ?_)
          intro v7 w7 own7 grow7 _
          have HG7 : Hid _ := HNX.out v7 w7 own7
          have HB7 : Hid (Below w6.heap.size w6 w7) := (HBR.out.alloc HBR.out.size _).grown grow7 (by have := HBR.out.size; simp; omega) (fun k hk => (World.ownsRow.lt HG.out.1 k hk).1)
          clear own1 own7 grow7 cellsN HNX
          go_wp2_with fail
          go_roundw
          case rel => exact ⟨2 + 1, st ++ [cx], by omega, by go_num, by have := HSL.out; simp only [List.length_append, List.length_singleton]; omega, HG7, HB7⟩
          case measure => simp [intOf]; omega
        · have hdj : (3 : Int) < (n : Int) := by omega
          have gN := GNM.out wr (HW.out wr HWR.out)
          go_wp2_with fail
          refine gN.mono ?_
          rintro e wq ⟨x, ⟨hx0, hx1⟩, rfl, rfl⟩
          clear gN
          have gC := iCutTo_yes k k1 k64 (x / 512) (by omega) (by omega) wq (HT.out wq (HW.out wq HWR.out))
          have own1 := HG.out.1.alloc (.cells #[.int .u64 (cut k (x / 512))] 33)
          have cellsN := oneU_cells wq (cut k (x / 512))
          have HNX : Hid (∀ v7 w7, w7.ownsRow w6.heap.size 33 1 v7 (st.length + 1) (cellsU st ++ [.int .u64 (cut k (x / 512))]) → GoodD k w6.heap.size w7 v7 (st ++ [cut k (x / 512)])) := fun v7 w7 ho => HG.out.more k1 k64 ho
          generalize cut k (x / 512) = cx at *
          generalize cellsU st = xs0 at own1 HNX
          go_wp2_with fail
          refine gC.mono ?_
          rintro e wq2 ⟨rfl, rfl⟩
          clear gC
          go_wp2_with (at_builtin; refine wpList_append_own _ rfl _ _ 32 rfl w6.heap.size 33 i0 (.int .u64 0) 1 8 Tryd.underlying32 hi hz0 hz1 hz2 rfl (by decide) _ _ _ rfl own1 ⟨wq2.heap.size, 0, none⟩ 1 1 [.int .u64 cx] rfl rfl cellsN (by intro u hu; simp at hu; subst hu; rfl) (by unfold maxLen; omega) (by omega) (by have := HBR.out.size; simp; omega) ?_)
          intro v7 w7 own7 grow7 _
          have HG7 : Hid _ := HNX.out v7 w7 own7
          have HB7 : Hid (Below w6.heap.size w6 w7) := (HBR.out.alloc HBR.out.size _).grown grow7 (by have := HBR.out.size; simp; omega) (fun k hk => (World.ownsRow.lt HG.out.1 k hk).1)
          clear own1 own7 grow7 cellsN HNX
          go_wp2_with fail
          go_roundw
          case rel => exact ⟨3 + 1, st ++ [cx], by omega, by go_num, by have := HSL.out; simp only [List.length_append, List.length_singleton]; omega, HG7, HB7⟩
          case measure => simp [intOf]; omega
      · obtain rfl : j = n := by omega
        have HV : Hid _ := HPV.out _ rfl (by first | rfl | trivial) st u13 w6.heap.size wr hsl HG.out
        have HGS : Hid (GoodD k w6.heap.size wr u13 st) := HG.out
        have HST : Hid (∀ w', Below wr.heap.size wr w' → StAt w' u13 st) := fun w' hb => HG.out.st.below hb
        have RR6 : Hid (Below w2.heap.size w2 wr) := R6.out.trans (HBR.out.mono R6.out.size)
        obtain ⟨sa, sc, hsh⟩ := own_shape HG.out.1
        have hcs : ∀ (i : Nat) (b : List Nd), bs[i]? = some b → ∃ (c o : Nat) (z : Value), ba = some ⟨c, o, none⟩ ∧ c < w1.heap.size ∧ w1.cell? ⟨c, o + i, none⟩ = some z ∧ NodesAt w1 z b := by
          intro i b hb
          rcases (HSS.out w1 H1.out).2 with ⟨h, _⟩ | ⟨c, o, cp, he, hlt, hc⟩
          · rw [h] at hb
            simp at hb
          · obtain ⟨z, h1, h2⟩ := hc i b hb
            simp at he
            exact ⟨c, o, z, he.1, hlt, h1, h2⟩
        have HCS : Hid _ := hcs
        clear hsl HG HPV HSS hcs
        obtain ⟨wo, rfl⟩ : ∃ wo : World, wo = wr := ⟨_, rfl⟩
        subst hsh
        go_wp2_with fail
        go_loopw [14, 99] (fun x i wr => ∃ (j2 : Nat), j2 ≤ bs.length ∧ i = .int .i64 j2 ∧ Hid (GoodD k wo.heap.size wr x ((bs.take j2).map fun b => valueL k b st)) ∧ Hid (Below wo.heap.size wo wr)) (fun _ i _ => bs.length - (intOf i).toNat)
        case atStart => exact ⟨0, by omega, rfl, ⟨World.ownsRow_nil _ _ _ _, fun s hs => by cases hs⟩, Below.refl _ _⟩
        case round =>
          obtain ⟨j2, hj2, rfl, HG2, HB2⟩ := hrel
          have HW2 : Hid (Below w1.heap.size w1 wr) := HWR.out.trans (HB2.out.mono HWR.out.size)
          by_cases hlt2 : j2 < bs.length
          · obtain ⟨b, hbb⟩ : ∃ b, bs[j2]? = some b := ⟨bs[j2], List.getElem?_eq_getElem hlt2⟩
            obtain ⟨c, o, z, rfl, hclt, cz, hz⟩ := HCS.out j2 b hbb
            rw [← HW2.out.cell (p := ⟨c, o + j2, none⟩) hclt] at cz
            have g7 := HV.out.2.1 b z wr (List.mem_of_getElem? hbb) HW2.out (hz.below HW2.out) (HST.out wr HB2.out)
            have hgb := HV.out.1 b (List.mem_of_getElem? hbb)
            obtain ⟨za, zc, rfl⟩ := hz.shape
            have HE : Hid ((bs.take (j2 + 1)).map (fun b => valueL k b st) = (bs.take j2).map (fun b => valueL k b st) ++ [valueL k b st]) := by
              show _ = _
              rw [List.take_add_one, hbb]
              simp
            have hlj : ((bs.take j2).map fun b => valueL k b st).length = j2 := by simp; omega
            have HGB : Hid _ := hgb
            clear hbb hz hgb
            generalize hNV : (bs.take (j2 + 1)).map (fun b => valueL k b st) = NV at *
            have HNV : Hid _ := hNV
            generalize (bs.take j2).map (fun b => valueL k b st) = OV at *
            generalize valueL k b st = vb at *
            clear hNV
            have HLJ : Hid (OV.length = j2) := hlj
            have hov : OV.length ≤ 6 := by omega
            clear hlj
            go_wp2_with fail
            refine g7.mono ?_
            rintro e w7 ⟨rfl, hb7⟩
            clear g7
            have own0 : w7.ownsRow wo.heap.size 33 1 u14 OV.length (cellsU OV) := owns_below HG2.out.1 hb7
            have HG7 : Hid (GoodD k wo.heap.size w7 u14 OV) := ⟨own0, HG2.out.2⟩
            have HB7 : Hid (Below wo.heap.size wo w7) := HB2.out.trans (hb7.mono HB2.out.size)
            have own1 := own0.alloc (.cells #[.int .u64 vb] 33)
            have cellsN := oneU_cells w7 vb
            have HNX : Hid (∀ v8 w8, w8.ownsRow wo.heap.size 33 1 v8 (OV.length + 1) (cellsU OV ++ [.int .u64 vb]) → GoodD k wo.heap.size w8 v8 NV) := fun v8 w8 ho => by rw [HE.out]; exact HG7.out.push HGB.out ho
            clear hb7 own0 HG2
            generalize cellsU OV = xs0 at own1 HNX
            go_wp2_with (at_builtin; refine wpList_append_own _ rfl _ _ 32 rfl wo.heap.size 33 i0 (.int .u64 0) 1 8 Tryd.underlying32 hi hz0 hz1 hz2 rfl (by decide) _ _ _ rfl own1 ⟨w7.heap.size, 0, none⟩ 1 1 [.int .u64 vb] rfl rfl cellsN (by intro u hu; simp at hu; subst hu; rfl) (by unfold maxLen; omega) (by omega) (by have := HB7.out.size; simp; omega) ?_)
            intro v8 w8 own8 grow8 _
            have HG8 : Hid _ := HNX.out v8 w8 own8
            have HB8 : Hid (Below wo.heap.size wo w8) := (HB7.out.alloc HB7.out.size _).grown grow8 (by have := HB7.out.size; simp; omega) (fun k hk => (World.ownsRow.lt HG7.out.1 k hk).1)
            clear own1 own8 grow8 cellsN HNX
            go_wp2_with fail
            go_roundw
            case rel => exact ⟨j2 + 1, by omega, by go_num, by rw [HNV.out]; exact HG8, HB8⟩
            case measure => simp [intOf]; omega
          · obtain rfl : j2 = bs.length := by omega
            have hg2 := HG2.out
            rw [List.take_length] at hg2
            have HGV : Hid (GoodD k wo.heap.size wr u14 (bs.map fun b => valueL k b st)) := hg2
            have g8 := HV.out.2.2.1 r2 wr HW2.out (HR2.out wr (RR6.out.trans (HB2.out.mono RR6.out.size))) (HST.out wr HB2.out)
            obtain ⟨va, vc, hvv⟩ := own_shape hg2.1
            clear hg2 HG2
            generalize (bs.map fun b => valueL k b st) = VS at *
            generalize valueL k t VS = VT at *
            subst hvv
            go_wp2_with fail
            refine g8.mono ?_
            rintro e w9 ⟨rfl, hb9⟩
            clear g8
            have H9 : Hid (Below w1.heap.size w1 w9) := HW2.out.trans (hb9.mono HW2.out.size)
            have g9 := HV.out.2.2.2 _ wo.heap.size wr w9 H9.out HGV.out (HND.out w9 H9.out) (HGV.out.st.below hb9)
            clear hb9
            go_wp2_with fail
            refine g9.mono ?_
            rintro e w10 ⟨rfl, hb10⟩
            clear g9
            have HE : Hid (Below w.heap.size w w10) := HW.out w10 (H9.out.trans (hb10.mono H9.out.size))
            clear hb10
            go_wp2_with fail
            go_ret
            exact ⟨ret_bool (by simp), HE.out⟩
end Go.Proofs.YtkmgcgmeibhnmaaDoor
