/-
  What the law of joined terms draws out of bytes.
  Plain mathematics for trees: what joined terms come to, and what is turned twice.
  The program's JoinTerms.
  The walk of the law of joined terms.
-/
import Derived.Test.YtkmgcgmeibhnmaaDoorTog1
import Derived.Test.YtkmgcgmeibhnmaaDoorTog2
import Derived.Test.YtkmgcgmeibhnmaaDoorILay2
import Derived.Test.YtkmgcgmeibhnmaaDoorLJoin
import Derived.Deep.CutRange
namespace Go.Proofs.YtkmgcgmeibhnmaaDoor
open Go Go.RowKit
open M
set_option linter.unusedVariables false

theorem results_tmp4 {fn : Func} {t u v x : Tmp} (h : fn.results = #[.tmp t, .tmp u, .tmp v, .tmp x]) (tmps : Array Value) (P : Program) (w : World) :
    (results fn tmps).run P w = .ok (.tuple #[tmps.getD t undef, tmps.getD u undef, tmps.getD v undef, tmps.getD x undef]) w := by
  simp [results, h]
theorem results_tmp5 {fn : Func} {t u v x y : Tmp} (h : fn.results = #[.tmp t, .tmp u, .tmp v, .tmp x, .tmp y]) (tmps : Array Value) (P : Program) (w : World) :
    (results fn tmps).run P w = .ok (.tuple #[tmps.getD t undef, tmps.getD u undef, tmps.getD v undef, tmps.getD x undef, tmps.getD y undef]) w := by
  simp [results, h]
theorem slice_of_code {B : Nat} {w : World} {sv : Value} (h : CodeOk B w sv) : ∃ sa sl sc, sv = .slice sa sl sc := by
  rcases h with ⟨a, cap, rfl⟩ | ⟨cb, off, len, cap, rfl, _⟩
  · exact ⟨_, _, _, rfl⟩
  · exact ⟨_, _, _, rfl⟩
set_option maxRecDepth 100000 in
set_option maxHeartbeats 1000000 in
theorem drawTurn_any (sv : Value) (w : World) (h : CodeOk w.heap.size w sv) :
    Calls Tryd.prog 38 #[sv] w fun e w' => ∃ (k : Nat) (vars op : Int) (v : Value) (t : List Nd), e = .returned (.tuple #[.int .i64 (k : Int), .int .i64 vars, .int .i64 op, v]) ∧ (1 ≤ k ∧ k ≤ 64) ∧ (0 ≤ vars ∧ vars ≤ 5) ∧ (3 ≤ op ∧ op ≤ 19) ∧ NodesD w w' v t ∧ Below w.heap.size w w' := by
  have hc := cur_new w sv h
  have g := term_any _ _ _ sv _ hc (by omega)
  have HB0 : Hid (Below w.heap.size w (w.alloc (.cells #[sv, .int .i64 0, .int .u64 0] 78))) := (Below.refl _ _).alloc (Nat.le_refl _) _
  obtain ⟨sa, sl, sc, rfl⟩ := slice_of_code h
  clear h hc
  go_enter Tryd.func38, Tryd.ntmps38
  go_wp2_with fail
  refine g.mono ?_
  rintro e w1 ⟨k, vars, v, t, rfl, hd⟩
  have HD : Hid (TermD _ _ _ _ _ w1 k vars v t) := hd
  have hcur := hd.2.2.2.2.2.2.2.2
  have hlies := hcur.lies
  have g2 := among_any _ _ _ _ w1.heap.size 4 4 3 19 (by omega) (by omega) _ (hcur.alloc (.cells (nums [13, 19, 19, 3]) 3)) (by omega) (by omega) (by simp) (nums_at (l := [13, 19, 19, 3]) (by decide) w1)
  clear g hd hcur hlies
  go_wp2_with fail
  refine g2.mono ?_
  rintro e w2 ⟨op, hop, rfl, ho2, hc2⟩
  have HR : Hid ((1 ≤ k ∧ k ≤ 64) ∧ (0 ≤ vars ∧ vars ≤ 5) ∧ (3 ≤ op ∧ op ≤ 19) ∧ NodesD w w2 v t ∧ Below w.heap.size w w2) := by
    obtain ⟨h1, h2⟩ := TermD.out HD.out HB0.out
    have ho3 : Only w.heap.size w1 w2 := ((Only.refl _ w1).alloc _).trans ho2
    refine ⟨⟨HD.out.1, HD.out.2.1⟩, ⟨HD.out.2.2.1, HD.out.2.2.2.1⟩, hop, ⟨?_, h1.2⟩, h2.trans (ho3.below (Nat.le_refl _) h2.size)⟩
    have own0 : OwnNodes w1 (w.heap.size + 1) v t := by
      have h9 := HD.out.2.2.2.2.1
      rw [show (w.alloc (.cells #[.slice sa sl sc, .int .i64 0, .int .u64 0] 78)).heap.size = w.heap.size + 1 from by simp] at h9
      exact h9
    exact OwnNodes.low (own_keeps own0 (by omega) ho3) (by omega)
  clear g2 ho2 hc2 HD
  go_wp2_with fail
  refine bodyPost_ret (results_tmp4 rfl _ _ _) rfl ?_
  exact ⟨k, vars, op, v, t, rfl, HR.out⟩
set_option maxRecDepth 100000 in
set_option maxHeartbeats 2000000 in
theorem drawJoin_any (sv : Value) (w : World) (h : CodeOk w.heap.size w sv) :
    Calls Tryd.prog 33 #[sv] w fun e w' => ∃ (k : Nat) (vars op : Int) (av : Value) (a : List Nd) (bv : Value) (b : List Nd), e = .returned (.tuple #[.int .i64 (k : Int), .int .i64 vars, .int .i64 op, av, bv]) ∧ (1 ≤ k ∧ k ≤ 8) ∧ (1 ≤ vars ∧ vars ≤ 3) ∧ (0 ≤ op ∧ op ≤ 20) ∧ NodesD w w' av a ∧ NodesD w w' bv b ∧ Below w.heap.size w w' := by
  have hc := cur_new w sv h
  have HB0 : Hid (Below w.heap.size w (w.alloc (.cells #[sv, .int .i64 0, .int .u64 0] 78))) := (Below.refl _ _).alloc (Nat.le_refl _) _
  obtain ⟨sa, sl, sc, rfl⟩ := slice_of_code h
  have GP : Hid (∀ (n : Int) (m' : Nat) (w1 : World), 1 ≤ n → n ≤ 50 → Cur w.heap.size w.heap.size m' (.slice sa sl sc) w1 → m' ≤ 9000000 → Calls Tryd.prog 77 #[ptr w.heap.size, .int .i64 n] w1 fun e w' => ∃ x : Int, (0 ≤ x ∧ x < n) ∧ e = .returned (.int .i64 x) ∧ Only w.heap.size w1 w' ∧ Cur w.heap.size w.heap.size (m' + 2) (.slice sa sl sc) w') := fun n m' w1 h1 h2 hc' hm' => pick_any _ _ m' _ n h1 (by omega) w1 hc' (by omega)
  have GO : Hid (∀ (n : Int) (m' : Nat) (w1 : World), 1 ≤ n → n ≤ 50 → Cur w.heap.size w.heap.size m' (.slice sa sl sc) w1 → m' ≤ 9000000 → Calls Tryd.prog 59 #[ptr w.heap.size, .int .i64 n] w1 fun e w' => ∃ x : Bool, e = .returned (.bool x) ∧ Only w.heap.size w1 w' ∧ Cur w.heap.size w.heap.size (m' + 2) (.slice sa sl sc) w') := fun n m' w1 h1 h2 hc' hm' => one_any _ _ m' _ n h1 (by omega) w1 hc' (by omega)
  have HEND : Hid (∀ (m1 m2 L1 L2 : Nat) (w3 w4 w5 : World) (av bv : Value) (a b : List Nd), Only w.heap.size (w.alloc (.cells #[.slice sa sl sc, .int .i64 0, .int .u64 0] 78)) w3 → Drawn w.heap.size w.heap.size m1 (.slice sa sl sc) L1 w3 w4 av a → Drawn w.heap.size w.heap.size m2 (.slice sa sl sc) L2 w4 w5 bv b → L1 ≤ 31 → L2 ≤ 31 → NodesD w w5 av a ∧ NodesD w w5 bv b ∧ Below w.heap.size w w5) := by
    intro m1 m2 L1 L2 w3 w4 w5 av bv a b ho ha hb h1 h2
    have s0 : (w.alloc (.cells #[.slice sa sl sc, .int .i64 0, .int .u64 0] 78)).heap.size = w.heap.size + 1 := by simp
    have hs := ho.size
    rw [s0] at hs
    have ha2 := ha.only (by omega) hb.2.2.2.2.1 hb.cur
    have hs4 := ha.2.2.2.2.1.size
    exact ⟨⟨OwnNodes.low ha2.1 (by omega), ha2.2.1, Nat.le_trans ha2.2.2.2.1 h1⟩, ⟨OwnNodes.low hb.1 (by omega), hb.2.1, Nat.le_trans hb.2.2.2.1 h2⟩, HB0.out.trans (((ho.trans ha.2.2.2.2.1).trans hb.2.2.2.2.1).below (Nat.le_refl _) HB0.out.size)⟩
  have HC0 : Hid _ := hc
  have g1 := GP.out 8 _ _ (by omega) (by omega) hc (by omega)
  clear h hc
  go_enter Tryd.func33, Tryd.ntmps33
  go_wp2_with fail
  refine g1.mono ?_
  rintro e w1 ⟨x, ⟨hx0, hx1⟩, rfl, ho1, hc1⟩
  have HO1 : Hid _ := ho1
  have g2 := GP.out 3 _ w1 (by omega) (by omega) hc1 (by omega)
  clear g1 ho1 hc1
  go_wp2_with fail
  refine g2.mono ?_
  rintro e w2 ⟨y, ⟨hy0, hy1⟩, rfl, ho2, hc2⟩
  have HO2 : Hid _ := Only.trans HO1.out ho2
  have g3 := GO.out 3 _ w2 (by omega) (by omega) hc2 (by omega)
  clear g2 ho2 hc2 HO1
  obtain ⟨k0, hk0⟩ : ∃ k : Nat, (1 + x : Int) = (k : Int) := ⟨(1 + x).toNat, by omega⟩
  have hkr : 1 ≤ k0 ∧ k0 ≤ 8 := by omega
  go_wp2_with fail
  refine g3.mono ?_
  rintro e w3 ⟨q, rfl, ho3, hc3⟩
  have HO3 : Hid _ := Only.trans HO2.out ho3
  clear g3 ho3 HO2
  cases q with
  | true =>
    have g4 := GP.out 21 _ w3 (by omega) (by omega) hc3 (by omega)
    clear hc3
    go_wp2_with fail
    refine g4.mono ?_
    rintro e w4 ⟨op, ⟨hop0, hop1⟩, rfl, ho4, hc4⟩
    have HO4 : Hid _ := Only.trans HO3.out ho4
    have g5 := ask1 _ _ _ _ k0 (1 + y) w4 hkr.1 (by omega) (by omega) (by omega) hc4 (by omega)
    clear g4 ho4 hc4 HO3
    go_wp2_with fail
    refine g5.mono ?_
    rintro e w5 ⟨av, a, rfl, hd5⟩
    have HD5 : Hid (Drawn _ _ _ _ 15 w4 w5 av a) := hd5
    have g6 := ask2 _ _ _ _ k0 (1 + y) w5 hkr.1 (by omega) (by omega) (by omega) hd5.cur (by omega)
    clear g5 hd5
    go_wp2_with fail
    refine g6.mono ?_
    rintro e w6 ⟨bv, b, rfl, hd6⟩
    have HR : Hid _ := HEND.out _ _ _ _ w4 w5 w6 av bv a b HO4.out HD5.out hd6 (by omega) (by omega)
    clear g6 hd6 HD5
    go_wp2_with fail
    refine bodyPost_ret (results_tmp5 rfl _ _ _) rfl ?_
    exact ⟨k0, 1 + y, op, av, a, bv, b, rfl, hkr, ⟨by omega, by omega⟩, ⟨by omega, by omega⟩, HR.out⟩
  | false =>
    have g4 := GP.out 18 _ w3 (by omega) (by omega) hc3 (by omega)
    clear hc3
    go_wp2_with fail
    refine g4.mono ?_
    rintro e w4 ⟨op, ⟨hop0, hop1⟩, rfl, ho4, hc4⟩
    have HO4 : Hid _ := Only.trans HO3.out ho4
    have g5 := num2 _ _ _ _ k0 (1 + y) w4 hkr.1 (by omega) (by omega) (by omega) hc4 (by omega)
    clear g4 ho4 hc4 HO3
    go_wp2_with fail
    refine g5.mono ?_
    rintro e w5 ⟨av, a, rfl, hd5⟩
    have HD5 : Hid (Drawn _ _ _ _ 7 w4 w5 av a) := hd5
    have g6 := num3 _ _ _ _ k0 (1 + y) w5 hkr.1 (by omega) (by omega) (by omega) hd5.cur (by omega)
    clear g5 hd5
    go_wp2_with fail
    refine g6.mono ?_
    rintro e w6 ⟨bv, b, rfl, hd6⟩
    have HR : Hid _ := HEND.out _ _ _ _ w4 w5 w6 av bv a b HO4.out HD5.out hd6 (by omega) (by omega)
    clear g6 hd6 HD5
    go_wp2_with fail
    refine bodyPost_ret (results_tmp5 rfl _ _ _) rfl ?_
    exact ⟨k0, 1 + y, op, av, a, bv, b, rfl, hkr, ⟨by omega, by omega⟩, ⟨by omega, by omega⟩, HR.out⟩
end Go.Proofs.YtkmgcgmeibhnmaaDoor

namespace Go.Proofs.YtkmgcgmeibhnmaaDoor
open Go Go.RowKit
open M
set_option linter.unusedVariables false

theorem said_of_kind {k : Nat} {t : List Nd} {st : List Int} (h : 0 < kindL k st.length t) (hst : ∀ s ∈ st, goodB k s = true) : saidV k t st = true := by
  unfold saidV
  rw [decide_eq_true h, Bool.true_and]
  exact List.all_eq_true.2 hst
theorem st_words {k : Nat} {st : List Int} (h0 : ∀ s ∈ st, 0 ≤ s) (hst : ∀ s ∈ st, goodB k s = true) : ∀ s ∈ st, 0 ≤ s ∧ s < pw k := by
  intro s hs
  obtain ⟨k', e, _, _, h3⟩ := goodB_true (hst s hs)
  obtain rfl : k = k' := by omega
  exact ⟨h0 s hs, h3⟩
theorem pos_of {t : List Nd} {r : Tr} (hok : ∀ x ∈ t, NdOk x) (h : r.flat = t) : Pos r := by
  intro x hx
  rw [h] at hx
  exact (hok x hx).2.2.1
theorem below_of {k : Int} {n : Nat} {r : Tr} (h : r.Ok k n) (hp : Pos r) : VarsBelow r n := by
  intro x hx h2
  have h3 := ok_vars h x hx h2
  have h4 := hp x hx
  omega
/-- what is joined comes to what its op makes of both -/
theorem joined_said {k : Nat} {op : Int} {a b : List Nd} {st : List Int} (hoka : ∀ x ∈ a, NdOk x) (hokb : ∀ x ∈ b, NdOk x) (h : saidJoin k st.length op a b = true) (h0 : ∀ s ∈ st, 0 ≤ s) (hst : ∀ s ∈ st, goodB k s = true) :
    1 ≤ st.length ∧ st.length ≤ 4 ∧ saidV k (joinL k st.length op a b) st = true ∧ saidV k a st = true ∧ saidV k b st = true ∧ valueL k (joinL k st.length op a b) st = doOp k op (valueL k a st) (valueL k b st) ∧ (0 ≤ valueL k a st ∧ valueL k a st < pw k) ∧ (0 ≤ valueL k b st ∧ valueL k b st < pw k) ∧ (1 ≤ k ∧ k ≤ 64) := by
  have h' : manyOf op = 2 ∧ kindL k st.length a = partOf op ∧ kindL k st.length b = partOf op ∧ 0 < kindL k st.length (a ++ b ++ [(op, 0)]) := of_decide_eq_true h
  obtain ⟨m2, ha, hb, hj⟩ := h'
  have hne : manyOf op ≠ 0 := by omega
  have hpp := part_many hne
  obtain ⟨g1, g2, g3, g4, g5, ra, hra, a1, a2, a3⟩ := root_tree (show 0 < kindL k st.length a by omega)
  obtain ⟨_, _, _, _, _, rb, hrb, b1, b2, b3⟩ := root_tree (show 0 < kindL k st.length b by omega)
  obtain ⟨k', e, hk1, hk64⟩ := wideB_true g1
  obtain rfl : k = k' := by omega
  have hT : (Tr.two (op, 0) ra rb).Ok k st.length := ⟨own_many hne, okN_zero hne, m2, by rw [a3]; exact ha, by rw [b3]; exact hb, a1, b1⟩
  have hF : (Tr.two (op, 0) ra rb).flat = a ++ b ++ [(op, 0)] := by
    show ra.flat ++ rb.flat ++ [(op, 0)] = _
    rw [a2, b2]
  have hsz : (Tr.two (op, 0) ra rb).size ≤ 48 := by
    by_cases hs : (Tr.two (op, 0) ra rb).size ≤ 48
    · exact hs
    · have := Tr.kindL_long (wide := k) (vars := st.length) (t := Tr.two (op, 0) ra rb) (by omega)
      rw [hF] at this
      omega
  have hJ : joinL k st.length op a b = (Tr.two (op, 0) ra rb).flat := by
    unfold joinL madeL
    rw [if_pos ⟨m2, ha, hb⟩, if_pos hj, hF]
  have sa := said_of_kind (show 0 < kindL k st.length a by omega) hst
  have sb := said_of_kind (show 0 < kindL k st.length b by omega) hst
  have va : valueL k a st = trVal k st ra := by have := valueL_tree sa hra; simpa using this
  have vb : valueL k b st = trVal k st rb := by have := valueL_tree sb hrb; simpa using this
  obtain ⟨s1, s2⟩ := value_of_flat hT hk1 hk64 (by omega) (by omega) hsz hst
  have wst := st_words h0 hst
  have pa := pos_of hoka a2
  have pb := pos_of hokb b2
  have oa := (trVal_ok hk1 hk64 wst a1 pa (below_of a1 pa)).word hk1
  have ob := (trVal_ok hk1 hk64 wst b1 pb (below_of b1 pb)).word hk1
  rw [hJ, va, vb]
  exact ⟨by omega, by omega, s1, sa, sb, s2, oa, ob, hk1, hk64⟩
theorem joined_good {k : Nat} {vars op : Int} {a b : List Nd} (h : saidJoin k vars op a b = true) : 1 ≤ vars ∧ vars ≤ 4 ∧ 1 ≤ k ∧ k ≤ 64 := by
  have h' : manyOf op = 2 ∧ kindL k vars a = partOf op ∧ kindL k vars b = partOf op ∧ 0 < kindL k vars (a ++ b ++ [(op, 0)]) := of_decide_eq_true h
  obtain ⟨g1, g2, g3, _⟩ := root_tree h'.2.2.2
  obtain ⟨k', e, hk1, hk64⟩ := wideB_true g1
  exact ⟨g2, g3, by omega, by omega⟩
/-- twice the same op of one part is as before -/
theorem turned_said {k : Nat} {op : Int} {t : List Nd} {st : List Int} (hok : ∀ x ∈ t, NdOk x) (h1 : saidTurn k st.length op t = true) (h2 : saidTurn k st.length op (turnL k st.length op t) = true) (h0 : ∀ s ∈ st, 0 ≤ s) (hst : ∀ s ∈ st, goodB k s = true) :
    saidV k (turnL k st.length op (turnL k st.length op t)) st = true ∧ saidV k t st = true ∧ valueL k (turnL k st.length op (turnL k st.length op t)) st = valueL k t st := by
  have h1' : manyOf op = 1 ∧ kindL k st.length t = partOf op ∧ 0 < kindL k st.length (t ++ [(op, 0)]) := of_decide_eq_true h1
  obtain ⟨m1, ht, hj⟩ := h1'
  have hne : manyOf op ≠ 0 := by omega
  have hpp := part_many hne
  obtain ⟨g1, g2, g3, g4, g5, r, hr, r1, r2, r3⟩ := root_tree (show 0 < kindL k st.length t by omega)
  obtain ⟨k', e, hk1, hk64⟩ := wideB_true g1
  obtain rfl : k = k' := by omega
  have e1 : turnL k st.length op t = t ++ [(op, 0)] := by
    unfold turnL madeL
    rw [if_pos ⟨m1, ht⟩, if_pos hj]
  rw [e1] at h2 ⊢
  have h2' : manyOf op = 1 ∧ kindL k st.length (t ++ [(op, 0)]) = partOf op ∧ 0 < kindL k st.length (t ++ [(op, 0)] ++ [(op, 0)]) := of_decide_eq_true h2
  obtain ⟨_, ht2, hj2⟩ := h2'
  have e2 : turnL k st.length op (t ++ [(op, 0)]) = t ++ [(op, 0)] ++ [(op, 0)] := by
    unfold turnL madeL
    rw [if_pos ⟨m1, ht2⟩, if_pos hj2]
  rw [e2]
  have hop : op = 13 ∨ op = 19 := by
    unfold manyOf at m1
    split at m1
    · assumption
    · split at m1 <;> omega
  have hopk : ownOf op = partOf op := by rcases hop with rfl | rfl <;> rfl
  have hT1 : (Tr.one (op, 0) r).Ok k st.length := ⟨own_many hne, okN_zero hne, m1, by rw [r3]; exact ht, r1⟩
  have hT2 : (Tr.one (op, 0) (Tr.one (op, 0) r)).Ok k st.length := ⟨own_many hne, okN_zero hne, m1, hopk, hT1⟩
  have hF : (Tr.one (op, 0) (Tr.one (op, 0) r)).flat = t ++ [(op, 0)] ++ [(op, 0)] := by
    show r.flat ++ [(op, 0)] ++ [(op, 0)] = _
    rw [r2]
  have hsz : (Tr.one (op, 0) (Tr.one (op, 0) r)).size ≤ 48 := by
    by_cases hs : (Tr.one (op, 0) (Tr.one (op, 0) r)).size ≤ 48
    · exact hs
    · have := Tr.kindL_long (wide := k) (vars := st.length) (t := Tr.one (op, 0) (Tr.one (op, 0) r)) (by omega)
      rw [hF] at this
      omega
  have sa := said_of_kind (show 0 < kindL k st.length t by omega) hst
  have va : valueL k t st = trVal k st r := by have := valueL_tree sa hr; simpa using this
  obtain ⟨s1, s2⟩ := value_of_flat hT2 hk1 hk64 (by omega) (by omega) hsz hst
  rw [hF] at s1 s2
  refine ⟨s1, sa, ?_⟩
  rw [s2, va]
  show val1 k (op, 0) (val1 k (op, 0) (trVal k st r)) = trVal k st r
  unfold val1
  rcases hop with rfl | rfl
  · simp only [if_true]
    omega
  · simp
    omega
theorem turned_good {k : Nat} {vars op : Int} {t : List Nd} (h : saidTurn k vars op t = true) : 1 ≤ vars ∧ vars ≤ 4 ∧ 1 ≤ k ∧ k ≤ 64 := by
  have h' : manyOf op = 1 ∧ kindL k vars t = partOf op ∧ 0 < kindL k vars (t ++ [(op, 0)]) := of_decide_eq_true h
  obtain ⟨g1, g2, g3, _⟩ := root_tree h'.2.2
  obtain ⟨k', e, hk1, hk64⟩ := wideB_true g1
  exact ⟨g2, g3, by omega, by omega⟩
end Go.Proofs.YtkmgcgmeibhnmaaDoor

namespace Go.Proofs.YtkmgcgmeibhnmaaDoor
open Go Go.RowKit
open M
set_option linter.unusedVariables false

theorem twoV_cells (w : World) (x y : Value) : (w.alloc (.cells #[x, y] 83)).cell? ⟨w.heap.size, 0, none⟩ = some x ∧ (w.alloc (.cells #[x, y] 83)).cell? ⟨w.heap.size, 1, none⟩ = some y := by
  constructor <;> simp
set_option maxRecDepth 100000 in
set_option maxHeartbeats 1000000 in
theorem impl_JoinTerms : DoesJoinTerms := by
  intro wide vars op av a bv b w hT h hl h' hl' hw0 hw1 hv0 hv1' hop0 hop1
  have g1 := rootOf_q wide vars av a w hT h
  have G1b : Hid (∀ w1, Below w.heap.size w w1 → Calls Tryd.prog 60 #[.int .i64 wide, .int .i64 vars, bv] w1 fun e w' => ∃ q, e = .returned (pv q) ∧ RootQ wide vars b q w' ∧ Below w1.heap.size w1 w') :=
    fun w1 hb => rootOf_q wide vars bv b w1 (hT.below hb hT.some) (h'.below hb)
  by_cases hg : manyOf op = 2 ∧ kindL wide vars a = partOf op ∧ kindL wide vars b = partOf op
  · have hpp := part_many (op := op) (by omega)
    have HE : Hid (saidJoin wide vars op a b = decide (0 < kindL wide vars (a ++ b ++ [(op, 0)])) ∧ joinL wide vars op a b = madeL wide vars (a ++ b ++ [(op, 0)])) := by
      unfold saidJoin joinL
      rw [if_pos hg]
      refine ⟨?_, rfl⟩
      apply decide_eq_decide.2
      exact ⟨fun h => h.2.2.2, fun h => ⟨hg.1, hg.2.1, hg.2.2, h⟩⟩
    rw [HE.out.1, HE.out.2]
    have HG : Hid _ := hg
    generalize hZ : decide (0 < kindL wide vars (a ++ b ++ [(op, 0)])) = Z
    generalize hM : madeL wide vars (a ++ b ++ [(op, 0)]) = M
    have HZ : Hid _ := hZ
    have HM : Hid _ := hM
    clear hT h h' hg HE hZ hM
    go_enter Tryd.func34, Tryd.ntmps34
    go_wp2_with fail
    refine g1.mono ?_
    rintro e w0 ⟨q0, rfl, hq0, hb0⟩
    clear g1
    have g1 := G1b.out w0 hb0
    clear G1b
    rcases q0 with _ | ⟨pa, ra⟩
    · exfalso
      have h1 : ¬ 0 < kindL wide vars a := hq0
      have h2 := HG.out.2.1
      omega
    have HB0 : Hid _ := hb0
    have HQ0 : Hid (RootQ wide vars a (some (pa, ra)) w0) := hq0
    clear hb0 hq0
    go_wp2_with fail
    refine g1.mono ?_
    rintro e w1 ⟨q, rfl, hq, hb1⟩
    clear g1
    rcases q with _ | ⟨pb, rb⟩
    · exfalso
      have h1 : ¬ 0 < kindL wide vars b := hq
      have h2 := HG.out.2.2
      omega
    obtain ⟨hk, hr, htr, hok, hfl, hrk, h48, hwb, hv1, hv4⟩ := hq
    obtain ⟨_, _, htra, hoka, hfla, hrka, h48a, _⟩ := RootQ.below HQ0.out hb1
    have hbx : Below w1.heap.size w1 (w1.alloc (.cells #[ptr pa, ptr pb] 83)) := (Below.refl _ _).alloc (Nat.le_refl _) _
    have hne : manyOf op ≠ 0 := by rw [HG.out.1]; decide
    have g2 := nodeOver_made op 0 [ra, rb] [pa, pb] (.slice (some ⟨w1.heap.size, 0, none⟩) 2 2) (w1.alloc (.cells #[ptr pa, ptr pb] 83)) (Old (w1.alloc (.cells #[ptr pa, ptr pb] 83))) (fun k hk => hk)
      ⟨by simp, Or.inr ⟨w1.heap.size, 0, 2, rfl, by simp, fun i c hc => by
        match i, hc with
        | 0, hc =>
          simp at hc
          subst hc
          exact (twoV_cells w1 (ptr pa) (ptr pb)).1
        | 1, hc =>
          simp at hc
          subst hc
          exact (twoV_cells w1 (ptr pa) (ptr pb)).2⟩⟩
      ⟨rfl, fun i c d hc hd => by
        match i, hc, hd with
        | 0, hc, hd =>
          simp at hc hd
          subst hc hd
          exact htra.below hbx
        | 1, hc, hd =>
          simp at hc hd
          subst hc hd
          exact htr.below hbx⟩ (own_many hne) HG.out.1 (fun q hq => by
        simp at hq
        rcases hq with rfl | rfl
        · rw [hrka]
          exact HG.out.2.1
        · rw [hrk]
          exact HG.out.2.2) (by
        have h1 := ra.flat_len
        rw [hfla] at h1
        have h2 := rb.flat_len
        rw [hfl] at h2
        simp [sizes]
        omega)
    have HOK : Hid ((Tr.over (op, 0) [ra, rb]).Ok wide vars ∧ (Tr.over (op, 0) [ra, rb]).flat = a ++ b ++ [(op, 0)]) :=
      ⟨Tr.over_ok (own_many hne) (okN_zero hne) HG.out.1 (fun q hq => by
        simp at hq
        rcases hq with rfl | rfl
        · exact ⟨by rw [hrka]; exact HG.out.2.1, hoka⟩
        · exact ⟨by rw [hrk]; exact HG.out.2.2, hok⟩), by show ra.flat ++ rb.flat ++ [(op, 0)] = _; rw [hfl, hfla]⟩
    have HW : Hid (wideB wide = true ∧ 1 ≤ vars ∧ vars ≤ 4) := ⟨hwb, hv1, hv4⟩
    have HB1 : Hid (Below w.heap.size w (w1.alloc (.cells #[ptr pa, ptr pb] 83))) := (HB0.out.trans (hb1.mono HB0.out.size)).alloc (Nat.le_trans HB0.out.size hb1.size) _
    clear hk hr htr hok hfl hrk h48 hwb hv1 hv4 hbx hne hb1 htra hoka hfla hrka h48a
    go_wp2_with fail
    refine g2.mono ?_
    rintro e w3 ⟨pp, rfl, htr3, hb3⟩
    clear g2
    have ht3 : TrAt w3 (Old w3) (Tr.over (op, 0) [ra, rb]) pp := TrAt.frame (fun k hk => by
      rcases hk with hk | hk
      · exact Nat.lt_of_lt_of_le hk hb3.size
      · exact hk.2) (fun _ _ => rfl) htr3
    have g4 := made_nodes _ pp w3 ht3 wide vars HOK.out.1 HW.out.1 HW.out.2.1 HW.out.2.2
    rw [HOK.out.2, HZ.out, HM.out] at g4
    have HB3 : Hid (Below w.heap.size w w3) := HB1.out.trans (hb3.mono HB1.out.size)
    clear htr3 hb3 ht3
    go_wp2_with fail
    refine g4.mono ?_
    rintro e w4 ⟨v4, rfl, ho4, hb4⟩
    have HO4 : Hid (OwnNodes w4 w.heap.size v4 M) := ho4.low HB3.out.size
    have HB4 : Hid (Below w.heap.size w w4) := HB3.out.trans (hb4.mono HB3.out.size)
    clear g4 ho4 hb4
    go_wp2_with fail
    go_ret2
    exact ⟨_, rfl, HO4.out, HB4.out⟩
  · have HE : Hid (saidJoin wide vars op a b = false ∧ joinL wide vars op a b = []) := by
      unfold saidJoin joinL
      rw [if_neg hg]
      exact ⟨decide_eq_false (fun h => hg ⟨h.1, h.2.1, h.2.2.1⟩), rfl⟩
    rw [HE.out.1, HE.out.2]
    have HG : Hid _ := hg
    clear hT h h' hg HE
    go_enter Tryd.func34, Tryd.ntmps34
    go_wp2_with fail
    refine g1.mono ?_
    rintro e w0 ⟨q0, rfl, hq0, hb0⟩
    clear g1
    have g1 := G1b.out w0 hb0
    have HB0 : Hid _ := hb0
    have HQ0 : Hid (RootQ wide vars a q0 w0) := hq0
    clear G1b hb0 hq0
    go_wp2_with fail
    refine g1.mono ?_
    rintro e w1 ⟨q, rfl, hq, hb1⟩
    clear g1
    have hqa := RootQ.below HQ0.out hb1
    have hbx : Below w1.heap.size w1 (w1.alloc (.cells #[pv q0, pv q] 83)) := (Below.refl _ _).alloc (Nat.le_refl _) _
    have hqx := hq.below hbx
    have hqax := hqa.below hbx
    have g2 := nodeOver_not op 0 [q0, q] w1.heap.size 2 (w1.alloc (.cells #[pv q0, pv q] 83)) (by simp) (by simp)
      (fun i c hc => by
        match i, hc with
        | 0, hc =>
          simp at hc
          subst hc
          exact (twoV_cells w1 (pv q0) (pv q)).1
        | 1, hc =>
          simp at hc
          subst hc
          exact (twoV_cells w1 (pv q0) (pv q)).2)
      (fun b c hbc => by
        rcases List.mem_cons.1 hbc with h | h
        · exact hqax.tree b c h.symm
        · exact hqx.tree b c (List.mem_singleton.1 h).symm)
      (by
        rintro ⟨h1, h2, h3⟩
        obtain ⟨b0, c0, rfl, hk0⟩ := h3 q0 (by simp)
        obtain ⟨b1, c1, rfl, hk1⟩ := h3 q (by simp)
        obtain ⟨_, _, _, _, _, hrk0, _⟩ := hqa
        obtain ⟨_, _, _, _, _, hrk1, _⟩ := hq
        exact HG.out ⟨h2, by rw [← hrk0]; exact hk0, by rw [← hrk1]; exact hk1⟩)
    have HB1 : Hid (Below w.heap.size w (w1.alloc (.cells #[pv q0, pv q] 83))) := (HB0.out.trans (hb1.mono HB0.out.size)).alloc (Nat.le_trans HB0.out.size hb1.size) _
    clear hq hqx hbx hb1 hqa hqax
    go_wp2_with fail
    refine g2.mono ?_
    rintro e w3 ⟨rfl, hb3⟩
    clear g2
    have g4 := nodesOf_nil w3
    have HB3 : Hid (Below w.heap.size w w3) := HB1.out.trans (hb3.mono HB1.out.size)
    clear hb3
    go_wp2_with fail
    refine g4.mono ?_
    rintro e w4 ⟨rfl, rfl⟩
    clear g4
    go_wp2_with fail
    go_ret2
    exact ⟨_, rfl, World.ownsRow_nil _ _ _ _, HB3.out⟩
end Go.Proofs.YtkmgcgmeibhnmaaDoor

namespace Go.Proofs.YtkmgcgmeibhnmaaDoor
open Go Go.RowKit
open M
set_option linter.unusedVariables false

/-- a state of good words that is made since B -/
def GoodD (k : Nat) (B : Nat) (w : World) (v : Value) (st : List Int) : Prop := w.ownsRow B 33 1 v st.length (cellsU st) ∧ ∀ s ∈ st, (0 ≤ s ∧ s ≤ 18446744073709551615) ∧ goodB k s = true
theorem GoodD.more {k B : Nat} {w w7 : World} {v v7 : Value} {st : List Int} {x : Int} (h : GoodD k B w v st) (hk1 : 1 ≤ k) (hk : k ≤ 64) (own7 : w7.ownsRow B 33 1 v7 (st.length + 1) (cellsU st ++ [.int .u64 (cut k x)])) : GoodD k B w7 v7 (st ++ [cut k x]) := by
  refine ⟨?_, ?_⟩
  · rw [List.length_append]
    unfold cellsU at own7 ⊢
    rw [List.map_append]
    exact own7
  · intro s hs
    rcases List.mem_append.1 hs with hs | hs
    · exact h.2 s hs
    · simp at hs
      subst hs
      have h1 := cut_lo k x
      have h2 := cut_hi k x
      have h3 := pw_le k hk
      exact ⟨⟨h1, by omega⟩, good_of k hk1 hk _ h2⟩
theorem GoodD.st {k B : Nat} {w : World} {v : Value} {st : List Int} (h : GoodD k B w v st) : StAt w v st := st_of_own h.1
theorem less_any (k : Nat) (hk1 : 1 ≤ k) (hk : k ≤ 64) (a b : Int) (ha0 : 0 ≤ a) (ha : a < pw k) (hb0 : 0 ≤ b) (hb : b < pw k) (w : World) (hT : Tab w) :
    Calls Tryd.prog 37 #[.int .i64 (k : Int), .int .u64 a, .int .u64 b] w fun e w' => e = .returned (.tuple #[.bool (decide (sgn k a < sgn k b)), .bool true]) ∧ w' = w := by
  obtain ⟨j, rfl⟩ : ∃ j, k = j + 1 := ⟨k - 1, by omega⟩
  have hg : (goodB ((j : Int) + 1) a && goodB ((j : Int) + 1) b) = true := by
    have h1 := good_of (j + 1) hk1 hk a ha
    have h2 := good_of (j + 1) hk1 hk b hb
    rw [show ((j + 1 : Nat) : Int) = (j : Int) + 1 from by omega] at h1 h2
    rw [h1, h2]
    rfl
  have g := iLessSigned_yes j hk a b ha0 ha hb0 hb w hT hg
  rw [show (j : Int) + 1 = ((j + 1 : Nat) : Int) from by omega] at g
  exact g
set_option maxRecDepth 100000 in
theorem joined_big (a0 a1 : Option Addr) (l0 c0 l1 c1 : Nat) (h0 : l0 ≤ 9223372036854775807) (h1 : l1 ≤ 9223372036854775807) (h : 1048576 < l0 + l1) (w : World) :
    Calls Tryd.prog 5 #[.slice a0 l0 c0, .slice a1 l1 c1] w fun e w' => e = .returned (.bool true) ∧ Below w.heap.size w w' := by
  have g0 := big_yes a0 a1 l0 c0 l1 c1 h0 h1 h w
  go_enter Tryd.func5, Tryd.ntmps5
  go_wp2_with fail
  refine g0.mono ?_
  rintro e w' ⟨rfl, rfl⟩
  clear g0
  go_wp2_with fail
  go_ret
  exact ⟨rfl, Below.refl _ _⟩
set_option maxRecDepth 100000 in
set_option maxHeartbeats 64000000 in
theorem joined_walk (a0 a1 : Option Addr) (l0 c0 l1 c1 : Nat) (h0 : l0 ≤ 9223372036854775807) (h1 : l1 ≤ 9223372036854775807) (w : World) (hT : Tab w) (hz : 0 < w.heap.size)
    (hc0 : CodeOk w.heap.size w (.slice a0 l0 c0)) (hc1 : CodeOk w.heap.size w (.slice a1 l1 c1)) :
    Calls Tryd.prog 5 #[.slice a0 l0 c0, .slice a1 l1 c1] w fun e w' => e = .returned (.bool true) ∧ Below w.heap.size w w' := by
  by_cases h : 1048576 < l0 + l1
  · exact joined_big a0 a1 l0 c0 l1 c1 h0 h1 h w
  have g0 := big_no a0 a1 l0 c0 l1 c1 h0 h1 (by omega) w
  have g1 := drawJoin_any (.slice a0 l0 c0) w hc0
  have HT : Hid (∀ w', Below w.heap.size w w' → Tab w') := fun w' hb => hT.below hb hT.some
  have HC1 : Hid (∀ w', Below w.heap.size w w' → CodeOk w'.heap.size w' (.slice a1 l1 c1)) := fun w' hb => (hc1.below hb).up hb.size
  have GNM : Hid (∀ w', Below w.heap.size w w' → Calls Tryd.prog 22 #[.slice a1 l1 c1] w' fun e w'' => ∃ x : Int, (0 ≤ x ∧ x < 1000003) ∧ e = .returned (.int .i64 x) ∧ w'' = w') := fun w' hb => lawNumber_any _ _ w' (hc1.below hb)
  have GNC : Hid (∀ w', Below w.heap.size w w' → Calls Tryd.prog 22 #[.slice a0 l0 c0] w' fun e w'' => ∃ x : Int, (0 ≤ x ∧ x < 1000003) ∧ e = .returned (.int .i64 x) ∧ w'' = w') := fun w' hb => lawNumber_any _ _ w' (hc0.below hb)
  obtain ⟨i0, hi, hz0, hz1, hz2⟩ := info_parts infoU64
  clear hT hz hc0 hc1 h
  go_enter Tryd.func5, Tryd.ntmps5
  go_wp2_with fail
  refine g0.mono ?_
  rintro e w' ⟨rfl, rfl⟩
  clear g0
  obtain ⟨w, rfl⟩ : ∃ w, w = w' := ⟨_, rfl⟩
  go_wp2_with fail
  refine g1.mono ?_
  rintro e w1 ⟨k, vars, op, av, a, bv, b, rfl, ⟨k1, k8⟩, ⟨hv1, hv3⟩, ⟨hop0, hop1⟩, hna, hnb, hb1⟩
  clear g1
  have k64 : k ≤ 64 := by omega
  obtain ⟨n, rfl⟩ := Int.eq_ofNat_of_zero_le (show 0 ≤ vars by omega)
  have hn3 : n ≤ 3 := by omega
  have HW : Hid (∀ w', Below w1.heap.size w1 w' → Below w.heap.size w w') := fun w' hb => hb1.trans (hb.mono hb1.size)
  have H1 : Hid (Below w1.heap.size w1 w1) := Below.refl _ _
  have HNA : Hid (∀ w', Below w1.heap.size w1 w' → NodesAt w' av a) := fun w' hb => (hna.below hb).at
  have HNB : Hid (∀ w', Below w1.heap.size w1 w' → NodesAt w' bv b) := fun w' hb => (hnb.below hb).at
  have HKA : Hid ((∀ x ∈ a, NdOk x) ∧ a.length ≤ 31) := hna.2
  have HKB : Hid ((∀ x ∈ b, NdOk x) ∧ b.length ≤ 31) := hnb.2
  have HJN : Hid (∀ (w' : World) (B : Nat) (v' : Value), OwnNodes w' B v' (joinL k n op a b) → NodesAt w' v' (joinL k n op a b)) := joinTerms_reads0 k n op a b (by omega) (by omega) (by omega) (by omega) (by omega) (by omega) HKA.out.1 (by have := HKA.out.2; omega) HKB.out.1 (by have := HKB.out.2; omega)
  have HJL : Hid ((joinL k n op a b).length ≤ 63) := Nat.le_trans (joinTerms_len0 k n op a b) (by have := HKA.out.2; have := HKB.out.2; omega)
  have GIJ : Hid (∀ w', Below w1.heap.size w1 w' → Calls Tryd.prog 34 #[.int .i64 (k : Int), .int .i64 (n : Int), .int .i64 op, av, bv] w' fun e w'' => ∃ r : Value, e = .returned (.tuple #[r, .bool (saidJoin k n op a b)]) ∧ OwnNodes w'' w'.heap.size r (joinL k n op a b) ∧ Below w'.heap.size w' w'') := fun w' hb => impl_JoinTerms k n op av a bv b w' (HT.out w' (HW.out w' hb)) (HNA.out w' hb) (by have := HKA.out.2; omega) (HNB.out w' hb) (by have := HKB.out.2; omega) (by omega) (by omega) (by omega) (by omega) (by omega) (by omega)
  have GSJ : Hid (∀ w', Below w1.heap.size w1 w' → Calls Tryd.prog 35 #[.int .i64 (k : Int), .int .i64 (n : Int), .int .i64 op, av, bv] w' fun e w'' => ∃ r : Value, e = .returned (.tuple #[r, .bool (saidJoin k n op a b)]) ∧ OwnNodes w'' w'.heap.size r (joinL k n op a b) ∧ Below w'.heap.size w' w'') := fun w' hb => joinTerms_any k n op (by omega) (by omega) av bv a b (by have := HKA.out.2; omega) (by have := HKB.out.2; omega) w' (HNA.out w' hb) (HNB.out w' hb)
  have HJV : Hid (saidJoin k n op a b = true → ∀ (st : List Int) (sv : Value) (B : Nat) (w0 : World), st.length = n → GoodD k B w0 sv st →
      (∀ (rv : Value) (w' : World), Below w1.heap.size w1 w' → NodesAt w' rv (joinL k n op a b) → StAt w' sv st → Calls Tryd.prog 23 #[.int .i64 (k : Int), rv, sv] w' fun e w'' => e = .returned (.tuple #[.int .u64 (doOp k op (valueL k a st) (valueL k b st)), .bool true]) ∧ Below w'.heap.size w' w'') ∧
      (∀ (w' : World), Below w1.heap.size w1 w' → NodesAt w' av a → StAt w' sv st → Calls Tryd.prog 23 #[.int .i64 (k : Int), av, sv] w' fun e w'' => e = .returned (.tuple #[.int .u64 (valueL k a st), .bool true]) ∧ Below w'.heap.size w' w'') ∧
      (∀ (w' : World), Below w1.heap.size w1 w' → NodesAt w' bv b → StAt w' sv st → Calls Tryd.prog 23 #[.int .i64 (k : Int), bv, sv] w' fun e w'' => e = .returned (.tuple #[.int .u64 (valueL k b st), .bool true]) ∧ Below w'.heap.size w' w'') ∧
      (0 ≤ valueL k a st ∧ valueL k a st < pw k) ∧ (0 ≤ valueL k b st ∧ valueL k b st < pw k)) := by
    rintro s1 st sv B w0 hsl hgd
    subst hsl
    obtain ⟨_, _, p1, p2, p3, p4, p5, p6, _⟩ := joined_said HKA.out.1 HKB.out.1 s1 (fun s hs => (hgd.2 s hs).1.1) (fun s hs => (hgd.2 s hs).2)
    have hso : StOk st := ⟨by omega, fun s hs => (hgd.2 s hs).1⟩
    refine ⟨fun rv w' hb hn hs => ?_, fun w' hb hn hs => ?_, fun w' hb hn hs => ?_, p5, p6⟩
    · have h := impl_ValueOf k rv sv _ st w' (HT.out w' (HW.out w' hb)) hn (by have := HJL.out; omega) hs hso
      rw [p1, p4] at h
      exact h
    · have h := impl_ValueOf k av sv a st w' (HT.out w' (HW.out w' hb)) hn (by have := HKA.out.2; omega) hs hso
      rw [p2] at h
      exact h
    · have h := impl_ValueOf k bv sv b st w' (HT.out w' (HW.out w' hb)) hn (by have := HKB.out.2; omega) hs hso
      rw [p3] at h
      exact h
  clear hna hnb hb1 HKA HKB HJL
  generalize joinL k n op a b = JL at *
  generalize saidJoin k n op a b = SJ at *
  cases SJ with
  | false =>
    have g1_ := GIJ.out w1 H1.out
    go_wp2_with fail
    refine g1_.mono ?_
    rintro e w2 ⟨r2, rfl, ho2, hb2⟩
    clear g1_
    have HR2 : Hid (∀ w', Below w2.heap.size w2 w' → NodesAt w' r2 JL) := fun w' hb => (HJN.out _ _ _ ho2).below hb
    have H2 : Hid (Below w1.heap.size w1 w2) := H1.out.trans (hb2.mono H1.out.size)
    clear ho2 hb2
    have g2_ := GSJ.out w2 H2.out
    go_wp2_with fail
    refine g2_.mono ?_
    rintro e w3 ⟨r3, rfl, ho3, hb3⟩
    clear g2_
    have g4 := sameNodes_any r2 r3 JL w3 (HR2.out w3 hb3) (HJN.out _ _ _ ho3)
    have R3 : Hid (Below w2.heap.size w2 w3) := hb3
    have H3 : Hid (Below w1.heap.size w1 w3) := H2.out.trans (hb3.mono H2.out.size)
    clear ho3 hb3 GIJ GSJ HJN
    go_wp2_with fail
    refine g4.mono ?_
    rintro e w4 ⟨rfl, hb4⟩
    clear g4
    have R4 : Hid (Below w2.heap.size w2 w4) := R3.out.trans (hb4.mono R3.out.size)
    have H4 : Hid (Below w1.heap.size w1 w4) := H3.out.trans (hb4.mono H3.out.size)
    clear hb4
    go_wp2_with fail
    go_loop [14, 15] (fun v i => v = .slice none 0 0 ∧ i = .int .i64 0) (fun _ _ => 0)
    case atStart => exact ⟨rfl, rfl⟩
    case round =>
      obtain ⟨rfl, rfl⟩ := hrel
      clear HR2 HNA HNB HJV
      have g6_ := drawTurn_any (.slice a1 l1 c1) w4 (HC1.out w4 (HW.out w4 H4.out))
      go_wp2_with fail
      refine g6_.mono ?_
      rintro e w20 ⟨q, vars2, how, tv, t, rfl, ⟨q1, q64⟩, ⟨hv20, hv25⟩, ⟨hh3, hh19⟩, hd2, hb20⟩
      clear g6_
      have H20 : Hid (Below w1.heap.size w1 w20) := H4.out.trans (hb20.mono H4.out.size)
      have HN2 : Hid (∀ w', Below w20.heap.size w20 w' → NodesAt w' tv t) := fun w' hb => (hd2.below hb).at
      have HK2 : Hid ((∀ x ∈ t, NdOk x) ∧ t.length ≤ 31) := hd2.2
      have HRK : Hid ((∀ x ∈ turnL q vars2 how t, NdOk x) ∧ (turnL q vars2 how t).length ≤ 32) := ⟨turnL_ok HK2.out.1 (by omega) (by omega), Nat.le_trans (turnL_len q vars2 how t) (by have := HK2.out.2; omega)⟩
      have HRK2 : Hid ((∀ x ∈ turnL q vars2 how (turnL q vars2 how t), NdOk x) ∧ (turnL q vars2 how (turnL q vars2 how t)).length ≤ 33) := ⟨turnL_ok HRK.out.1 (by omega) (by omega), Nat.le_trans (turnL_len q vars2 how _) (by have := HRK.out.2; omega)⟩
      have HRN : Hid (∀ (w' : World) (B : Nat) (v' : Value), OwnNodes w' B v' (turnL q vars2 how t) → NodesAt w' v' (turnL q vars2 how t)) := fun w' B v' ho => nodes_of_own HRK.out.1 (by have := HRK.out.2; omega) ho
      have HRN2 : Hid (∀ (w' : World) (B : Nat) (v' : Value), OwnNodes w' B v' (turnL q vars2 how (turnL q vars2 how t)) → NodesAt w' v' (turnL q vars2 how (turnL q vars2 how t))) := fun w' B v' ho => nodes_of_own HRK2.out.1 (by have := HRK2.out.2; omega) ho
      clear hd2 hb20
      have g21 := impl_TurnTerm q vars2 how tv t w20 (HT.out w20 (HW.out w20 H20.out)) (HN2.out w20 (Below.refl _ _)) (by have := HK2.out.2; omega) (by omega) (by omega)
      have HS21 : Hid (∀ w', Below w20.heap.size w20 w' → Calls Tryd.prog 40 #[.int .i64 (q : Int), .int .i64 vars2, .int .i64 how, tv] w' fun e w'' => ∃ v', e = .returned (.tuple #[v', .bool (saidTurn q vars2 how t)]) ∧ OwnNodes w'' w'.heap.size v' (turnL q vars2 how t) ∧ Below w'.heap.size w' w'') := fun w' hb => turnTerm_any q vars2 how (by omega) (by omega) tv t (by have := HK2.out.2; omega) w' (HN2.out w' hb)
      have HI21 : Hid (∀ (rv : Value) (w' : World), Below w1.heap.size w1 w' → NodesAt w' rv (turnL q vars2 how t) → Calls Tryd.prog 39 #[.int .i64 (q : Int), .int .i64 vars2, .int .i64 how, rv] w' fun e w'' => ∃ v', e = .returned (.tuple #[v', .bool (saidTurn q vars2 how (turnL q vars2 how t))]) ∧ OwnNodes w'' w'.heap.size v' (turnL q vars2 how (turnL q vars2 how t)) ∧ Below w'.heap.size w' w'') := fun rv w' hb hn => impl_TurnTerm q vars2 how rv _ w' (HT.out w' (HW.out w' hb)) hn (by have := HRK.out.2; omega) (by omega) (by omega)
      have HONE : Hid (saidTurn q vars2 how t = false → saidTurn q vars2 how (turnL q vars2 how t) = false) := by
        intro hf
        have e1 : turnL q vars2 how t = [] := by
          unfold turnL madeL
          split
          · rename_i h1
            split
            · rename_i h2
              have : saidTurn q vars2 how t = true := decide_eq_true ⟨h1.1, h1.2, h2⟩
              rw [hf] at this
              cases this
            · rfl
          · rfl
        rw [e1]
        apply decide_eq_false
        rintro ⟨m1, m2, _⟩
        have := part_many (op := how) (by omega)
        rw [← m2] at this
        have e2 : kindL q vars2 [] = 0 := kind_out (by simp)
        omega
      have HVAL : Hid (∀ n2 : Nat, vars2 = (n2 : Int) → saidTurn q vars2 how t = true → saidTurn q vars2 how (turnL q vars2 how t) = true → ∀ (st : List Int) (sv : Value) (B : Nat) (w0 : World), st.length = n2 → GoodD q B w0 sv st →
          (∀ (rv : Value) (w' : World), Below w1.heap.size w1 w' → NodesAt w' rv (turnL q vars2 how (turnL q vars2 how t)) → StAt w' sv st → Calls Tryd.prog 23 #[.int .i64 (q : Int), rv, sv] w' fun e w'' => e = .returned (.tuple #[.int .u64 (valueL q t st), .bool true]) ∧ Below w'.heap.size w' w'') ∧
          (∀ (w' : World), Below w1.heap.size w1 w' → NodesAt w' tv t → StAt w' sv st → Calls Tryd.prog 23 #[.int .i64 (q : Int), tv, sv] w' fun e w'' => e = .returned (.tuple #[.int .u64 (valueL q t st), .bool true]) ∧ Below w'.heap.size w' w'')) := by
        rintro n2 rfl s1 s2 st sv B w0 rfl hgd
        obtain ⟨p1, p2, p3⟩ := turned_said HK2.out.1 s1 s2 (fun s hs => (hgd.2 s hs).1.1) (fun s hs => (hgd.2 s hs).2)
        have hso : StOk st := ⟨by omega, fun s hs => (hgd.2 s hs).1⟩
        refine ⟨fun rv w' hb hn hs => ?_, fun w' hb hn hs => ?_⟩
        · have h := impl_ValueOf q rv sv _ st w' (HT.out w' (HW.out w' hb)) hn (by have := HRK2.out.2; omega) hs hso
          rw [p1, p3] at h
          exact h
        · have h := impl_ValueOf q tv sv t st w' (HT.out w' (HW.out w' hb)) hn (by have := HK2.out.2; omega) hs hso
          rw [p2] at h
          exact h
      have HGOOD : Hid (saidTurn q vars2 how t = true → 1 ≤ vars2 ∧ vars2 ≤ 4) := fun hs => ⟨(turned_good hs).1, (turned_good hs).2.1⟩
      clear HRK HRK2
      generalize turnL q vars2 how (turnL q vars2 how t) = RR at *
      generalize saidTurn q vars2 how (turnL q vars2 how t) = ST2 at *
      generalize turnL q vars2 how t = R at *
      generalize saidTurn q vars2 how t = ST1 at *
      go_wp2_with fail
      refine g21.mono ?_
      rintro e w21 ⟨r21, rfl, ho21, hb21⟩
      clear g21
      have HR21 : Hid (∀ w', Below w21.heap.size w21 w' → NodesAt w' r21 R) := fun w' hb => (HRN.out _ _ _ ho21).below hb
      have H21 : Hid (Below w1.heap.size w1 w21) := H20.out.trans (hb21.mono H20.out.size)
      have N21 : Hid (Below w20.heap.size w20 w21) := hb21
      clear ho21 hb21
      have g22 := HS21.out w21 N21.out
      go_wp2_with fail
      refine g22.mono ?_
      rintro e w22 ⟨r22, rfl, ho22, hb22⟩
      clear g22
      have g23 := sameNodes_any r21 r22 R w22 (HR21.out w22 hb22) (HRN.out _ _ _ ho22)
      have H22 : Hid (Below w1.heap.size w1 w22) := H21.out.trans (hb22.mono H21.out.size)
      have N22 : Hid (Below w20.heap.size w20 w22) := N21.out.trans (hb22.mono N21.out.size)
      have R22 : Hid (Below w21.heap.size w21 w22) := hb22
      clear ho22 hb22 HRN
      go_wp2_with fail
      refine g23.mono ?_
      rintro e w23 ⟨rfl, hb23⟩
      clear g23
      have H23 : Hid (Below w1.heap.size w1 w23) := H22.out.trans (hb23.mono H22.out.size)
      have N23 : Hid (Below w20.heap.size w20 w23) := N22.out.trans (hb23.mono N22.out.size)
      have R23 : Hid (Below w21.heap.size w21 w23) := R22.out.trans (hb23.mono R22.out.size)
      clear hb23
      have g24 := HI21.out r21 w23 H23.out (HR21.out w23 R23.out)
      clear HI21 HR21 HS21
      go_wp2_with fail
      refine g24.mono ?_
      rintro e w24 ⟨r24, rfl, ho24, hb24⟩
      clear g24
      have H24 : Hid (Below w1.heap.size w1 w24) := H23.out.trans (hb24.mono H23.out.size)
      have N24 : Hid (Below w20.heap.size w20 w24) := N23.out.trans (hb24.mono N23.out.size)
      have HR24 : Hid (∀ w', Below w24.heap.size w24 w' → NodesAt w' r24 RR) := fun w' hb => (HRN2.out _ _ _ ho24).below hb
      clear ho24 hb24 HRN2
      cases ST2 with
      | false =>
        go_wp2_with fail
        go_loop [38, 39] (fun v i => v = .slice none 0 0 ∧ i = .int .i64 0) (fun _ _ => 0)
        case atStart => exact ⟨rfl, rfl⟩
        case round =>
          obtain ⟨rfl, rfl⟩ := hrel
          cases ST1 with
          | false =>
            go_wp2_with fail
            go_ret
            exact ⟨rfl, HW.out _ H24.out⟩
          | true =>
            go_wp2_with fail
            go_ret
            exact ⟨rfl, HW.out _ H24.out⟩
      | true =>
        cases ST1 with
        | false => exact absurd (HONE.out rfl) (by decide)
        | true =>
          obtain ⟨hg1, hg4⟩ := HGOOD.out rfl
          obtain ⟨n2, rfl⟩ := Int.eq_ofNat_of_zero_le hv20
          have hn24 : n2 ≤ 4 := by omega
          go_wp2_with fail
          go_loopw [38, 39] (fun v i wr => ∃ (j : Nat) (st : List Int), j ≤ n2 ∧ i = .int .i64 j ∧ st.length = j ∧ Hid (GoodD q w24.heap.size wr v st) ∧ Hid (Below w24.heap.size w24 wr)) (fun _ i _ => n2 - (intOf i).toNat)
          case atStart => exact ⟨0, [], by omega, rfl, rfl, ⟨World.ownsRow_nil _ _ _ _, fun s hs => by cases hs⟩, Below.refl _ _⟩
          case round =>
            obtain ⟨j, st, hj, rfl, hsl, HG, HBR⟩ := hrel
            have HWR : Hid (Below w1.heap.size w1 wr) := H24.out.trans (HBR.out.mono H24.out.size)
            by_cases hlt' : j < n2
            · have HSL : Hid (st.length = j) := hsl
              have hst5 : st.length ≤ 5 := by omega
              clear hsl
              rcases (show j = 0 ∨ j = 1 ∨ j = 2 ∨ j = 3 by omega) with rfl | rfl | rfl | rfl
              · have hdj : (0 : Int) < (n2 : Int) := by omega
                have gN := GNC.out wr (HW.out wr HWR.out)
                go_wp2_with fail
                refine gN.mono ?_
                rintro e wq ⟨x, ⟨hx0, hx1⟩, rfl, rfl⟩
                clear gN
                have gC := iCutTo_yes q q1 q64 (x) (by omega) (by omega) wq (HT.out wq (HW.out wq HWR.out))
                have own1 := HG.out.1.alloc (.cells #[.int .u64 (cut q (x))] 33)
                have cellsN := oneU_cells wq (cut q (x))
                have HNX : Hid (∀ v7 w7, w7.ownsRow w24.heap.size 33 1 v7 (st.length + 1) (cellsU st ++ [.int .u64 (cut q (x))]) → GoodD q w24.heap.size w7 v7 (st ++ [cut q (x)])) := fun v7 w7 ho => HG.out.more q1 q64 ho
                generalize cut q (x) = cx at *
                generalize cellsU st = xs0 at own1 HNX
                go_wp2_with fail
                refine gC.mono ?_
                rintro e wq2 ⟨rfl, rfl⟩
                clear gC
                go_wp2_with (at_builtin; refine wpList_append_own _ rfl _ _ 32 rfl w24.heap.size 33 i0 (.int .u64 0) 1 8 Tryd.underlying32 hi hz0 hz1 hz2 rfl (by decide) _ _ _ rfl own1 ⟨wq2.heap.size, 0, none⟩ 1 1 [.int .u64 cx] rfl rfl cellsN (by intro u hu; simp at hu; subst hu; rfl) (by unfold maxLen; omega) (by omega) (by have := HBR.out.size; simp; omega) ?_)
                intro v7 w7 own7 grow7 _
                have HG7 : Hid _ := HNX.out v7 w7 own7
                have HB7 : Hid (Below w24.heap.size w24 w7) := (HBR.out.alloc HBR.out.size _).grown grow7 (by have := HBR.out.size; simp; omega) (fun k hk => (World.ownsRow.lt HG.out.1 k hk).1)
                clear own1 own7 grow7 cellsN HNX
                go_wp2_with fail
                go_roundw
                case rel => exact ⟨0 + 1, st ++ [cx], by omega, by go_num, by have := HSL.out; simp only [List.length_append, List.length_singleton]; omega, HG7, HB7⟩
                case measure => simp [intOf]; omega
              · have hdj : (1 : Int) < (n2 : Int) := by omega
                have gN := GNC.out wr (HW.out wr HWR.out)
                go_wp2_with fail
                refine gN.mono ?_
                rintro e wq ⟨x, ⟨hx0, hx1⟩, rfl, rfl⟩
                clear gN
                have gC := iCutTo_yes q q1 q64 (x / 8) (by omega) (by omega) wq (HT.out wq (HW.out wq HWR.out))
                have own1 := HG.out.1.alloc (.cells #[.int .u64 (cut q (x / 8))] 33)
                have cellsN := oneU_cells wq (cut q (x / 8))
                have HNX : Hid (∀ v7 w7, w7.ownsRow w24.heap.size 33 1 v7 (st.length + 1) (cellsU st ++ [.int .u64 (cut q (x / 8))]) → GoodD q w24.heap.size w7 v7 (st ++ [cut q (x / 8)])) := fun v7 w7 ho => HG.out.more q1 q64 ho
                generalize cut q (x / 8) = cx at *
                generalize cellsU st = xs0 at own1 HNX
                go_wp2_with fail
                refine gC.mono ?_
                rintro e wq2 ⟨rfl, rfl⟩
                clear gC
                go_wp2_with (at_builtin; refine wpList_append_own _ rfl _ _ 32 rfl w24.heap.size 33 i0 (.int .u64 0) 1 8 Tryd.underlying32 hi hz0 hz1 hz2 rfl (by decide) _ _ _ rfl own1 ⟨wq2.heap.size, 0, none⟩ 1 1 [.int .u64 cx] rfl rfl cellsN (by intro u hu; simp at hu; subst hu; rfl) (by unfold maxLen; omega) (by omega) (by have := HBR.out.size; simp; omega) ?_)
                intro v7 w7 own7 grow7 _
                have HG7 : Hid _ := HNX.out v7 w7 own7
                have HB7 : Hid (Below w24.heap.size w24 w7) := (HBR.out.alloc HBR.out.size _).grown grow7 (by have := HBR.out.size; simp; omega) (fun k hk => (World.ownsRow.lt HG.out.1 k hk).1)
                clear own1 own7 grow7 cellsN HNX
                go_wp2_with fail
                go_roundw
                case rel => exact ⟨1 + 1, st ++ [cx], by omega, by go_num, by have := HSL.out; simp only [List.length_append, List.length_singleton]; omega, HG7, HB7⟩
                case measure => simp [intOf]; omega
              · have hdj : (2 : Int) < (n2 : Int) := by omega
                have gN := GNC.out wr (HW.out wr HWR.out)
                go_wp2_with fail
                refine gN.mono ?_
                rintro e wq ⟨x, ⟨hx0, hx1⟩, rfl, rfl⟩
                clear gN
                have gC := iCutTo_yes q q1 q64 (x / 64) (by omega) (by omega) wq (HT.out wq (HW.out wq HWR.out))
                have own1 := HG.out.1.alloc (.cells #[.int .u64 (cut q (x / 64))] 33)
                have cellsN := oneU_cells wq (cut q (x / 64))
                have HNX : Hid (∀ v7 w7, w7.ownsRow w24.heap.size 33 1 v7 (st.length + 1) (cellsU st ++ [.int .u64 (cut q (x / 64))]) → GoodD q w24.heap.size w7 v7 (st ++ [cut q (x / 64)])) := fun v7 w7 ho => HG.out.more q1 q64 ho
                generalize cut q (x / 64) = cx at *
                generalize cellsU st = xs0 at own1 HNX
                go_wp2_with fail
                refine gC.mono ?_
                rintro e wq2 ⟨rfl, rfl⟩
                clear gC
                go_wp2_with (at_builtin; refine wpList_append_own _ rfl _ _ 32 rfl w24.heap.size 33 i0 (.int .u64 0) 1 8 Tryd.underlying32 hi hz0 hz1 hz2 rfl (by decide) _ _ _ rfl own1 ⟨wq2.heap.size, 0, none⟩ 1 1 [.int .u64 cx] rfl rfl cellsN (by intro u hu; simp at hu; subst hu; rfl) (by unfold maxLen; omega) (by omega) (by have := HBR.out.size; simp; omega) ?_)
                intro v7 w7 own7 grow7 _
                have HG7 : Hid _ := HNX.out v7 w7 own7
                have HB7 : Hid (Below w24.heap.size w24 w7) := (HBR.out.alloc HBR.out.size _).grown grow7 (by have := HBR.out.size; simp; omega) (fun k hk => (World.ownsRow.lt HG.out.1 k hk).1)
                clear own1 own7 grow7 cellsN HNX
                go_wp2_with fail
                go_roundw
                case rel => exact ⟨2 + 1, st ++ [cx], by omega, by go_num, by have := HSL.out; simp only [List.length_append, List.length_singleton]; omega, HG7, HB7⟩
                case measure => simp [intOf]; omega
              · have hdj : (3 : Int) < (n2 : Int) := by omega
                have gN := GNC.out wr (HW.out wr HWR.out)
                go_wp2_with fail
                refine gN.mono ?_
                rintro e wq ⟨x, ⟨hx0, hx1⟩, rfl, rfl⟩
                clear gN
                have gC := iCutTo_yes q q1 q64 (x / 512) (by omega) (by omega) wq (HT.out wq (HW.out wq HWR.out))
                have own1 := HG.out.1.alloc (.cells #[.int .u64 (cut q (x / 512))] 33)
                have cellsN := oneU_cells wq (cut q (x / 512))
                have HNX : Hid (∀ v7 w7, w7.ownsRow w24.heap.size 33 1 v7 (st.length + 1) (cellsU st ++ [.int .u64 (cut q (x / 512))]) → GoodD q w24.heap.size w7 v7 (st ++ [cut q (x / 512)])) := fun v7 w7 ho => HG.out.more q1 q64 ho
                generalize cut q (x / 512) = cx at *
                generalize cellsU st = xs0 at own1 HNX
                go_wp2_with fail
                refine gC.mono ?_
                rintro e wq2 ⟨rfl, rfl⟩
                clear gC
                go_wp2_with (at_builtin; refine wpList_append_own _ rfl _ _ 32 rfl w24.heap.size 33 i0 (.int .u64 0) 1 8 Tryd.underlying32 hi hz0 hz1 hz2 rfl (by decide) _ _ _ rfl own1 ⟨wq2.heap.size, 0, none⟩ 1 1 [.int .u64 cx] rfl rfl cellsN (by intro u hu; simp at hu; subst hu; rfl) (by unfold maxLen; omega) (by omega) (by have := HBR.out.size; simp; omega) ?_)
                intro v7 w7 own7 grow7 _
                have HG7 : Hid _ := HNX.out v7 w7 own7
                have HB7 : Hid (Below w24.heap.size w24 w7) := (HBR.out.alloc HBR.out.size _).grown grow7 (by have := HBR.out.size; simp; omega) (fun k hk => (World.ownsRow.lt HG.out.1 k hk).1)
                clear own1 own7 grow7 cellsN HNX
                go_wp2_with fail
                go_roundw
                case rel => exact ⟨3 + 1, st ++ [cx], by omega, by go_num, by have := HSL.out; simp only [List.length_append, List.length_singleton]; omega, HG7, HB7⟩
                case measure => simp [intOf]; omega
            · obtain rfl : j = n2 := by omega
              have HV : Hid _ := HVAL.out _ rfl (by first | rfl | trivial) (by first | rfl | trivial) st u38 w24.heap.size wr hsl HG.out
              have HST : Hid (∀ w', Below wr.heap.size wr w' → StAt w' u38 st) := fun w' hb => HG.out.st.below hb
              have g25 := HV.out.1 r24 wr HWR.out (HR24.out wr HBR.out) HG.out.st
              have N25 : Hid (Below w20.heap.size w20 wr) := N24.out.trans (HBR.out.mono N24.out.size)
              clear hsl HG
              generalize valueL q t st = VT at *
              go_wp2_with fail
              refine g25.mono ?_
              rintro e w25 ⟨rfl, hb25⟩
              clear g25
              have g26 := HV.out.2 w25 (HWR.out.trans (hb25.mono HWR.out.size)) (HN2.out w25 (N25.out.trans (hb25.mono N25.out.size))) (HST.out w25 hb25)
              have H25 : Hid (Below w1.heap.size w1 w25) := HWR.out.trans (hb25.mono HWR.out.size)
              clear hb25 HV
              go_wp2_with fail
              refine g26.mono ?_
              rintro e w26 ⟨rfl, hb26⟩
              clear g26
              have H26 : Hid (Below w1.heap.size w1 w26) := H25.out.trans (hb26.mono H25.out.size)
              clear hb26
              go_wp2_with fail
              go_ret
              exact ⟨ret_bool (by simp), HW.out _ H26.out⟩
  | true =>
    have g1_ := GIJ.out w1 H1.out
    go_wp2_with fail
    refine g1_.mono ?_
    rintro e w2 ⟨r2, rfl, ho2, hb2⟩
    clear g1_
    have HR2 : Hid (∀ w', Below w2.heap.size w2 w' → NodesAt w' r2 JL) := fun w' hb => (HJN.out _ _ _ ho2).below hb
    have H2 : Hid (Below w1.heap.size w1 w2) := H1.out.trans (hb2.mono H1.out.size)
    clear ho2 hb2
    have g2_ := GSJ.out w2 H2.out
    go_wp2_with fail
    refine g2_.mono ?_
    rintro e w3 ⟨r3, rfl, ho3, hb3⟩
    clear g2_
    have g4 := sameNodes_any r2 r3 JL w3 (HR2.out w3 hb3) (HJN.out _ _ _ ho3)
    have R3 : Hid (Below w2.heap.size w2 w3) := hb3
    have H3 : Hid (Below w1.heap.size w1 w3) := H2.out.trans (hb3.mono H2.out.size)
    clear ho3 hb3 GIJ GSJ HJN
    go_wp2_with fail
    refine g4.mono ?_
    rintro e w4 ⟨rfl, hb4⟩
    clear g4
    have R4 : Hid (Below w2.heap.size w2 w4) := R3.out.trans (hb4.mono R3.out.size)
    have H4 : Hid (Below w1.heap.size w1 w4) := H3.out.trans (hb4.mono H3.out.size)
    clear hb4
    go_wp2_with fail
    go_loopw [14, 15] (fun v i wr => ∃ (j : Nat) (st : List Int), j ≤ n ∧ i = .int .i64 j ∧ st.length = j ∧ Hid (GoodD k w4.heap.size wr v st) ∧ Hid (Below w4.heap.size w4 wr)) (fun _ i _ => n - (intOf i).toNat)
    case atStart => exact ⟨0, [], by omega, rfl, rfl, ⟨World.ownsRow_nil _ _ _ _, fun s hs => by cases hs⟩, Below.refl _ _⟩
    case round =>
      obtain ⟨j, st, hj, rfl, hsl, HG, HBR⟩ := hrel
      have HWR : Hid (Below w1.heap.size w1 wr) := H4.out.trans (HBR.out.mono H4.out.size)
      by_cases hlt' : j < n
      · have HSL : Hid (st.length = j) := hsl
        have hst5 : st.length ≤ 5 := by omega
        clear hsl
        rcases (show j = 0 ∨ j = 1 ∨ j = 2 ∨ j = 3 by omega) with rfl | rfl | rfl | rfl
        · have hdj : (0 : Int) < (n : Int) := by omega
          have gN := GNM.out wr (HW.out wr HWR.out)
          go_wp2_with fail
          refine gN.mono ?_
          rintro e wq ⟨x, ⟨hx0, hx1⟩, rfl, rfl⟩
          clear gN
          have gC := iCutTo_yes k k1 k64 (x) (by omega) (by omega) wq (HT.out wq (HW.out wq HWR.out))
          have own1 := HG.out.1.alloc (.cells #[.int .u64 (cut k (x))] 33)
          have cellsN := oneU_cells wq (cut k (x))
          have HNX : Hid (∀ v7 w7, w7.ownsRow w4.heap.size 33 1 v7 (st.length + 1) (cellsU st ++ [.int .u64 (cut k (x))]) → GoodD k w4.heap.size w7 v7 (st ++ [cut k (x)])) := fun v7 w7 ho => HG.out.more k1 k64 ho
          generalize cut k (x) = cx at *
          generalize cellsU st = xs0 at own1 HNX
          go_wp2_with fail
          refine gC.mono ?_
          rintro e wq2 ⟨rfl, rfl⟩
          clear gC
          go_wp2_with (at_builtin; refine wpList_append_own _ rfl _ _ 32 rfl w4.heap.size 33 i0 (.int .u64 0) 1 8 Tryd.underlying32 hi hz0 hz1 hz2 rfl (by decide) _ _ _ rfl own1 ⟨wq2.heap.size, 0, none⟩ 1 1 [.int .u64 cx] rfl rfl cellsN (by intro u hu; simp at hu; subst hu; rfl) (by unfold maxLen; omega) (by omega) (by have := HBR.out.size; simp; omega) ?_)
          intro v7 w7 own7 grow7 _
          have HG7 : Hid _ := HNX.out v7 w7 own7
          have HB7 : Hid (Below w4.heap.size w4 w7) := (HBR.out.alloc HBR.out.size _).grown grow7 (by have := HBR.out.size; simp; omega) (fun k hk => (World.ownsRow.lt HG.out.1 k hk).1)
          clear own1 own7 grow7 cellsN HNX
          go_wp2_with fail
          go_roundw
          case rel => exact ⟨0 + 1, st ++ [cx], by omega, by go_num, by have := HSL.out; simp only [List.length_append, List.length_singleton]; omega, HG7, HB7⟩
          case measure => simp [intOf]; omega
        · have hdj : (1 : Int) < (n : Int) := by omega
          have gN := GNM.out wr (HW.out wr HWR.out)
          go_wp2_with fail
          refine gN.mono ?_
          rintro e wq ⟨x, ⟨hx0, hx1⟩, rfl, rfl⟩
          clear gN
          have gC := iCutTo_yes k k1 k64 (x / 8) (by omega) (by omega) wq (HT.out wq (HW.out wq HWR.out))
          have own1 := HG.out.1.alloc (.cells #[.int .u64 (cut k (x / 8))] 33)
          have cellsN := oneU_cells wq (cut k (x / 8))
          have HNX : Hid (∀ v7 w7, w7.ownsRow w4.heap.size 33 1 v7 (st.length + 1) (cellsU st ++ [.int .u64 (cut k (x / 8))]) → GoodD k w4.heap.size w7 v7 (st ++ [cut k (x / 8)])) := fun v7 w7 ho => HG.out.more k1 k64 ho
          generalize cut k (x / 8) = cx at *
          generalize cellsU st = xs0 at own1 HNX
          go_wp2_with fail
          refine gC.mono ?_
          rintro e wq2 ⟨rfl, rfl⟩
          clear gC
          go_wp2_with (at_builtin; refine wpList_append_own _ rfl _ _ 32 rfl w4.heap.size 33 i0 (.int .u64 0) 1 8 Tryd.underlying32 hi hz0 hz1 hz2 rfl (by decide) _ _ _ rfl own1 ⟨wq2.heap.size, 0, none⟩ 1 1 [.int .u64 cx] rfl rfl cellsN (by intro u hu; simp at hu; subst hu; rfl) (by unfold maxLen; omega) (by omega) (by have := HBR.out.size; simp; omega) ?_)
          intro v7 w7 own7 grow7 _
          have HG7 : Hid _ := HNX.out v7 w7 own7
          have HB7 : Hid (Below w4.heap.size w4 w7) := (HBR.out.alloc HBR.out.size _).grown grow7 (by have := HBR.out.size; simp; omega) (fun k hk => (World.ownsRow.lt HG.out.1 k hk).1)
          clear own1 own7 grow7 cellsN HNX
          go_wp2_with fail
          go_roundw
          case rel => exact ⟨1 + 1, st ++ [cx], by omega, by go_num, by have := HSL.out; simp only [List.length_append, List.length_singleton]; omega, HG7, HB7⟩
          case measure => simp [intOf]; omega
        · have hdj : (2 : Int) < (n : Int) := by omega
          have gN := GNM.out wr (HW.out wr HWR.out)
          go_wp2_with fail
          refine gN.mono ?_
          rintro e wq ⟨x, ⟨hx0, hx1⟩, rfl, rfl⟩
          clear gN
          have gC := iCutTo_yes k k1 k64 (x / 64) (by omega) (by omega) wq (HT.out wq (HW.out wq HWR.out))
          have own1 := HG.out.1.alloc (.cells #[.int .u64 (cut k (x / 64))] 33)
          have cellsN := oneU_cells wq (cut k (x / 64))
          have HNX : Hid (∀ v7 w7, w7.ownsRow w4.heap.size 33 1 v7 (st.length + 1) (cellsU st ++ [.int .u64 (cut k (x / 64))]) → GoodD k w4.heap.size w7 v7 (st ++ [cut k (x / 64)])) := fun v7 w7 ho => HG.out.more k1 k64 ho
          generalize cut k (x / 64) = cx at *
          generalize cellsU st = xs0 at own1 HNX
          go_wp2_with fail
          refine gC.mono ?_
          rintro e wq2 ⟨rfl, rfl⟩
          clear gC
          go_wp2_with (at_builtin; refine wpList_append_own _ rfl _ _ 32 rfl w4.heap.size 33 i0 (.int .u64 0) 1 8 Tryd.underlying32 hi hz0 hz1 hz2 rfl (by decide) _ _ _ rfl own1 ⟨wq2.heap.size, 0, none⟩ 1 1 [.int .u64 cx] rfl rfl cellsN (by intro u hu; simp at hu; subst hu; rfl) (by unfold maxLen; omega) (by omega) (by have := HBR.out.size; simp; omega) ?_)
          intro v7 w7 own7 grow7 _
          have HG7 : Hid _ := HNX.out v7 w7 own7
          have HB7 : Hid (Below w4.heap.size w4 w7) := (HBR.out.alloc HBR.out.size _).grown grow7 (by have := HBR.out.size; simp; omega) (fun k hk => (World.ownsRow.lt HG.out.1 k hk).1)
          clear own1 own7 grow7 cellsN HNX
          go_wp2_with fail
          go_roundw
          case rel => exact ⟨2 + 1, st ++ [cx], by omega, by go_num, by have := HSL.out; simp only [List.length_append, List.length_singleton]; omega, HG7, HB7⟩
          case measure => simp [intOf]; omega
        · omega
      · obtain rfl : j = n := by omega
        have HV : Hid _ := HJV.out (by first | rfl | trivial) st u14 w4.heap.size wr hsl HG.out
        have HST : Hid (∀ w', Below wr.heap.size wr w' → StAt w' u14 st) := fun w' hb => HG.out.st.below hb
        have g5 := HV.out.1 r2 wr HWR.out (HR2.out wr (R4.out.trans (HBR.out.mono R4.out.size))) HG.out.st
        have GAW : Hid (∀ w', Below w1.heap.size w1 w' → Calls Tryd.prog 36 #[.int .i64 (k : Int), .int .u64 (valueL k a st), .int .u64 (valueL k b st)] w' fun e w'' => e = .returned (.tuple #[.int .u64 (cut k (IntKind.u64.wrap (valueL k a st + valueL k b st))), .bool true]) ∧ w'' = w') := by
          intro w' hb
          obtain ⟨⟨p1, p2⟩, p3, p4⟩ := HV.out.2.2.2
          have hl := pw_le k k64
          exact iAddWord_yes k k1 k64 _ _ p1 (by omega) p3 (by omega) w' (HT.out w' (HW.out w' hb)) (by rw [good_of k k1 k64 _ p2, good_of k k1 k64 _ p4]; rfl)
        have GLS : Hid (∀ w', Below w1.heap.size w1 w' → Calls Tryd.prog 37 #[.int .i64 (k : Int), .int .u64 (valueL k a st), .int .u64 (valueL k b st)] w' fun e w'' => e = .returned (.tuple #[.bool (decide (sgn k (valueL k a st) < sgn k (valueL k b st))), .bool true]) ∧ w'' = w') := by
          intro w' hb
          obtain ⟨⟨p1, p2⟩, p3, p4⟩ := HV.out.2.2.2
          exact less_any k k1 k64 _ _ p1 p2 p3 p4 w' (HT.out w' (HW.out w' hb))
        clear hsl HG
        generalize valueL k a st = VA at *
        generalize valueL k b st = VB at *
        generalize hXV : doOp k op VA VB = XV at *
        generalize hSUM : cut k (IntKind.u64.wrap (VA + VB)) = SUM at *
        generalize hLS : decide (sgn k VA < sgn k VB) = LS at *
        have HXV : Hid _ := hXV
        have HSUM : Hid _ := hSUM
        have HLS : Hid _ := hLS
        clear hXV hSUM hLS
        go_wp2_with fail
        refine g5.mono ?_
        rintro e w5 ⟨rfl, hb5⟩
        clear g5
        have H5 : Hid (Below w1.heap.size w1 w5) := HWR.out.trans (hb5.mono HWR.out.size)
        have S5 : Hid (Below wr.heap.size wr w5) := hb5
        clear hb5
        have g3_ := HV.out.2.1 w5 H5.out (HNA.out w5 H5.out) (HST.out w5 S5.out)
        go_wp2_with fail
        refine g3_.mono ?_
        rintro e w6 ⟨rfl, hb6⟩
        clear g3_
        have H6 : Hid (Below w1.heap.size w1 w6) := H5.out.trans (hb6.mono H5.out.size)
        have S6 : Hid (Below wr.heap.size wr w6) := S5.out.trans (hb6.mono S5.out.size)
        clear hb6
        have g4_ := HV.out.2.2.1 w6 H6.out (HNB.out w6 H6.out) (HST.out w6 S6.out)
        go_wp2_with fail
        refine g4_.mono ?_
        rintro e w7 ⟨rfl, hb7⟩
        clear g4_
        have H7 : Hid (Below w1.heap.size w1 w7) := H6.out.trans (hb7.mono H6.out.size)
        clear hb7
        have g5_ := GAW.out w7 H7.out
        go_wp2_with fail
        refine g5_.mono ?_
        rintro e w8 ⟨rfl, rfl⟩
        clear g5_
        have gls := GLS.out w8 H7.out
        go_wp2_with fail
        refine gls.mono ?_
        rintro e w9 ⟨rfl, rfl⟩
        clear gls HV HST GAW GLS HR2 HNA HNB HJV
        go_upto_region 24 with fail
        go_cut [202] from 164 to 202 (fun s wx => s = .bool false ∧ wx = w9)
        case first =>
          by_cases hop3 : op = 3
          · subst hop3
            obtain rfl : XV = SUM := HXV.out.symm.trans HSUM.out
            go_wp2_with fail
            go_meet
            exact ⟨rfl, rfl⟩
          have eo3 : (op == 3) = false := beq_eq_false_iff_ne.2 hop3
          clear hop3
          by_cases hop10 : op = 10
          · subst hop10
            have hx : bits .xor .u64 VA VB = XV := HXV.out
            go_wp2_with fail
            go_meet
            exact ⟨rfl, rfl⟩
          have eo10 : (op == 10) = false := beq_eq_false_iff_ne.2 hop10
          clear hop10
          by_cases hop16 : op = 16
          · subst hop16
            have hx : XV = if LS = true then 1 else 0 := by
              have h1 : (if sgn k VA < sgn k VB then (1 : Int) else 0) = XV := HXV.out
              rw [← h1, ← HLS.out]
              simp
            cases LS with
            | true =>
              simp only [if_true] at hx
              subst hx
              go_wp2_with fail
              go_meet
              exact ⟨rfl, rfl⟩
            | false =>
              simp only [Bool.false_eq_true, if_false] at hx
              subst hx
              go_wp2_with fail
              go_meet
              exact ⟨rfl, rfl⟩
          have eo16 : (op == 16) = false := beq_eq_false_iff_ne.2 hop16
          clear hop16
          by_cases hop18 : op = 18
          · subst hop18
            have hx : bits .or .u64 VA VB = XV := HXV.out
            go_wp2_with fail
            go_meet
            exact ⟨rfl, rfl⟩
          have eo18 : (op == 18) = false := beq_eq_false_iff_ne.2 hop18
          clear hop18
          go_wp2_with fail
          go_meet
          exact ⟨rfl, rfl⟩
        case rest =>
          obtain ⟨rfl, rfl⟩ := hcut
          clear HXV HSUM HLS
          have g7_ := drawTurn_any (.slice a1 l1 c1) wc (HC1.out wc (HW.out wc H7.out))
          go_wp2_with fail
          refine g7_.mono ?_
          rintro e w20 ⟨q, vars2, how, tv, t, rfl, ⟨q1, q64⟩, ⟨hv20, hv25⟩, ⟨hh3, hh19⟩, hd2, hb20⟩
          clear g7_
          have H20 : Hid (Below w1.heap.size w1 w20) := H7.out.trans (hb20.mono H7.out.size)
          have HN2 : Hid (∀ w', Below w20.heap.size w20 w' → NodesAt w' tv t) := fun w' hb => (hd2.below hb).at
          have HK2 : Hid ((∀ x ∈ t, NdOk x) ∧ t.length ≤ 31) := hd2.2
          have HRK : Hid ((∀ x ∈ turnL q vars2 how t, NdOk x) ∧ (turnL q vars2 how t).length ≤ 32) := ⟨turnL_ok HK2.out.1 (by omega) (by omega), Nat.le_trans (turnL_len q vars2 how t) (by have := HK2.out.2; omega)⟩
          have HRK2 : Hid ((∀ x ∈ turnL q vars2 how (turnL q vars2 how t), NdOk x) ∧ (turnL q vars2 how (turnL q vars2 how t)).length ≤ 33) := ⟨turnL_ok HRK.out.1 (by omega) (by omega), Nat.le_trans (turnL_len q vars2 how _) (by have := HRK.out.2; omega)⟩
          have HRN : Hid (∀ (w' : World) (B : Nat) (v' : Value), OwnNodes w' B v' (turnL q vars2 how t) → NodesAt w' v' (turnL q vars2 how t)) := fun w' B v' ho => nodes_of_own HRK.out.1 (by have := HRK.out.2; omega) ho
          have HRN2 : Hid (∀ (w' : World) (B : Nat) (v' : Value), OwnNodes w' B v' (turnL q vars2 how (turnL q vars2 how t)) → NodesAt w' v' (turnL q vars2 how (turnL q vars2 how t))) := fun w' B v' ho => nodes_of_own HRK2.out.1 (by have := HRK2.out.2; omega) ho
          clear hd2 hb20
          have g21 := impl_TurnTerm q vars2 how tv t w20 (HT.out w20 (HW.out w20 H20.out)) (HN2.out w20 (Below.refl _ _)) (by have := HK2.out.2; omega) (by omega) (by omega)
          have HS21 : Hid (∀ w', Below w20.heap.size w20 w' → Calls Tryd.prog 40 #[.int .i64 (q : Int), .int .i64 vars2, .int .i64 how, tv] w' fun e w'' => ∃ v', e = .returned (.tuple #[v', .bool (saidTurn q vars2 how t)]) ∧ OwnNodes w'' w'.heap.size v' (turnL q vars2 how t) ∧ Below w'.heap.size w' w'') := fun w' hb => turnTerm_any q vars2 how (by omega) (by omega) tv t (by have := HK2.out.2; omega) w' (HN2.out w' hb)
          have HI21 : Hid (∀ (rv : Value) (w' : World), Below w1.heap.size w1 w' → NodesAt w' rv (turnL q vars2 how t) → Calls Tryd.prog 39 #[.int .i64 (q : Int), .int .i64 vars2, .int .i64 how, rv] w' fun e w'' => ∃ v', e = .returned (.tuple #[v', .bool (saidTurn q vars2 how (turnL q vars2 how t))]) ∧ OwnNodes w'' w'.heap.size v' (turnL q vars2 how (turnL q vars2 how t)) ∧ Below w'.heap.size w' w'') := fun rv w' hb hn => impl_TurnTerm q vars2 how rv _ w' (HT.out w' (HW.out w' hb)) hn (by have := HRK.out.2; omega) (by omega) (by omega)
          have HONE : Hid (saidTurn q vars2 how t = false → saidTurn q vars2 how (turnL q vars2 how t) = false) := by
            intro hf
            have e1 : turnL q vars2 how t = [] := by
              unfold turnL madeL
              split
              · rename_i h1
                split
                · rename_i h2
                  have : saidTurn q vars2 how t = true := decide_eq_true ⟨h1.1, h1.2, h2⟩
                  rw [hf] at this
                  cases this
                · rfl
              · rfl
            rw [e1]
            apply decide_eq_false
            rintro ⟨m1, m2, _⟩
            have := part_many (op := how) (by omega)
            rw [← m2] at this
            have e2 : kindL q vars2 [] = 0 := kind_out (by simp)
            omega
          have HVAL : Hid (∀ n2 : Nat, vars2 = (n2 : Int) → saidTurn q vars2 how t = true → saidTurn q vars2 how (turnL q vars2 how t) = true → ∀ (st : List Int) (sv : Value) (B : Nat) (w0 : World), st.length = n2 → GoodD q B w0 sv st →
              (∀ (rv : Value) (w' : World), Below w1.heap.size w1 w' → NodesAt w' rv (turnL q vars2 how (turnL q vars2 how t)) → StAt w' sv st → Calls Tryd.prog 23 #[.int .i64 (q : Int), rv, sv] w' fun e w'' => e = .returned (.tuple #[.int .u64 (valueL q t st), .bool true]) ∧ Below w'.heap.size w' w'') ∧
              (∀ (w' : World), Below w1.heap.size w1 w' → NodesAt w' tv t → StAt w' sv st → Calls Tryd.prog 23 #[.int .i64 (q : Int), tv, sv] w' fun e w'' => e = .returned (.tuple #[.int .u64 (valueL q t st), .bool true]) ∧ Below w'.heap.size w' w'')) := by
            rintro n2 rfl s1 s2 st sv B w0 rfl hgd
            obtain ⟨p1, p2, p3⟩ := turned_said HK2.out.1 s1 s2 (fun s hs => (hgd.2 s hs).1.1) (fun s hs => (hgd.2 s hs).2)
            have hso : StOk st := ⟨by omega, fun s hs => (hgd.2 s hs).1⟩
            refine ⟨fun rv w' hb hn hs => ?_, fun w' hb hn hs => ?_⟩
            · have h := impl_ValueOf q rv sv _ st w' (HT.out w' (HW.out w' hb)) hn (by have := HRK2.out.2; omega) hs hso
              rw [p1, p3] at h
              exact h
            · have h := impl_ValueOf q tv sv t st w' (HT.out w' (HW.out w' hb)) hn (by have := HK2.out.2; omega) hs hso
              rw [p2] at h
              exact h
          have HGOOD : Hid (saidTurn q vars2 how t = true → 1 ≤ vars2 ∧ vars2 ≤ 4) := fun hs => ⟨(turned_good hs).1, (turned_good hs).2.1⟩
          clear HRK HRK2
          generalize turnL q vars2 how (turnL q vars2 how t) = RR at *
          generalize saidTurn q vars2 how (turnL q vars2 how t) = ST2 at *
          generalize turnL q vars2 how t = R at *
          generalize saidTurn q vars2 how t = ST1 at *
          go_wp2_with fail
          refine g21.mono ?_
          rintro e w21 ⟨r21, rfl, ho21, hb21⟩
          clear g21
          have HR21 : Hid (∀ w', Below w21.heap.size w21 w' → NodesAt w' r21 R) := fun w' hb => (HRN.out _ _ _ ho21).below hb
          have H21 : Hid (Below w1.heap.size w1 w21) := H20.out.trans (hb21.mono H20.out.size)
          have N21 : Hid (Below w20.heap.size w20 w21) := hb21
          clear ho21 hb21
          have g22 := HS21.out w21 N21.out
          go_wp2_with fail
          refine g22.mono ?_
          rintro e w22 ⟨r22, rfl, ho22, hb22⟩
          clear g22
          have g23 := sameNodes_any r21 r22 R w22 (HR21.out w22 hb22) (HRN.out _ _ _ ho22)
          have H22 : Hid (Below w1.heap.size w1 w22) := H21.out.trans (hb22.mono H21.out.size)
          have N22 : Hid (Below w20.heap.size w20 w22) := N21.out.trans (hb22.mono N21.out.size)
          have R22 : Hid (Below w21.heap.size w21 w22) := hb22
          clear ho22 hb22 HRN
          go_wp2_with fail
          refine g23.mono ?_
          rintro e w23 ⟨rfl, hb23⟩
          clear g23
          have H23 : Hid (Below w1.heap.size w1 w23) := H22.out.trans (hb23.mono H22.out.size)
          have N23 : Hid (Below w20.heap.size w20 w23) := N22.out.trans (hb23.mono N22.out.size)
          have R23 : Hid (Below w21.heap.size w21 w23) := R22.out.trans (hb23.mono R22.out.size)
          clear hb23
          have g24 := HI21.out r21 w23 H23.out (HR21.out w23 R23.out)
          clear HI21 HR21 HS21
          go_wp2_with fail
          refine g24.mono ?_
          rintro e w24 ⟨r24, rfl, ho24, hb24⟩
          clear g24
          have H24 : Hid (Below w1.heap.size w1 w24) := H23.out.trans (hb24.mono H23.out.size)
          have N24 : Hid (Below w20.heap.size w20 w24) := N23.out.trans (hb24.mono N23.out.size)
          have HR24 : Hid (∀ w', Below w24.heap.size w24 w' → NodesAt w' r24 RR) := fun w' hb => (HRN2.out _ _ _ ho24).below hb
          clear ho24 hb24 HRN2
          cases ST2 with
          | false =>
            go_wp2_with fail
            go_loop [38, 39] (fun v i => v = .slice none 0 0 ∧ i = .int .i64 0) (fun _ _ => 0)
            case atStart => exact ⟨rfl, rfl⟩
            case round =>
              obtain ⟨rfl, rfl⟩ := hrel
              cases ST1 with
              | false =>
                go_wp2_with fail
                go_ret
                exact ⟨rfl, HW.out _ H24.out⟩
              | true =>
                go_wp2_with fail
                go_ret
                exact ⟨rfl, HW.out _ H24.out⟩
          | true =>
            cases ST1 with
            | false => exact absurd (HONE.out rfl) (by decide)
            | true =>
              obtain ⟨hg1, hg4⟩ := HGOOD.out rfl
              obtain ⟨n2, rfl⟩ := Int.eq_ofNat_of_zero_le hv20
              have hn24 : n2 ≤ 4 := by omega
              go_wp2_with fail
              go_loopw [38, 39] (fun v i wr => ∃ (j : Nat) (st : List Int), j ≤ n2 ∧ i = .int .i64 j ∧ st.length = j ∧ Hid (GoodD q w24.heap.size wr v st) ∧ Hid (Below w24.heap.size w24 wr)) (fun _ i _ => n2 - (intOf i).toNat)
              case atStart => exact ⟨0, [], by omega, rfl, rfl, ⟨World.ownsRow_nil _ _ _ _, fun s hs => by cases hs⟩, Below.refl _ _⟩
              case round =>
                obtain ⟨j, st, hj, rfl, hsl, HG, HBR⟩ := hrel
                have HWR : Hid (Below w1.heap.size w1 wr) := H24.out.trans (HBR.out.mono H24.out.size)
                by_cases hlt' : j < n2
                · have HSL : Hid (st.length = j) := hsl
                  have hst5 : st.length ≤ 5 := by omega
                  clear hsl
                  rcases (show j = 0 ∨ j = 1 ∨ j = 2 ∨ j = 3 by omega) with rfl | rfl | rfl | rfl
                  · have hdj : (0 : Int) < (n2 : Int) := by omega
                    have gN := GNC.out wr (HW.out wr HWR.out)
                    go_wp2_with fail
                    refine gN.mono ?_
                    rintro e wq ⟨x, ⟨hx0, hx1⟩, rfl, rfl⟩
                    clear gN
                    have gC := iCutTo_yes q q1 q64 (x) (by omega) (by omega) wq (HT.out wq (HW.out wq HWR.out))
                    have own1 := HG.out.1.alloc (.cells #[.int .u64 (cut q (x))] 33)
                    have cellsN := oneU_cells wq (cut q (x))
                    have HNX : Hid (∀ v7 w7, w7.ownsRow w24.heap.size 33 1 v7 (st.length + 1) (cellsU st ++ [.int .u64 (cut q (x))]) → GoodD q w24.heap.size w7 v7 (st ++ [cut q (x)])) := fun v7 w7 ho => HG.out.more q1 q64 ho
                    generalize cut q (x) = cx at *
                    generalize cellsU st = xs0 at own1 HNX
                    go_wp2_with fail
                    refine gC.mono ?_
                    rintro e wq2 ⟨rfl, rfl⟩
                    clear gC
                    go_wp2_with (at_builtin; refine wpList_append_own _ rfl _ _ 32 rfl w24.heap.size 33 i0 (.int .u64 0) 1 8 Tryd.underlying32 hi hz0 hz1 hz2 rfl (by decide) _ _ _ rfl own1 ⟨wq2.heap.size, 0, none⟩ 1 1 [.int .u64 cx] rfl rfl cellsN (by intro u hu; simp at hu; subst hu; rfl) (by unfold maxLen; omega) (by omega) (by have := HBR.out.size; simp; omega) ?_)
                    intro v7 w7 own7 grow7 _
                    have HG7 : Hid _ := HNX.out v7 w7 own7
                    have HB7 : Hid (Below w24.heap.size w24 w7) := (HBR.out.alloc HBR.out.size _).grown grow7 (by have := HBR.out.size; simp; omega) (fun k hk => (World.ownsRow.lt HG.out.1 k hk).1)
                    clear own1 own7 grow7 cellsN HNX
                    go_wp2_with fail
                    go_roundw
                    case rel => exact ⟨0 + 1, st ++ [cx], by omega, by go_num, by have := HSL.out; simp only [List.length_append, List.length_singleton]; omega, HG7, HB7⟩
                    case measure => simp [intOf]; omega
                  · have hdj : (1 : Int) < (n2 : Int) := by omega
                    have gN := GNC.out wr (HW.out wr HWR.out)
                    go_wp2_with fail
                    refine gN.mono ?_
                    rintro e wq ⟨x, ⟨hx0, hx1⟩, rfl, rfl⟩
                    clear gN
                    have gC := iCutTo_yes q q1 q64 (x / 8) (by omega) (by omega) wq (HT.out wq (HW.out wq HWR.out))
                    have own1 := HG.out.1.alloc (.cells #[.int .u64 (cut q (x / 8))] 33)
                    have cellsN := oneU_cells wq (cut q (x / 8))
                    have HNX : Hid (∀ v7 w7, w7.ownsRow w24.heap.size 33 1 v7 (st.length + 1) (cellsU st ++ [.int .u64 (cut q (x / 8))]) → GoodD q w24.heap.size w7 v7 (st ++ [cut q (x / 8)])) := fun v7 w7 ho => HG.out.more q1 q64 ho
                    generalize cut q (x / 8) = cx at *
                    generalize cellsU st = xs0 at own1 HNX
                    go_wp2_with fail
                    refine gC.mono ?_
                    rintro e wq2 ⟨rfl, rfl⟩
                    clear gC
                    go_wp2_with (at_builtin; refine wpList_append_own _ rfl _ _ 32 rfl w24.heap.size 33 i0 (.int .u64 0) 1 8 Tryd.underlying32 hi hz0 hz1 hz2 rfl (by decide) _ _ _ rfl own1 ⟨wq2.heap.size, 0, none⟩ 1 1 [.int .u64 cx] rfl rfl cellsN (by intro u hu; simp at hu; subst hu; rfl) (by unfold maxLen; omega) (by omega) (by have := HBR.out.size; simp; omega) ?_)
                    intro v7 w7 own7 grow7 _
                    have HG7 : Hid _ := HNX.out v7 w7 own7
                    have HB7 : Hid (Below w24.heap.size w24 w7) := (HBR.out.alloc HBR.out.size _).grown grow7 (by have := HBR.out.size; simp; omega) (fun k hk => (World.ownsRow.lt HG.out.1 k hk).1)
                    clear own1 own7 grow7 cellsN HNX
                    go_wp2_with fail
                    go_roundw
                    case rel => exact ⟨1 + 1, st ++ [cx], by omega, by go_num, by have := HSL.out; simp only [List.length_append, List.length_singleton]; omega, HG7, HB7⟩
                    case measure => simp [intOf]; omega
                  · have hdj : (2 : Int) < (n2 : Int) := by omega
                    have gN := GNC.out wr (HW.out wr HWR.out)
                    go_wp2_with fail
                    refine gN.mono ?_
                    rintro e wq ⟨x, ⟨hx0, hx1⟩, rfl, rfl⟩
                    clear gN
                    have gC := iCutTo_yes q q1 q64 (x / 64) (by omega) (by omega) wq (HT.out wq (HW.out wq HWR.out))
                    have own1 := HG.out.1.alloc (.cells #[.int .u64 (cut q (x / 64))] 33)
                    have cellsN := oneU_cells wq (cut q (x / 64))
                    have HNX : Hid (∀ v7 w7, w7.ownsRow w24.heap.size 33 1 v7 (st.length + 1) (cellsU st ++ [.int .u64 (cut q (x / 64))]) → GoodD q w24.heap.size w7 v7 (st ++ [cut q (x / 64)])) := fun v7 w7 ho => HG.out.more q1 q64 ho
                    generalize cut q (x / 64) = cx at *
                    generalize cellsU st = xs0 at own1 HNX
                    go_wp2_with fail
                    refine gC.mono ?_
                    rintro e wq2 ⟨rfl, rfl⟩
                    clear gC
                    go_wp2_with (at_builtin; refine wpList_append_own _ rfl _ _ 32 rfl w24.heap.size 33 i0 (.int .u64 0) 1 8 Tryd.underlying32 hi hz0 hz1 hz2 rfl (by decide) _ _ _ rfl own1 ⟨wq2.heap.size, 0, none⟩ 1 1 [.int .u64 cx] rfl rfl cellsN (by intro u hu; simp at hu; subst hu; rfl) (by unfold maxLen; omega) (by omega) (by have := HBR.out.size; simp; omega) ?_)
                    intro v7 w7 own7 grow7 _
                    have HG7 : Hid _ := HNX.out v7 w7 own7
                    have HB7 : Hid (Below w24.heap.size w24 w7) := (HBR.out.alloc HBR.out.size _).grown grow7 (by have := HBR.out.size; simp; omega) (fun k hk => (World.ownsRow.lt HG.out.1 k hk).1)
                    clear own1 own7 grow7 cellsN HNX
                    go_wp2_with fail
                    go_roundw
                    case rel => exact ⟨2 + 1, st ++ [cx], by omega, by go_num, by have := HSL.out; simp only [List.length_append, List.length_singleton]; omega, HG7, HB7⟩
                    case measure => simp [intOf]; omega
                  · have hdj : (3 : Int) < (n2 : Int) := by omega
                    have gN := GNC.out wr (HW.out wr HWR.out)
                    go_wp2_with fail
                    refine gN.mono ?_
                    rintro e wq ⟨x, ⟨hx0, hx1⟩, rfl, rfl⟩
                    clear gN
                    have gC := iCutTo_yes q q1 q64 (x / 512) (by omega) (by omega) wq (HT.out wq (HW.out wq HWR.out))
                    have own1 := HG.out.1.alloc (.cells #[.int .u64 (cut q (x / 512))] 33)
                    have cellsN := oneU_cells wq (cut q (x / 512))
                    have HNX : Hid (∀ v7 w7, w7.ownsRow w24.heap.size 33 1 v7 (st.length + 1) (cellsU st ++ [.int .u64 (cut q (x / 512))]) → GoodD q w24.heap.size w7 v7 (st ++ [cut q (x / 512)])) := fun v7 w7 ho => HG.out.more q1 q64 ho
                    generalize cut q (x / 512) = cx at *
                    generalize cellsU st = xs0 at own1 HNX
                    go_wp2_with fail
                    refine gC.mono ?_
                    rintro e wq2 ⟨rfl, rfl⟩
                    clear gC
                    go_wp2_with (at_builtin; refine wpList_append_own _ rfl _ _ 32 rfl w24.heap.size 33 i0 (.int .u64 0) 1 8 Tryd.underlying32 hi hz0 hz1 hz2 rfl (by decide) _ _ _ rfl own1 ⟨wq2.heap.size, 0, none⟩ 1 1 [.int .u64 cx] rfl rfl cellsN (by intro u hu; simp at hu; subst hu; rfl) (by unfold maxLen; omega) (by omega) (by have := HBR.out.size; simp; omega) ?_)
                    intro v7 w7 own7 grow7 _
                    have HG7 : Hid _ := HNX.out v7 w7 own7
                    have HB7 : Hid (Below w24.heap.size w24 w7) := (HBR.out.alloc HBR.out.size _).grown grow7 (by have := HBR.out.size; simp; omega) (fun k hk => (World.ownsRow.lt HG.out.1 k hk).1)
                    clear own1 own7 grow7 cellsN HNX
                    go_wp2_with fail
                    go_roundw
                    case rel => exact ⟨3 + 1, st ++ [cx], by omega, by go_num, by have := HSL.out; simp only [List.length_append, List.length_singleton]; omega, HG7, HB7⟩
                    case measure => simp [intOf]; omega
                · obtain rfl : j = n2 := by omega
                  have HV : Hid _ := HVAL.out _ rfl (by first | rfl | trivial) (by first | rfl | trivial) st u38 w24.heap.size wr hsl HG.out
                  have HST : Hid (∀ w', Below wr.heap.size wr w' → StAt w' u38 st) := fun w' hb => HG.out.st.below hb
                  have g25 := HV.out.1 r24 wr HWR.out (HR24.out wr HBR.out) HG.out.st
                  have N25 : Hid (Below w20.heap.size w20 wr) := N24.out.trans (HBR.out.mono N24.out.size)
                  clear hsl HG
                  generalize valueL q t st = VT at *
                  go_wp2_with fail
                  refine g25.mono ?_
                  rintro e w25 ⟨rfl, hb25⟩
                  clear g25
                  have g26 := HV.out.2 w25 (HWR.out.trans (hb25.mono HWR.out.size)) (HN2.out w25 (N25.out.trans (hb25.mono N25.out.size))) (HST.out w25 hb25)
                  have H25 : Hid (Below w1.heap.size w1 w25) := HWR.out.trans (hb25.mono HWR.out.size)
                  clear hb25 HV
                  go_wp2_with fail
                  refine g26.mono ?_
                  rintro e w26 ⟨rfl, hb26⟩
                  clear g26
                  have H26 : Hid (Below w1.heap.size w1 w26) := H25.out.trans (hb26.mono H25.out.size)
                  clear hb26
                  go_wp2_with fail
                  go_ret
                  exact ⟨ret_bool (by simp), HW.out _ H26.out⟩
end Go.Proofs.YtkmgcgmeibhnmaaDoor
