/-
  The drawing of terms (the model's number, asked, term, state): some nodes of their own memory, as many as said at most; the cursor good still, nothing else turned.
-/
import Derived.Test.YtjbfembblgkakaaDoorDraw
import Derived.Test.YtjbfembblgkakaaDoorTurn
import Derived.Test.YtjbfembblgkakaaDoorFold2
import Derived.Test.YtjbfembblgkakaaDoorILay
namespace Go.Proofs.YtjbfembblgkakaaDoor
open Go Go.RowKit
open M
set_option linter.unusedVariables false

/-- what is drawn: nodes that are owned since w, the cursor at b good, nothing else turned -/
def Drawn (B b m : Nat) (sv : Value) (L : Nat) (w w' : World) (v : Value) (t : List Nd) : Prop :=
  OwnNodes w' w.heap.size v t ∧ (∀ x ∈ t, NdOk x) ∧ 1 ≤ t.length ∧ t.length ≤ L ∧ Only b w w' ∧ Cur B b m sv w'
/-- what number does at a depth -/
def NumP (d M L : Nat) : Prop := ∀ (B b m : Nat) (sv : Value) (k : Nat) (vars : Int) (w : World), 1 ≤ k → k ≤ 64 → 1 ≤ vars → vars ≤ 5 → Cur B b m sv w → m + M ≤ 5000000 →
  Calls Tryd.prog 134 #[ptr b, .int .i64 k, .int .i64 vars, .int .i64 (d : Int)] w fun e w' => ∃ v t, e = .returned v ∧ Drawn B b (m + M) sv L w w' v t
theorem own_one (w : World) (op n : Int) : OwnNodes (w.alloc (.cells #[.int .i64 op, .int .u64 n] 112)) w.heap.size (.slice (some ⟨w.heap.size, 0, none⟩) 1 1) [(op, n)] := by
  refine ⟨rfl, Or.inr ⟨w.heap.size, 1, #[.int .i64 op, .int .u64 n], rfl, Nat.le_refl _, ?_, Nat.le_refl _, by unfold maxLen; omega, rfl, rfl⟩⟩
  show (w.heap.push _)[w.heap.size]? = _
  simp
theorem one_ok {op n : Int} (h0 : 0 ≤ op) (h1 : op ≤ 1000) (h2 : 0 ≤ n) (h3 : n ≤ 18446744073709551615) : ∀ x ∈ [((op, n) : Nd)], NdOk x := by
  intro x hx
  simp at hx
  subst hx
  exact ⟨by simp only; omega, by simp only; omega, h2, h3⟩
/-- what is owned from B on is owned still where nothing but block b, below B, has turned -/
theorem own_keeps {w w' : World} {B b : Nat} {e : TypeId} {s : Nat} {v : Value} {n : Nat} {xs : List Value} (h : w.ownsRow B e s v n xs) (hb : b < B) (ho : Only b w w') : w'.ownsRow B e s v n xs := by
  obtain ⟨h1, h2⟩ := h
  refine ⟨h1, ?_⟩
  rcases h2 with h2 | ⟨g, cap, cur, hv, hg, hh, r⟩
  · exact Or.inl h2
  · have hlt : g < w.heap.size := (Array.getElem?_eq_some_iff.1 hh).1
    exact Or.inr ⟨g, cap, cur, hv, hg, by rw [ho.block g (by omega) hlt]; exact hh, r⟩
theorem Drawn.only {B b m m' L : Nat} {sv v : Value} {w w1 w2 : World} {t : List Nd} (hd : Drawn B b m sv L w w1 v t) (hb : b < w.heap.size) (ho : Only b w1 w2) (hc : Cur B b m' sv w2) : Drawn B b m' sv L w w2 v t := by
  obtain ⟨h1, h2, h3, h4, h5, h6⟩ := hd
  exact ⟨own_keeps h1 hb ho, h2, h3, h4, h5.trans ho, hc⟩
theorem Drawn.alloc {B b m L : Nat} {sv v : Value} {w w1 : World} {t : List Nd} (hd : Drawn B b m sv L w w1 v t) (o : Obj) : Drawn B b m sv L w (w1.alloc o) v t := by
  obtain ⟨h1, h2, h3, h4, h5, h6⟩ := hd
  exact ⟨World.ownsRow.alloc h1 o, h2, h3, h4, h5.alloc o, h6.alloc o⟩
theorem Drawn.append {B b m L : Nat} {sv v v7 : Value} {w w1 w7 : World} {t ys : List Nd} (hd : Drawn B b m sv L w w1 v t) (hb : b < w.heap.size) (own7 : w7.ownsRow w.heap.size 112 2 v7 (t.length + ys.length) (flat t ++ flat ys)) (grow : w1.grownBy w7 v.ownBlock) (hok : ∀ x ∈ ys, NdOk x) : Drawn B b m sv (L + ys.length) w w7 v7 (t ++ ys) := by
  obtain ⟨h1, h2, h3, h4, h5, h6⟩ := hd
  refine ⟨?_, ?_, by simp; omega, by simp; omega, ?_, ?_⟩
  · unfold OwnNodes
    rw [flat_append, List.length_append]
    exact own7
  · intro x hx
    rcases List.mem_append.1 hx with hx | hx
    · exact h2 x hx
    · exact hok x hx
  · have hs := h5.size
    exact ⟨grow.os.trans h5.os, grow.tape.trans h5.tape, grow.output.trans h5.output, Nat.le_trans h5.size grow.size, fun k hk hks => by
      rw [grow.block k (by omega) (fun e => by have := (World.ownsRow.lt h1 k e.symm).1; omega)]
      exact h5.block k hk hks⟩
  · refine h6.below ⟨grow.os, grow.tape, grow.output, grow.size, fun k hk => grow.block k ?_ (fun e => ?_)⟩
    · have := h6.lies
      omega
    · have := (World.ownsRow.lt h1 k e.symm).1
      omega
theorem Drawn.more {B b m m' L L' : Nat} {sv v : Value} {w w1 : World} {t : List Nd} (hd : Drawn B b m sv L w w1 v t) (hm : m ≤ m') (hL : L ≤ L') : Drawn B b m' sv L' w w1 v t := by
  obtain ⟨h1, h2, h3, h4, h5, h6⟩ := hd
  exact ⟨h1, h2, h3, Nat.le_trans h4 hL, h5, h6.more hm⟩
theorem Drawn.since {B b m L : Nat} {sv v : Value} {w w0 w1 : World} {t : List Nd} (hd : Drawn B b m sv L w0 w1 v t) (ho : Only b w w0) : Drawn B b m sv L w w1 v t := by
  obtain ⟨h1, h2, h3, h4, h5, h6⟩ := hd
  exact ⟨OwnNodes.low h1 ho.size, h2, h3, h4, ho.trans h5, h6⟩
theorem Drawn.cur {B b m L : Nat} {sv v : Value} {w w1 : World} {t : List Nd} (hd : Drawn B b m sv L w w1 v t) : Cur B b m sv w1 := hd.2.2.2.2.2
theorem drawn_one {B b m : Nat} {sv : Value} {w w1 : World} (op n : Int) (h0 : 0 ≤ op) (h1 : op ≤ 1000) (h2 : 0 ≤ n) (h3 : n ≤ 18446744073709551615) (ho : Only b w w1) (hc : Cur B b m sv w1) :
    Drawn B b m sv 1 w (w1.alloc (.cells #[.int .i64 op, .int .u64 n] 112)) (.slice (some ⟨w1.heap.size, 0, none⟩) 1 1) [(op, n)] :=
  ⟨OwnNodes.low (own_one w1 op n) ho.size, one_ok h0 h1 h2 h3, Nat.le_refl _, Nat.le_refl _, ho.alloc _, hc.alloc _⟩
/-- cells of a list of small numbers that is laid ahead of a choice -/
def nums (l : List Int) : Array Value := (l.map (Value.int .i64)).toArray
theorem nums_at {l : List Int} {lo hi : Int} (h : ∀ x ∈ l, lo ≤ x ∧ x ≤ hi) (w : World) : ∀ i : Nat, i < l.length → ∃ x : Int, (w.alloc (.cells (nums l) 3)).cell? ⟨w.heap.size, i, none⟩ = some (.int .i64 x) ∧ lo ≤ x ∧ x ≤ hi := by
  intro i hi'
  refine ⟨l[i], ?_, h _ (List.getElem_mem hi')⟩
  rw [World.cell?_alloc_new]
  simp [nums, hi']
set_option maxRecDepth 100000 in
set_option maxHeartbeats 2000000 in
theorem number_zero : NumP 0 10 1 := by
  intro B b m sv k vars w hk1 hk hv1 hv5 hc hm
  have GP : Hid (∀ (n : Int) (m' : Nat) (w1 : World), 1 ≤ n → n ≤ 50 → Cur B b m' sv w1 → m' ≤ 9000000 → Calls Tryd.prog 94 #[ptr b, .int .i64 n] w1 fun e w' => ∃ x : Int, (0 ≤ x ∧ x < n) ∧ e = .returned (.int .i64 x) ∧ Only b w1 w' ∧ Cur B b (m' + 2) sv w') := fun n m' w1 h1 h2 hc' hm' => pick_any B b m' sv n h1 (by omega) w1 hc' (by omega)
  have GO : Hid (∀ (n : Int) (m' : Nat) (w1 : World), 1 ≤ n → n ≤ 50 → Cur B b m' sv w1 → m' ≤ 9000000 → Calls Tryd.prog 95 #[ptr b, .int .i64 n] w1 fun e w' => ∃ x : Bool, e = .returned (.bool x) ∧ Only b w1 w' ∧ Cur B b (m' + 2) sv w') := fun n m' w1 h1 h2 hc' hm' => one_any B b m' sv n h1 (by omega) w1 hc' (by omega)
  have GC : Hid (∀ (n : Int) (w1 : World), 0 ≤ n → n ≤ 9 → Calls Tryd.prog 146 #[.int .i64 k, .int .u64 n] w1 fun e w' => e = .returned (.int .u64 (cut k n)) ∧ w' = w1) := fun n w1 h0 h1 => l1Cut_any k (by omega) n h0 (by omega) w1
  have HC0 : Hid _ := hc
  clear hc
  go_enter Tryd.func134, Tryd.ntmps134
  have g2 := GO.out 2 m w (by omega) (by omega) HC0.out (by omega)
  go_wp2_with fail
  refine g2.mono ?_
  rintro e w1 ⟨x, rfl, ho1, hc1⟩
  have HO1 : Hid (Only b w w1) := ho1
  clear g2 ho1
  cases x with
  | true =>
    have g3 := GP.out 9 _ w1 (by omega) (by omega) hc1 (by omega)
    clear hc1
    go_wp2_with fail
    refine g3.mono ?_
    rintro e w2 ⟨y, ⟨hy0, hy1⟩, rfl, ho2, hc2⟩
    have g4 := GC.out y w2 hy0 (by omega)
    have hcb : 0 ≤ cut k y ∧ cut k y ≤ 18446744073709551615 := cut_bd k y hy0 (by omega)
    have HD : Hid _ := drawn_one (B := B) (b := b) (w := w) 1 (cut k y) (by omega) (by omega) hcb.1 hcb.2 (HO1.out.trans ho2) hc2
    clear g3 ho2 hc2 hcb
    generalize cut k y = cy at *
    go_wp2_with fail
    refine g4.mono ?_
    rintro e w3 ⟨rfl, rfl⟩
    clear g4
    go_wp2_with fail
    go_ret
    exact ⟨_, _, rfl, Drawn.more HD.out (by omega) (by omega)⟩
  | false =>
    have g3 := GP.out vars _ w1 (by omega) (by omega) hc1 (by omega)
    clear hc1
    go_wp2_with fail
    refine g3.mono ?_
    rintro e w2 ⟨y, ⟨hy0, hy1⟩, rfl, ho2, hc2⟩
    have HD : Hid _ := drawn_one (B := B) (b := b) (w := w) 2 y (by omega) (by omega) hy0 (by omega) (HO1.out.trans ho2) hc2
    clear g3 ho2 hc2
    go_wp2_with fail
    go_ret
    exact ⟨_, _, rfl, Drawn.more HD.out (by omega) (by omega)⟩
set_option maxRecDepth 100000 in
set_option maxHeartbeats 4000000 in
theorem number_step (d M L : Nat) (hd : d ≤ 100) (hM : M ≤ 1000) (hL : L ≤ 1000) (hL1 : 1 ≤ L) (ih : NumP d M L) : NumP (d + 1) (2 * M + 20) (2 * L + 1) := by
  intro B b m sv k vars w hk1 hk hv1 hv5 hc hm
  have GP : Hid (∀ (n : Int) (m' : Nat) (w1 : World), 1 ≤ n → n ≤ 50 → Cur B b m' sv w1 → m' ≤ 9000000 → Calls Tryd.prog 94 #[ptr b, .int .i64 n] w1 fun e w' => ∃ x : Int, (0 ≤ x ∧ x < n) ∧ e = .returned (.int .i64 x) ∧ Only b w1 w' ∧ Cur B b (m' + 2) sv w') := fun n m' w1 h1 h2 hc' hm' => pick_any B b m' sv n h1 (by omega) w1 hc' (by omega)
  have GO : Hid (∀ (n : Int) (m' : Nat) (w1 : World), 1 ≤ n → n ≤ 50 → Cur B b m' sv w1 → m' ≤ 9000000 → Calls Tryd.prog 95 #[ptr b, .int .i64 n] w1 fun e w' => ∃ x : Bool, e = .returned (.bool x) ∧ Only b w1 w' ∧ Cur B b (m' + 2) sv w') := fun n m' w1 h1 h2 hc' hm' => one_any B b m' sv n h1 (by omega) w1 hc' (by omega)
  have GC : Hid (∀ (n : Int) (w1 : World), 0 ≤ n → n ≤ 9 → Calls Tryd.prog 146 #[.int .i64 k, .int .u64 n] w1 fun e w' => e = .returned (.int .u64 (cut k n)) ∧ w' = w1) := fun n w1 h0 h1 => l1Cut_any k (by omega) n h0 (by omega) w1
  have GA : Hid (∀ (l : List Int) (lo hi : Int) (m' : Nat) (w1 : World), 1 ≤ l.length → l.length ≤ 20 → (∀ x ∈ l, lo ≤ x ∧ x ≤ hi) → Cur B b m' sv w1 → m' ≤ 9000000 → Calls Tryd.prog 132 #[ptr b, .slice (some ⟨w1.heap.size, 0, none⟩) l.length l.length] (w1.alloc (.cells (nums l) 3)) fun e w' => ∃ x : Int, (lo ≤ x ∧ x ≤ hi) ∧ e = .returned (.int .i64 x) ∧ Only b w1 w' ∧ Cur B b (m' + 2) sv w') := by
    intro l lo hi m' w1 h1 h2 h3 hc' hm'
    have hlies := hc'.lies
    refine (among_any B b m' sv w1.heap.size l.length l.length lo hi h1 (by omega) _ (hc'.alloc _) (by omega) (by omega) (by simp) (nums_at h3 w1)).mono ?_
    rintro e w' ⟨x, hx, he, ho, hc2⟩
    exact ⟨x, hx, he, ((Only.refl b w1).alloc _).trans ho, hc2⟩
  have GI : Hid (∀ (m' : Nat) (w1 : World), Cur B b m' sv w1 → m' + M ≤ 5000000 → Calls Tryd.prog 134 #[ptr b, .int .i64 k, .int .i64 vars, .int .i64 (d : Int)] w1 fun e w' => ∃ v t, e = .returned v ∧ Drawn B b (m' + M) sv L w1 w' v t) := fun m' w1 hc' hm' => ih B b m' sv k vars w1 hk1 hk hv1 hv5 hc' hm'
  have HC0 : Hid _ := hc
  have HBW : Hid (b < w.heap.size) := hc.lies
  obtain ⟨i0, hi, hz0, hz1, hz2⟩ := info_parts infoNode
  have hd0 : (((d + 1 : Nat) : Int) == 0) = false := beq_eq_false_iff_ne.2 (by omega)
  have hd1 : ((d + 1 : Nat) : Int) - 1 = (d : Int) := by omega
  have g1 := GO.out 4 m w (by omega) (by omega) hc (by omega)
  generalize ((d + 1 : Nat) : Int) = dd at *
  clear hc ih
  go_enter Tryd.func134, Tryd.ntmps134
  go_wp2_with fail
  refine g1.mono ?_
  rintro e w0 ⟨x0, rfl, ho0, hc0⟩
  clear g1
  have HO0 : Hid (Only b w w0) := ho0
  have HC1 : Hid _ := hc0
  clear ho0 hc0
  cases x0 with
  | true =>
    have g2 := GO.out 2 _ w0 (by omega) (by omega) HC1.out (by omega)
    go_wp2_with fail
    refine g2.mono ?_
    rintro e w1 ⟨x, rfl, ho1, hc1⟩
    have HO1 : Hid (Only b w w1) := (HO0.out.trans ho1)
    clear g2 ho1
    cases x with
    | true =>
      have g3 := GP.out 9 _ w1 (by omega) (by omega) hc1 (by omega)
      clear hc1
      go_wp2_with fail
      refine g3.mono ?_
      rintro e w2 ⟨y, ⟨hy0, hy1⟩, rfl, ho2, hc2⟩
      have g4 := GC.out y w2 hy0 (by omega)
      have hcb : 0 ≤ cut k y ∧ cut k y ≤ 18446744073709551615 := cut_bd k y hy0 (by omega)
      have HD : Hid _ := drawn_one (B := B) (b := b) (w := w) 1 (cut k y) (by omega) (by omega) hcb.1 hcb.2 (HO1.out.trans ho2) hc2
      clear g3 ho2 hc2 hcb
      generalize cut k y = cy at *
      go_wp2_with fail
      refine g4.mono ?_
      rintro e w3 ⟨rfl, rfl⟩
      clear g4
      go_wp2_with fail
      go_ret
      exact ⟨_, _, rfl, Drawn.more HD.out (by omega) (by omega)⟩
    | false =>
      have g3 := GP.out vars _ w1 (by omega) (by omega) hc1 (by omega)
      clear hc1
      go_wp2_with fail
      refine g3.mono ?_
      rintro e w2 ⟨y, ⟨hy0, hy1⟩, rfl, ho2, hc2⟩
      have HD : Hid _ := drawn_one (B := B) (b := b) (w := w) 2 y (by omega) (by omega) hy0 (by omega) (HO1.out.trans ho2) hc2
      clear g3 ho2 hc2
      go_wp2_with fail
      go_ret
      exact ⟨_, _, rfl, Drawn.more HD.out (by omega) (by omega)⟩
  | false =>
    have g2 := GO.out 7 _ w0 (by omega) (by omega) HC1.out (by omega)
    go_wp2_with fail
    refine g2.mono ?_
    rintro e w1 ⟨x1, rfl, ho1, hc1⟩
    clear g2
    have HO1 : Hid (Only b w w1) := HO0.out.trans ho1
    have g3 := GI.out _ w1 hc1 (by omega)
    clear ho1 hc1 HC1 HO0
    cases x1 with
    | true =>
      go_wp2_with fail
      refine g3.mono ?_
      rintro e w2 ⟨v2, t2, rfl, hd2⟩
      have hdx := (hd2.since HO1.out).alloc (.cells #[.int .i64 13, .int .u64 0] 112)
      have HDX : Hid (Drawn B b _ sv L w _ v2 t2) := hdx
      have own1 : (w2.alloc (.cells #[.int .i64 13, .int .u64 0] 112)).ownsRow w.heap.size 112 2 v2 t2.length (flat t2) := hdx.1
      have hl2 : t2.length ≤ 1000 := by have := hdx.2.2.2.1; omega
      have cells9 := one_cells2 w2 13 0
      have HS2 : Hid (w.heap.size ≤ (w2.alloc (.cells #[.int .i64 13, .int .u64 0] 112)).heap.size) := hdx.2.2.2.2.1.size
      clear g3 hd2 hdx
      go_wp2_with (at_builtin; refine wpList_append_own _ rfl _ _ 24 rfl w.heap.size 112 i0 (.agg #[.int .i64 0, .int .u64 0]) 2 16 Tryd.underlying24 hi hz0 hz1 hz2 rfl (by decide) _ _ _ rfl own1 ⟨w2.heap.size, 0, none⟩ 1 1 [.int .i64 13, .int .u64 0] rfl rfl cells9 (flat_one [(13, 0)]) (by unfold maxLen; omega) (by omega) HS2.out ?_)
      intro v7 w7 own7 grow7 _
      have HD7 : Hid (Drawn B b _ sv _ w w7 v7 _) := HDX.out.append HBW.out (ys := [(13, 0)]) own7 grow7 (one_ok (by omega) (by omega) (by omega) (by omega))
      clear own1 own7 grow7 cells9
      go_wp2_with fail
      go_ret
      exact ⟨_, _, rfl, Drawn.more HD7.out (by omega) (by simp; omega)⟩
    | false =>
      go_wp2_with fail
      refine g3.mono ?_
      rintro e w2 ⟨v2, t2, rfl, hd2⟩
      have g4 := GI.out _ w2 hd2.cur (by omega)
      have HD2 : Hid (Drawn B b _ sv L w w2 v2 t2) := hd2.since HO1.out
      clear g3 hd2
      go_wp2_with fail
      refine g4.mono ?_
      rintro e w3 ⟨v3, t3, rfl, hd3⟩
      have hdx := HD2.out.only HBW.out hd3.2.2.2.2.1 hd3.cur
      have HDX : Hid (Drawn B b _ sv L w _ v2 t2) := hdx
      have own1 : w3.ownsRow w.heap.size 112 2 v2 t2.length (flat t2) := hdx.1
      have hl2 : t2.length ≤ 1000 := by have := hdx.2.2.2.1; omega
      have hl3 : t3.length ≤ 1000 := by have := hd3.2.2.2.1; omega
      have HS2 : Hid (w.heap.size ≤ w3.heap.size) := hdx.2.2.2.2.1.size
      have HK3 : Hid (∀ x ∈ t3, NdOk x) := hd3.2.1
      have HL3 : Hid (t3.length ≤ L) := hd3.2.2.2.1
      have HL2 : Hid (t2.length ≤ L) := hdx.2.2.2.1
      have HLX : Hid (L + t3.length ≤ 2 * L) := (by have := hd3.2.2.2.1; omega : L + t3.length ≤ 2 * L)
      have hn3 : NodesAt w3 v3 t3 := nodes_of_own hd3.2.1 (by omega) hd3.1
      rcases hn3.2.2 with ⟨h, _⟩ | ⟨pb, po, pc, rfl, hplt, hpc⟩
      · have := hd3.2.2.1
        rw [h] at this
        simp at this
      have cells6 : ∀ (j : Nat) (x : Value), (flat t3)[j]? = some x → w3.cell? ((⟨pb, po, none⟩ : Addr).add j) = some x := flat_from hpc
      clear g4 hd3 hdx hn3 hpc HD2
      go_wp2_with (at_builtin; refine wpList_append_own _ rfl _ _ 24 rfl w.heap.size 112 i0 (.agg #[.int .i64 0, .int .u64 0]) 2 16 Tryd.underlying24 hi hz0 hz1 hz2 rfl (by decide) _ _ _ rfl own1 ⟨pb, po, none⟩ t3.length pc (flat t3) rfl (flat_len t3) cells6 (flat_one t3) (by unfold maxLen; omega) (by omega) HS2.out ?_)
      intro v7 w7 own7 grow7 _
      have hd7 := HDX.out.append HBW.out (ys := t3) own7 grow7 HK3.out
      have HD7 : Hid (Drawn B b _ sv _ w w7 v7 _) := hd7
      have g5 := GA.out [3, 3, 3, 4, 4, 5, 8, 9, 10] 3 10 _ w7 (by simp) (by simp) (by decide) hd7.cur (by omega)
      clear own1 own7 grow7 cells6 hd7 HDX
      go_wp2_with fail
      refine g5.mono ?_
      rintro e w8 ⟨op8, hop8, rfl, ho8, hc8⟩
      have HD8 : Hid (Drawn B b _ sv _ w w8 v7 (t2 ++ t3)) := HD7.out.only HBW.out ho8 hc8
      have g6 := GO.out 6 _ w8 (by omega) (by omega) hc8 (by omega)
      clear g5 ho8 hc8 HD7
      go_wp2_with fail
      refine g6.mono ?_
      rintro e w9 ⟨x9, rfl, ho9, hc9⟩
      have HD9 : Hid (Drawn B b _ sv _ w w9 v7 (t2 ++ t3)) := HD8.out.only HBW.out ho9 hc9
      have HC9 : Hid _ := hc9
      clear g6 ho9 hc9 HD8
      cases x9 with
      | true =>
        have g7 := GA.out [6, 7, 11, 12] 6 12 _ w9 (by simp) (by simp) (by decide) HC9.out (by omega)
        go_wp2_with fail
        refine g7.mono ?_
        rintro e w10 ⟨op10, hop10, rfl, ho10, hc10⟩
        have HDA : Hid (Drawn B b _ sv _ w w10 v7 (t2 ++ t3)) := HD9.out.only HBW.out ho10 hc10
        clear g7 ho10 hc10 HD9
        have hdy := HDA.out.alloc (.cells #[.int .i64 op10, .int .u64 0] 112)
        have HDY : Hid (Drawn B b _ sv _ w (w10.alloc (.cells #[.int .i64 op10, .int .u64 0] 112)) v7 (t2 ++ t3)) := hdy
        have hlr : (t2 ++ t3).length ≤ 2000 := by
          simp only [List.length_append]
          omega
        have HLR : Hid (t2.length + t3.length ≤ 2 * L) := (by have := HL2.out; have := HL3.out; omega : t2.length + t3.length ≤ 2 * L)
        generalize t2 ++ t3 = R at *
        have own2 : (w10.alloc (.cells #[.int .i64 op10, .int .u64 0] 112)).ownsRow w.heap.size 112 2 v7 R.length (flat R) := hdy.1
        have cellsA := one_cells2 w10 op10 0
        have HSA : Hid (w.heap.size ≤ (w10.alloc (.cells #[.int .i64 op10, .int .u64 0] 112)).heap.size) := hdy.2.2.2.2.1.size
        clear hdy
        go_wp2_with (at_builtin; refine wpList_append_own _ rfl _ _ 24 rfl w.heap.size 112 i0 (.agg #[.int .i64 0, .int .u64 0]) 2 16 Tryd.underlying24 hi hz0 hz1 hz2 rfl (by decide) _ _ _ rfl own2 ⟨w10.heap.size, 0, none⟩ 1 1 [.int .i64 op10, .int .u64 0] rfl rfl cellsA (flat_one [(op10, 0)]) (by unfold maxLen; omega) (by omega) HSA.out ?_)
        intro vb wb ownb growb _
        have HDB : Hid (Drawn B b _ sv _ w wb vb _) := HDY.out.append HBW.out (ys := [(op10, 0)]) ownb growb (one_ok (by omega) (by omega) (by omega) (by omega))
        clear own2 ownb growb cellsA
        go_wp2_with fail
        go_ret
        exact ⟨_, _, rfl, Drawn.more HDB.out (by omega) (by have := HLX.out; simp only [List.length_singleton]; omega)⟩
      | false =>
        have hdy := HD9.out.alloc (.cells #[.int .i64 op8, .int .u64 0] 112)
        have HDY : Hid (Drawn B b _ sv _ w (w9.alloc (.cells #[.int .i64 op8, .int .u64 0] 112)) v7 (t2 ++ t3)) := hdy
        have hlr : (t2 ++ t3).length ≤ 2000 := by
          simp only [List.length_append]
          omega
        have HLR : Hid (t2.length + t3.length ≤ 2 * L) := (by have := HL2.out; have := HL3.out; omega : t2.length + t3.length ≤ 2 * L)
        generalize t2 ++ t3 = R at *
        have own2 : (w9.alloc (.cells #[.int .i64 op8, .int .u64 0] 112)).ownsRow w.heap.size 112 2 v7 R.length (flat R) := hdy.1
        have cellsA := one_cells2 w9 op8 0
        have HSA : Hid (w.heap.size ≤ (w9.alloc (.cells #[.int .i64 op8, .int .u64 0] 112)).heap.size) := hdy.2.2.2.2.1.size
        clear hdy
        go_wp2_with (at_builtin; refine wpList_append_own _ rfl _ _ 24 rfl w.heap.size 112 i0 (.agg #[.int .i64 0, .int .u64 0]) 2 16 Tryd.underlying24 hi hz0 hz1 hz2 rfl (by decide) _ _ _ rfl own2 ⟨w9.heap.size, 0, none⟩ 1 1 [.int .i64 op8, .int .u64 0] rfl rfl cellsA (flat_one [(op8, 0)]) (by unfold maxLen; omega) (by omega) HSA.out ?_)
        intro vb wb ownb growb _
        have HDB : Hid (Drawn B b _ sv _ w wb vb _) := HDY.out.append HBW.out (ys := [(op8, 0)]) ownb growb (one_ok (by omega) (by omega) (by omega) (by omega))
        clear own2 ownb growb cellsA
        go_wp2_with fail
        go_ret
        exact ⟨_, _, rfl, Drawn.more HDB.out (by omega) (by have := HLX.out; simp only [List.length_singleton]; omega)⟩
end Go.Proofs.YtjbfembblgkakaaDoor
