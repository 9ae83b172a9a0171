/-
  The drawing of terms (the model's number, asked, term, state): some nodes of their own memory, as many as said at most; the cursor good still, nothing else turned.
  The drawing of conditions (the model's asked).
  The drawing of a term with its width and its variables, and of a state (the model's term and state).
  The drawing of a state (the model's state); what the laws do besides: whether lists are the same, whether bytes are too many, a number out of bytes.
  A slice of bytes that came in, as the drawing of choices takes it.
  What the laws of terms draw out of bytes.
  Plain mathematics for trees: the tree that is folded is good, no longer, of the same kind, comes to the same, has the same variables and is folded already; what is put for variables does as their values do.
  Plain mathematics for trees: a list of nodes is the row of one good tree alone; what folded, joined, turned and put terms come to.
  The program's ValueOf.
  The walk of the exact law of VarsIn, out of what the program's own function does.
  The variables of a tree: the program's nameVars, hasVars and VarsIn.
  The program's hasVars and VarsIn.
  The walk of the exact law of FoldTerm, out of what the program's own function does.
  A tree that is folded: the program's hasVars, leafOf, fold and FoldTerm.
  The program's leafOf, fold and FoldTerm.
  The program's FoldTerm.
  The program's GoodTerm and KindOf.
-/
import Derived.Test.YtkmgcgmeibhnmaaDoorDraw
import Derived.Test.YtkmgcgmeibhnmaaDoorTurn
import Derived.Test.YtkmgcgmeibhnmaaDoorFold2
import Derived.Test.YtkmgcgmeibhnmaaDoorILay
import Derived.Test.YtkmgcgmeibhnmaaDoorU64
import Derived.Test.YtkmgcgmeibhnmaaDoorVars
import Derived.Test.YtkmgcgmeibhnmaaDoorMarks
import Derived.Test.YtkmgcgmeibhnmaaDoorTable
import Derived.ShutString
import Derived.ChangeOld
import Derived.Below
import Derived.OpenVars
import Derived.Test.YtkmgcgmeibhnmaaDoorTreeM
import Derived.Test.YtkmgcgmeibhnmaaDoorIVal
import Derived.Test.YtkmgcgmeibhnmaaDoorLTurn
import Derived.Test.YtkmgcgmeibhnmaaDoorILay2
import Derived.Test.YtkmgcgmeibhnmaaDoorFold5
import Derived.Test.YtkmgcgmeibhnmaaDoorIRoot
namespace Go.Proofs.YtkmgcgmeibhnmaaDoor
open Go Go.RowKit
open M
set_option linter.unusedVariables false

/-- what is drawn: nodes that are owned since w, the cursor at b good, nothing else turned -/
def Drawn (B b m : Nat) (sv : Value) (L : Nat) (w w' : World) (v : Value) (t : List Nd) : Prop :=
  OwnNodes w' w.heap.size v t ∧ (∀ x ∈ t, NdOk x) ∧ 1 ≤ t.length ∧ t.length ≤ L ∧ Only b w w' ∧ Cur B b m sv w'
/-- what number does at a depth -/
def NumP (d M L : Nat) : Prop := ∀ (B b m : Nat) (sv : Value) (k : Nat) (vars : Int) (w : World), 1 ≤ k → k ≤ 64 → 1 ≤ vars → vars ≤ 5 → Cur B b m sv w → m + M ≤ 5000000 →
  Calls Tryd.prog 57 #[ptr b, .int .i64 k, .int .i64 vars, .int .i64 (d : Int)] w fun e w' => ∃ v t, e = .returned v ∧ Drawn B b (m + M) sv L w w' v t
theorem own_one (w : World) (op n : Int) : OwnNodes (w.alloc (.cells #[.int .i64 op, .int .u64 n] 91)) w.heap.size (.slice (some ⟨w.heap.size, 0, none⟩) 1 1) [(op, n)] := by
  refine ⟨rfl, Or.inr ⟨w.heap.size, 1, #[.int .i64 op, .int .u64 n], rfl, Nat.le_refl _, ?_, Nat.le_refl _, by unfold maxLen; omega, rfl, rfl⟩⟩
  show (w.heap.push _)[w.heap.size]? = _
  simp
theorem one_ok {op n : Int} (h0 : 0 ≤ op) (h1 : op ≤ 1000) (h2 : 0 ≤ n) (h3 : n ≤ 18446744073709551615) : ∀ x ∈ [((op, n) : Nd)], NdOk x := by
  intro x hx
  simp at hx
  subst hx
  exact ⟨by simp only; omega, by simp only; omega, h2, h3⟩
/-- what is owned from B on is owned still where nothing but block b, below B, has turned -/
theorem own_keeps {w w' : World} {B b : Nat} {e : TypeId} {s : Nat} {v : Value} {n : Nat} {xs : List Value} (h : w.ownsRow B e s v n xs) (hb : b < B) (ho : Only b w w') : w'.ownsRow B e s v n xs := by
  obtain ⟨h1, h2⟩ := h
  refine ⟨h1, ?_⟩
  rcases h2 with h2 | ⟨g, cap, cur, hv, hg, hh, r⟩
  · exact Or.inl h2
  · have hlt : g < w.heap.size := (Array.getElem?_eq_some_iff.1 hh).1
    exact Or.inr ⟨g, cap, cur, hv, hg, by rw [ho.block g (by omega) hlt]; exact hh, r⟩
theorem Drawn.only {B b m m' L : Nat} {sv v : Value} {w w1 w2 : World} {t : List Nd} (hd : Drawn B b m sv L w w1 v t) (hb : b < w.heap.size) (ho : Only b w1 w2) (hc : Cur B b m' sv w2) : Drawn B b m' sv L w w2 v t := by
  obtain ⟨h1, h2, h3, h4, h5, h6⟩ := hd
  exact ⟨own_keeps h1 hb ho, h2, h3, h4, h5.trans ho, hc⟩
theorem Drawn.alloc {B b m L : Nat} {sv v : Value} {w w1 : World} {t : List Nd} (hd : Drawn B b m sv L w w1 v t) (o : Obj) : Drawn B b m sv L w (w1.alloc o) v t := by
  obtain ⟨h1, h2, h3, h4, h5, h6⟩ := hd
  exact ⟨World.ownsRow.alloc h1 o, h2, h3, h4, h5.alloc o, h6.alloc o⟩
theorem Drawn.append {B b m L : Nat} {sv v v7 : Value} {w w1 w7 : World} {t ys : List Nd} (hd : Drawn B b m sv L w w1 v t) (hb : b < w.heap.size) (own7 : w7.ownsRow w.heap.size 91 2 v7 (t.length + ys.length) (flat t ++ flat ys)) (grow : w1.grownBy w7 v.ownBlock) (hok : ∀ x ∈ ys, NdOk x) : Drawn B b m sv (L + ys.length) w w7 v7 (t ++ ys) := by
  obtain ⟨h1, h2, h3, h4, h5, h6⟩ := hd
  refine ⟨?_, ?_, by simp; omega, by simp; omega, ?_, ?_⟩
  · unfold OwnNodes
    rw [flat_append, List.length_append]
    exact own7
  · intro x hx
    rcases List.mem_append.1 hx with hx | hx
    · exact h2 x hx
    · exact hok x hx
  · have hs := h5.size
    exact ⟨grow.os.trans h5.os, grow.tape.trans h5.tape, grow.output.trans h5.output, Nat.le_trans h5.size grow.size, fun k hk hks => by
      rw [grow.block k (by omega) (fun e => by have := (World.ownsRow.lt h1 k e.symm).1; omega)]
      exact h5.block k hk hks⟩
  · refine h6.below ⟨grow.os, grow.tape, grow.output, grow.size, fun k hk => grow.block k ?_ (fun e => ?_)⟩
    · have := h6.lies
      omega
    · have := (World.ownsRow.lt h1 k e.symm).1
      omega
theorem Drawn.more {B b m m' L L' : Nat} {sv v : Value} {w w1 : World} {t : List Nd} (hd : Drawn B b m sv L w w1 v t) (hm : m ≤ m') (hL : L ≤ L') : Drawn B b m' sv L' w w1 v t := by
  obtain ⟨h1, h2, h3, h4, h5, h6⟩ := hd
  exact ⟨h1, h2, h3, Nat.le_trans h4 hL, h5, h6.more hm⟩
theorem Drawn.since {B b m L : Nat} {sv v : Value} {w w0 w1 : World} {t : List Nd} (hd : Drawn B b m sv L w0 w1 v t) (ho : Only b w w0) : Drawn B b m sv L w w1 v t := by
  obtain ⟨h1, h2, h3, h4, h5, h6⟩ := hd
  exact ⟨OwnNodes.low h1 ho.size, h2, h3, h4, ho.trans h5, h6⟩
theorem Drawn.cur {B b m L : Nat} {sv v : Value} {w w1 : World} {t : List Nd} (hd : Drawn B b m sv L w w1 v t) : Cur B b m sv w1 := hd.2.2.2.2.2
theorem drawn_one {B b m : Nat} {sv : Value} {w w1 : World} (op n : Int) (h0 : 0 ≤ op) (h1 : op ≤ 1000) (h2 : 0 ≤ n) (h3 : n ≤ 18446744073709551615) (ho : Only b w w1) (hc : Cur B b m sv w1) :
    Drawn B b m sv 1 w (w1.alloc (.cells #[.int .i64 op, .int .u64 n] 91)) (.slice (some ⟨w1.heap.size, 0, none⟩) 1 1) [(op, n)] :=
  ⟨OwnNodes.low (own_one w1 op n) ho.size, one_ok h0 h1 h2 h3, Nat.le_refl _, Nat.le_refl _, ho.alloc _, hc.alloc _⟩
/-- cells of a list of small numbers that is laid ahead of a choice -/
def nums (l : List Int) : Array Value := (l.map (Value.int .i64)).toArray
theorem nums_at {l : List Int} {lo hi : Int} (h : ∀ x ∈ l, lo ≤ x ∧ x ≤ hi) (w : World) : ∀ i : Nat, i < l.length → ∃ x : Int, (w.alloc (.cells (nums l) 3)).cell? ⟨w.heap.size, i, none⟩ = some (.int .i64 x) ∧ lo ≤ x ∧ x ≤ hi := by
  intro i hi'
  refine ⟨l[i], ?_, h _ (List.getElem_mem hi')⟩
  rw [World.cell?_alloc_new]
  simp [nums, hi']
set_option maxRecDepth 100000 in
set_option maxHeartbeats 2000000 in
theorem number_zero : NumP 0 10 1 := by
  intro B b m sv k vars w hk1 hk hv1 hv5 hc hm
  have GP : Hid (∀ (n : Int) (m' : Nat) (w1 : World), 1 ≤ n → n ≤ 50 → Cur B b m' sv w1 → m' ≤ 9000000 → Calls Tryd.prog 77 #[ptr b, .int .i64 n] w1 fun e w' => ∃ x : Int, (0 ≤ x ∧ x < n) ∧ e = .returned (.int .i64 x) ∧ Only b w1 w' ∧ Cur B b (m' + 2) sv w') := fun n m' w1 h1 h2 hc' hm' => pick_any B b m' sv n h1 (by omega) w1 hc' (by omega)
  have GO : Hid (∀ (n : Int) (m' : Nat) (w1 : World), 1 ≤ n → n ≤ 50 → Cur B b m' sv w1 → m' ≤ 9000000 → Calls Tryd.prog 59 #[ptr b, .int .i64 n] w1 fun e w' => ∃ x : Bool, e = .returned (.bool x) ∧ Only b w1 w' ∧ Cur B b (m' + 2) sv w') := fun n m' w1 h1 h2 hc' hm' => one_any B b m' sv n h1 (by omega) w1 hc' (by omega)
  have GC : Hid (∀ (n : Int) (w1 : World), 0 ≤ n → n ≤ 9 → Calls Tryd.prog 86 #[.int .i64 k, .int .u64 n] w1 fun e w' => e = .returned (.int .u64 (cut k n)) ∧ w' = w1) := fun n w1 h0 h1 => l1Cut_any k (by omega) n h0 (by omega) w1
  have HC0 : Hid _ := hc
  clear hc
  go_enter Tryd.func57, Tryd.ntmps57
  have g2 := GO.out 2 m w (by omega) (by omega) HC0.out (by omega)
  go_wp2_with fail
  refine g2.mono ?_
  rintro e w1 ⟨x, rfl, ho1, hc1⟩
  have HO1 : Hid (Only b w w1) := ho1
  clear g2 ho1
  cases x with
  | true =>
    have g3 := GP.out 9 _ w1 (by omega) (by omega) hc1 (by omega)
    clear hc1
    go_wp2_with fail
    refine g3.mono ?_
    rintro e w2 ⟨y, ⟨hy0, hy1⟩, rfl, ho2, hc2⟩
    have g4 := GC.out y w2 hy0 (by omega)
    have hcb : 0 ≤ cut k y ∧ cut k y ≤ 18446744073709551615 := cut_bd k y hy0 (by omega)
    have HD : Hid _ := drawn_one (B := B) (b := b) (w := w) 1 (cut k y) (by omega) (by omega) hcb.1 hcb.2 (HO1.out.trans ho2) hc2
    clear g3 ho2 hc2 hcb
    generalize cut k y = cy at *
    go_wp2_with fail
    refine g4.mono ?_
    rintro e w3 ⟨rfl, rfl⟩
    clear g4
    go_wp2_with fail
    go_ret
    exact ⟨_, _, rfl, Drawn.more HD.out (by omega) (by omega)⟩
  | false =>
    have g3 := GP.out vars _ w1 (by omega) (by omega) hc1 (by omega)
    clear hc1
    go_wp2_with fail
    refine g3.mono ?_
    rintro e w2 ⟨y, ⟨hy0, hy1⟩, rfl, ho2, hc2⟩
    have HD : Hid _ := drawn_one (B := B) (b := b) (w := w) 2 y (by omega) (by omega) hy0 (by omega) (HO1.out.trans ho2) hc2
    clear g3 ho2 hc2
    go_wp2_with fail
    go_ret
    exact ⟨_, _, rfl, Drawn.more HD.out (by omega) (by omega)⟩
set_option maxRecDepth 100000 in
set_option maxHeartbeats 4000000 in
theorem number_step (d M L : Nat) (hd : d ≤ 100) (hM : M ≤ 1000) (hL : L ≤ 1000) (hL1 : 1 ≤ L) (ih : NumP d M L) : NumP (d + 1) (2 * M + 20) (2 * L + 1) := by
  intro B b m sv k vars w hk1 hk hv1 hv5 hc hm
  have GP : Hid (∀ (n : Int) (m' : Nat) (w1 : World), 1 ≤ n → n ≤ 50 → Cur B b m' sv w1 → m' ≤ 9000000 → Calls Tryd.prog 77 #[ptr b, .int .i64 n] w1 fun e w' => ∃ x : Int, (0 ≤ x ∧ x < n) ∧ e = .returned (.int .i64 x) ∧ Only b w1 w' ∧ Cur B b (m' + 2) sv w') := fun n m' w1 h1 h2 hc' hm' => pick_any B b m' sv n h1 (by omega) w1 hc' (by omega)
  have GO : Hid (∀ (n : Int) (m' : Nat) (w1 : World), 1 ≤ n → n ≤ 50 → Cur B b m' sv w1 → m' ≤ 9000000 → Calls Tryd.prog 59 #[ptr b, .int .i64 n] w1 fun e w' => ∃ x : Bool, e = .returned (.bool x) ∧ Only b w1 w' ∧ Cur B b (m' + 2) sv w') := fun n m' w1 h1 h2 hc' hm' => one_any B b m' sv n h1 (by omega) w1 hc' (by omega)
  have GC : Hid (∀ (n : Int) (w1 : World), 0 ≤ n → n ≤ 9 → Calls Tryd.prog 86 #[.int .i64 k, .int .u64 n] w1 fun e w' => e = .returned (.int .u64 (cut k n)) ∧ w' = w1) := fun n w1 h0 h1 => l1Cut_any k (by omega) n h0 (by omega) w1
  have GA : Hid (∀ (l : List Int) (lo hi : Int) (m' : Nat) (w1 : World), 1 ≤ l.length → l.length ≤ 20 → (∀ x ∈ l, lo ≤ x ∧ x ≤ hi) → Cur B b m' sv w1 → m' ≤ 9000000 → Calls Tryd.prog 83 #[ptr b, .slice (some ⟨w1.heap.size, 0, none⟩) l.length l.length] (w1.alloc (.cells (nums l) 3)) fun e w' => ∃ x : Int, (lo ≤ x ∧ x ≤ hi) ∧ e = .returned (.int .i64 x) ∧ Only b w1 w' ∧ Cur B b (m' + 2) sv w') := by
    intro l lo hi m' w1 h1 h2 h3 hc' hm'
    have hlies := hc'.lies
    refine (among_any B b m' sv w1.heap.size l.length l.length lo hi h1 (by omega) _ (hc'.alloc _) (by omega) (by omega) (by simp) (nums_at h3 w1)).mono ?_
    rintro e w' ⟨x, hx, he, ho, hc2⟩
    exact ⟨x, hx, he, ((Only.refl b w1).alloc _).trans ho, hc2⟩
  have GI : Hid (∀ (m' : Nat) (w1 : World), Cur B b m' sv w1 → m' + M ≤ 5000000 → Calls Tryd.prog 57 #[ptr b, .int .i64 k, .int .i64 vars, .int .i64 (d : Int)] w1 fun e w' => ∃ v t, e = .returned v ∧ Drawn B b (m' + M) sv L w1 w' v t) := fun m' w1 hc' hm' => ih B b m' sv k vars w1 hk1 hk hv1 hv5 hc' hm'
  have HC0 : Hid _ := hc
  have HBW : Hid (b < w.heap.size) := hc.lies
  obtain ⟨i0, hi, hz0, hz1, hz2⟩ := info_parts infoNode
  have hd0 : (((d + 1 : Nat) : Int) == 0) = false := beq_eq_false_iff_ne.2 (by omega)
  have hd1 : ((d + 1 : Nat) : Int) - 1 = (d : Int) := by omega
  have g1 := GO.out 4 m w (by omega) (by omega) hc (by omega)
  generalize ((d + 1 : Nat) : Int) = dd at *
  clear hc ih
  go_enter Tryd.func57, Tryd.ntmps57
  go_wp2_with fail
  refine g1.mono ?_
  rintro e w0 ⟨x0, rfl, ho0, hc0⟩
  clear g1
  have HO0 : Hid (Only b w w0) := ho0
  have HC1 : Hid _ := hc0
  clear ho0 hc0
  cases x0 with
  | true =>
    have g2 := GO.out 2 _ w0 (by omega) (by omega) HC1.out (by omega)
    go_wp2_with fail
    refine g2.mono ?_
    rintro e w1 ⟨x, rfl, ho1, hc1⟩
    have HO1 : Hid (Only b w w1) := (HO0.out.trans ho1)
    clear g2 ho1
    cases x with
    | true =>
      have g3 := GP.out 9 _ w1 (by omega) (by omega) hc1 (by omega)
      clear hc1
      go_wp2_with fail
      refine g3.mono ?_
      rintro e w2 ⟨y, ⟨hy0, hy1⟩, rfl, ho2, hc2⟩
      have g4 := GC.out y w2 hy0 (by omega)
      have hcb : 0 ≤ cut k y ∧ cut k y ≤ 18446744073709551615 := cut_bd k y hy0 (by omega)
      have HD : Hid _ := drawn_one (B := B) (b := b) (w := w) 1 (cut k y) (by omega) (by omega) hcb.1 hcb.2 (HO1.out.trans ho2) hc2
      clear g3 ho2 hc2 hcb
      generalize cut k y = cy at *
      go_wp2_with fail
      refine g4.mono ?_
      rintro e w3 ⟨rfl, rfl⟩
      clear g4
      go_wp2_with fail
      go_ret
      exact ⟨_, _, rfl, Drawn.more HD.out (by omega) (by omega)⟩
    | false =>
      have g3 := GP.out vars _ w1 (by omega) (by omega) hc1 (by omega)
      clear hc1
      go_wp2_with fail
      refine g3.mono ?_
      rintro e w2 ⟨y, ⟨hy0, hy1⟩, rfl, ho2, hc2⟩
      have HD : Hid _ := drawn_one (B := B) (b := b) (w := w) 2 y (by omega) (by omega) hy0 (by omega) (HO1.out.trans ho2) hc2
      clear g3 ho2 hc2
      go_wp2_with fail
      go_ret
      exact ⟨_, _, rfl, Drawn.more HD.out (by omega) (by omega)⟩
  | false =>
    have g2 := GO.out 7 _ w0 (by omega) (by omega) HC1.out (by omega)
    go_wp2_with fail
    refine g2.mono ?_
    rintro e w1 ⟨x1, rfl, ho1, hc1⟩
    clear g2
    have HO1 : Hid (Only b w w1) := HO0.out.trans ho1
    have g3 := GI.out _ w1 hc1 (by omega)
    clear ho1 hc1 HC1 HO0
    cases x1 with
    | true =>
      go_wp2_with fail
      refine g3.mono ?_
      rintro e w2 ⟨v2, t2, rfl, hd2⟩
      have hdx := (hd2.since HO1.out).alloc (.cells #[.int .i64 13, .int .u64 0] 91)
      have HDX : Hid (Drawn B b _ sv L w _ v2 t2) := hdx
      have own1 : (w2.alloc (.cells #[.int .i64 13, .int .u64 0] 91)).ownsRow w.heap.size 91 2 v2 t2.length (flat t2) := hdx.1
      have hl2 : t2.length ≤ 1000 := by have := hdx.2.2.2.1; omega
      have cells9 := one_cells2 w2 13 0
      have HS2 : Hid (w.heap.size ≤ (w2.alloc (.cells #[.int .i64 13, .int .u64 0] 91)).heap.size) := hdx.2.2.2.2.1.size
      clear g3 hd2 hdx
      go_wp2_with (at_builtin; refine wpList_append_own _ rfl _ _ 24 rfl w.heap.size 91 i0 (.agg #[.int .i64 0, .int .u64 0]) 2 16 Tryd.underlying24 hi hz0 hz1 hz2 rfl (by decide) _ _ _ rfl own1 ⟨w2.heap.size, 0, none⟩ 1 1 [.int .i64 13, .int .u64 0] rfl rfl cells9 (flat_one [(13, 0)]) (by unfold maxLen; omega) (by omega) HS2.out ?_)
      intro v7 w7 own7 grow7 _
      have HD7 : Hid (Drawn B b _ sv _ w w7 v7 _) := HDX.out.append HBW.out (ys := [(13, 0)]) own7 grow7 (one_ok (by omega) (by omega) (by omega) (by omega))
      clear own1 own7 grow7 cells9
      go_wp2_with fail
      go_ret
      exact ⟨_, _, rfl, Drawn.more HD7.out (by omega) (by simp; omega)⟩
    | false =>
      go_wp2_with fail
      refine g3.mono ?_
      rintro e w2 ⟨v2, t2, rfl, hd2⟩
      have g4 := GI.out _ w2 hd2.cur (by omega)
      have HD2 : Hid (Drawn B b _ sv L w w2 v2 t2) := hd2.since HO1.out
      clear g3 hd2
      go_wp2_with fail
      refine g4.mono ?_
      rintro e w3 ⟨v3, t3, rfl, hd3⟩
      have hdx := HD2.out.only HBW.out hd3.2.2.2.2.1 hd3.cur
      have HDX : Hid (Drawn B b _ sv L w _ v2 t2) := hdx
      have own1 : w3.ownsRow w.heap.size 91 2 v2 t2.length (flat t2) := hdx.1
      have hl2 : t2.length ≤ 1000 := by have := hdx.2.2.2.1; omega
      have hl3 : t3.length ≤ 1000 := by have := hd3.2.2.2.1; omega
      have HS2 : Hid (w.heap.size ≤ w3.heap.size) := hdx.2.2.2.2.1.size
      have HK3 : Hid (∀ x ∈ t3, NdOk x) := hd3.2.1
      have HL3 : Hid (t3.length ≤ L) := hd3.2.2.2.1
      have HL2 : Hid (t2.length ≤ L) := hdx.2.2.2.1
      have HLX : Hid (L + t3.length ≤ 2 * L) := (by have := hd3.2.2.2.1; omega : L + t3.length ≤ 2 * L)
      have hn3 : NodesAt w3 v3 t3 := nodes_of_own hd3.2.1 (by omega) hd3.1
      rcases hn3.2.2 with ⟨h, _⟩ | ⟨pb, po, pc, rfl, hplt, hpc⟩
      · have := hd3.2.2.1
        rw [h] at this
        simp at this
      have cells6 : ∀ (j : Nat) (x : Value), (flat t3)[j]? = some x → w3.cell? ((⟨pb, po, none⟩ : Addr).add j) = some x := flat_from hpc
      clear g4 hd3 hdx hn3 hpc HD2
      go_wp2_with (at_builtin; refine wpList_append_own _ rfl _ _ 24 rfl w.heap.size 91 i0 (.agg #[.int .i64 0, .int .u64 0]) 2 16 Tryd.underlying24 hi hz0 hz1 hz2 rfl (by decide) _ _ _ rfl own1 ⟨pb, po, none⟩ t3.length pc (flat t3) rfl (flat_len t3) cells6 (flat_one t3) (by unfold maxLen; omega) (by omega) HS2.out ?_)
      intro v7 w7 own7 grow7 _
      have hd7 := HDX.out.append HBW.out (ys := t3) own7 grow7 HK3.out
      have HD7 : Hid (Drawn B b _ sv _ w w7 v7 _) := hd7
      have g5 := GA.out [3, 3, 3, 4, 4, 5, 8, 9, 10] 3 10 _ w7 (by simp) (by simp) (by decide) hd7.cur (by omega)
      clear own1 own7 grow7 cells6 hd7 HDX
      go_wp2_with fail
      refine g5.mono ?_
      rintro e w8 ⟨op8, hop8, rfl, ho8, hc8⟩
      have HD8 : Hid (Drawn B b _ sv _ w w8 v7 (t2 ++ t3)) := HD7.out.only HBW.out ho8 hc8
      have g6 := GO.out 6 _ w8 (by omega) (by omega) hc8 (by omega)
      clear g5 ho8 hc8 HD7
      go_wp2_with fail
      refine g6.mono ?_
      rintro e w9 ⟨x9, rfl, ho9, hc9⟩
      have HD9 : Hid (Drawn B b _ sv _ w w9 v7 (t2 ++ t3)) := HD8.out.only HBW.out ho9 hc9
      have HC9 : Hid _ := hc9
      clear g6 ho9 hc9 HD8
      cases x9 with
      | true =>
        have g7 := GA.out [6, 7, 11, 12] 6 12 _ w9 (by simp) (by simp) (by decide) HC9.out (by omega)
        go_wp2_with fail
        refine g7.mono ?_
        rintro e w10 ⟨op10, hop10, rfl, ho10, hc10⟩
        have HDA : Hid (Drawn B b _ sv _ w w10 v7 (t2 ++ t3)) := HD9.out.only HBW.out ho10 hc10
        clear g7 ho10 hc10 HD9
        have hdy := HDA.out.alloc (.cells #[.int .i64 op10, .int .u64 0] 91)
        have HDY : Hid (Drawn B b _ sv _ w (w10.alloc (.cells #[.int .i64 op10, .int .u64 0] 91)) v7 (t2 ++ t3)) := hdy
        have hlr : (t2 ++ t3).length ≤ 2000 := by
          simp only [List.length_append]
          omega
        have HLR : Hid (t2.length + t3.length ≤ 2 * L) := (by have := HL2.out; have := HL3.out; omega : t2.length + t3.length ≤ 2 * L)
        generalize t2 ++ t3 = R at *
        have own2 : (w10.alloc (.cells #[.int .i64 op10, .int .u64 0] 91)).ownsRow w.heap.size 91 2 v7 R.length (flat R) := hdy.1
        have cellsA := one_cells2 w10 op10 0
        have HSA : Hid (w.heap.size ≤ (w10.alloc (.cells #[.int .i64 op10, .int .u64 0] 91)).heap.size) := hdy.2.2.2.2.1.size
        clear hdy
        go_wp2_with (at_builtin; refine wpList_append_own _ rfl _ _ 24 rfl w.heap.size 91 i0 (.agg #[.int .i64 0, .int .u64 0]) 2 16 Tryd.underlying24 hi hz0 hz1 hz2 rfl (by decide) _ _ _ rfl own2 ⟨w10.heap.size, 0, none⟩ 1 1 [.int .i64 op10, .int .u64 0] rfl rfl cellsA (flat_one [(op10, 0)]) (by unfold maxLen; omega) (by omega) HSA.out ?_)
        intro vb wb ownb growb _
        have HDB : Hid (Drawn B b _ sv _ w wb vb _) := HDY.out.append HBW.out (ys := [(op10, 0)]) ownb growb (one_ok (by omega) (by omega) (by omega) (by omega))
        clear own2 ownb growb cellsA
        go_wp2_with fail
        go_ret
        exact ⟨_, _, rfl, Drawn.more HDB.out (by omega) (by have := HLX.out; simp only [List.length_singleton]; omega)⟩
      | false =>
        have hdy := HD9.out.alloc (.cells #[.int .i64 op8, .int .u64 0] 91)
        have HDY : Hid (Drawn B b _ sv _ w (w9.alloc (.cells #[.int .i64 op8, .int .u64 0] 91)) v7 (t2 ++ t3)) := hdy
        have hlr : (t2 ++ t3).length ≤ 2000 := by
          simp only [List.length_append]
          omega
        have HLR : Hid (t2.length + t3.length ≤ 2 * L) := (by have := HL2.out; have := HL3.out; omega : t2.length + t3.length ≤ 2 * L)
        generalize t2 ++ t3 = R at *
        have own2 : (w9.alloc (.cells #[.int .i64 op8, .int .u64 0] 91)).ownsRow w.heap.size 91 2 v7 R.length (flat R) := hdy.1
        have cellsA := one_cells2 w9 op8 0
        have HSA : Hid (w.heap.size ≤ (w9.alloc (.cells #[.int .i64 op8, .int .u64 0] 91)).heap.size) := hdy.2.2.2.2.1.size
        clear hdy
        go_wp2_with (at_builtin; refine wpList_append_own _ rfl _ _ 24 rfl w.heap.size 91 i0 (.agg #[.int .i64 0, .int .u64 0]) 2 16 Tryd.underlying24 hi hz0 hz1 hz2 rfl (by decide) _ _ _ rfl own2 ⟨w9.heap.size, 0, none⟩ 1 1 [.int .i64 op8, .int .u64 0] rfl rfl cellsA (flat_one [(op8, 0)]) (by unfold maxLen; omega) (by omega) HSA.out ?_)
        intro vb wb ownb growb _
        have HDB : Hid (Drawn B b _ sv _ w wb vb _) := HDY.out.append HBW.out (ys := [(op8, 0)]) ownb growb (one_ok (by omega) (by omega) (by omega) (by omega))
        clear own2 ownb growb cellsA
        go_wp2_with fail
        go_ret
        exact ⟨_, _, rfl, Drawn.more HDB.out (by omega) (by have := HLX.out; simp only [List.length_singleton]; omega)⟩
end Go.Proofs.YtkmgcgmeibhnmaaDoor

namespace Go.Proofs.YtkmgcgmeibhnmaaDoor
open Go Go.RowKit
open M
set_option linter.unusedVariables false

theorem num0 : NumP 0 10 1 := number_zero
theorem num1 : NumP 1 40 3 := number_step 0 10 1 (by omega) (by omega) (by omega) (by omega) num0
theorem num2 : NumP 2 100 7 := number_step 1 40 3 (by omega) (by omega) (by omega) (by omega) num1
theorem num3 : NumP 3 220 15 := number_step 2 100 7 (by omega) (by omega) (by omega) (by omega) num2
/-- what asked does at a depth -/
def AskP (d M L : Nat) : Prop := ∀ (B b m : Nat) (sv : Value) (k : Nat) (vars : Int) (w : World), 1 ≤ k → k ≤ 64 → 1 ≤ vars → vars ≤ 5 → Cur B b m sv w → m + M ≤ 5000000 →
  Calls Tryd.prog 78 #[ptr b, .int .i64 k, .int .i64 vars, .int .i64 (d : Int)] w fun e w' => ∃ v t, e = .returned v ∧ Drawn B b (m + M) sv L w w' v t
set_option maxRecDepth 100000 in
set_option maxHeartbeats 4000000 in
theorem asked_zero : AskP 0 100 7 := by
  intro B b m sv k vars w hk1 hk hv1 hv5 hc hm
  have GP : Hid (∀ (n : Int) (m' : Nat) (w1 : World), 1 ≤ n → n ≤ 50 → Cur B b m' sv w1 → m' ≤ 9000000 → Calls Tryd.prog 77 #[ptr b, .int .i64 n] w1 fun e w' => ∃ x : Int, (0 ≤ x ∧ x < n) ∧ e = .returned (.int .i64 x) ∧ Only b w1 w' ∧ Cur B b (m' + 2) sv w') := fun n m' w1 h1 h2 hc' hm' => pick_any B b m' sv n h1 (by omega) w1 hc' (by omega)
  have GO : Hid (∀ (n : Int) (m' : Nat) (w1 : World), 1 ≤ n → n ≤ 50 → Cur B b m' sv w1 → m' ≤ 9000000 → Calls Tryd.prog 59 #[ptr b, .int .i64 n] w1 fun e w' => ∃ x : Bool, e = .returned (.bool x) ∧ Only b w1 w' ∧ Cur B b (m' + 2) sv w') := fun n m' w1 h1 h2 hc' hm' => one_any B b m' sv n h1 (by omega) w1 hc' (by omega)
  have GA : Hid (∀ (l : List Int) (lo hi : Int) (m' : Nat) (w1 : World), 1 ≤ l.length → l.length ≤ 20 → (∀ x ∈ l, lo ≤ x ∧ x ≤ hi) → Cur B b m' sv w1 → m' ≤ 9000000 → Calls Tryd.prog 83 #[ptr b, .slice (some ⟨w1.heap.size, 0, none⟩) l.length l.length] (w1.alloc (.cells (nums l) 3)) fun e w' => ∃ x : Int, (lo ≤ x ∧ x ≤ hi) ∧ e = .returned (.int .i64 x) ∧ Only b w1 w' ∧ Cur B b (m' + 2) sv w') := by
    intro l lo hi m' w1 h1 h2 h3 hc' hm'
    have hlies := hc'.lies
    refine (among_any B b m' sv w1.heap.size l.length l.length lo hi h1 (by omega) _ (hc'.alloc _) (by omega) (by omega) (by simp) (nums_at h3 w1)).mono ?_
    rintro e w' ⟨x, hx, he, ho, hc2⟩
    exact ⟨x, hx, he, ((Only.refl b w1).alloc _).trans ho, hc2⟩
  have GY : Hid (∀ (y : Int) (m' : Nat) (w1 : World), 0 ≤ y → y < 2 → Cur B b m' sv w1 → m' + 40 ≤ 5000000 → Calls Tryd.prog 57 #[ptr b, .int .i64 k, .int .i64 vars, .int .i64 y] w1 fun e w' => ∃ v t, e = .returned v ∧ Drawn B b (m' + 40) sv 3 w1 w' v t) := by
    intro y m' w1 h0 h2 hc' hm'
    rcases (show y = 0 ∨ y = 1 by omega) with rfl | rfl
    · refine (num0 B b m' sv k vars w1 hk1 hk hv1 hv5 hc' (by omega)).mono ?_
      rintro e w' ⟨v, t, he, hd⟩
      exact ⟨v, t, he, hd.more (by omega) (by omega)⟩
    · exact num1 B b m' sv k vars w1 hk1 hk hv1 hv5 hc' (by omega)
  have HC0 : Hid _ := hc
  have HBW : Hid (b < w.heap.size) := hc.lies
  obtain ⟨i0, hi, hz0, hz1, hz2⟩ := info_parts infoNode
  have g1 := GO.out 20 m w (by omega) (by omega) hc (by omega)
  clear hc
  go_enter Tryd.func78, Tryd.ntmps78
  go_wp2_with fail
  refine g1.mono ?_
  rintro e w0 ⟨x0, rfl, ho0, hc0⟩
  clear g1
  have HO0 : Hid (Only b w w0) := ho0
  have HC1 : Hid _ := hc0
  clear ho0 hc0
  cases x0 with
  | true =>
    have g3 := GP.out 2 _ w0 (by omega) (by omega) HC1.out (by omega)
    go_wp2_with fail
    refine g3.mono ?_
    rintro e w2 ⟨y, ⟨hy0, hy1⟩, rfl, ho2, hc2⟩
    have HD : Hid (Drawn B b _ sv 1 w _ _ _) := drawn_one (B := B) (b := b) (w := w) 20 y (by omega) (by omega) hy0 (by omega) (HO0.out.trans ho2) hc2
    clear g3 ho2 hc2
    go_wp2_with fail
    go_ret
    exact ⟨_, _, rfl, Drawn.more HD.out (by omega) (by omega)⟩
  | false =>
    have HCN : Hid _ := HC1.out
    clear HC1
    have g3 := GY.out 1 _ w0 (by omega) (by omega) HCN.out (by omega)
    go_wp2_with fail
    refine g3.mono ?_
    rintro e w2 ⟨v2, t2, rfl, hd2⟩
    have gp := GP.out 2 _ w2 (by omega) (by omega) hd2.cur (by omega)
    have HD2a : Hid (Drawn B b _ sv 3 w w2 v2 t2) := hd2.since HO0.out
    clear g3 hd2 HCN
    go_wp2_with fail
    refine gp.mono ?_
    rintro e w2b ⟨y, ⟨hy0, hy1⟩, rfl, ho2b, hc2b⟩
    have HD2 : Hid (Drawn B b _ sv 3 w w2b v2 t2) := HD2a.out.only HBW.out ho2b hc2b
    have g4 := GY.out y _ w2b hy0 hy1 hc2b (by omega)
    clear gp HD2a ho2b hc2b
    go_wp2_with fail
    refine g4.mono ?_
    rintro e w3 ⟨v3, t3, rfl, hd3⟩
    have hdx := HD2.out.only HBW.out hd3.2.2.2.2.1 hd3.cur
    have HDX : Hid (Drawn B b _ sv _ w w3 v2 t2) := hdx
    have own1 : w3.ownsRow w.heap.size 91 2 v2 t2.length (flat t2) := hdx.1
    have hl2 : t2.length ≤ 1000 := by have := hdx.2.2.2.1; omega
    have hl3 : t3.length ≤ 1000 := by have := hd3.2.2.2.1; omega
    have HS2 : Hid (w.heap.size ≤ w3.heap.size) := hdx.2.2.2.2.1.size
    have HK3 : Hid (∀ x ∈ t3, NdOk x) := hd3.2.1
    have HL3 : Hid (t3.length ≤ 3) := hd3.2.2.2.1
    have hn3 : NodesAt w3 v3 t3 := nodes_of_own hd3.2.1 (by omega) hd3.1
    rcases hn3.2.2 with ⟨h, _⟩ | ⟨pb, po, pc, rfl, hplt, hpc⟩
    · have := hd3.2.2.1
      rw [h] at this
      simp at this
    have cells6 : ∀ (j : Nat) (x : Value), (flat t3)[j]? = some x → w3.cell? ((⟨pb, po, none⟩ : Addr).add j) = some x := flat_from hpc
    clear g4 hd3 hdx hn3 hpc HD2
    go_wp2_with (at_builtin; refine wpList_append_own _ rfl _ _ 24 rfl w.heap.size 91 i0 (.agg #[.int .i64 0, .int .u64 0]) 2 16 Tryd.underlying24 hi hz0 hz1 hz2 rfl (by decide) _ _ _ rfl own1 ⟨pb, po, none⟩ t3.length pc (flat t3) rfl (flat_len t3) cells6 (flat_one t3) (by unfold maxLen; omega) (by omega) HS2.out ?_)
    intro v7 w7 own7 grow7 _
    have hd7 := HDX.out.append HBW.out (ys := t3) own7 grow7 HK3.out
    have HD7 : Hid (Drawn B b _ sv _ w w7 v7 (t2 ++ t3)) := hd7
    have HLX : Hid (3 + t3.length ≤ 6) := (by have := HL3.out; omega : 3 + t3.length ≤ 6)
    have g5 := GA.out [14, 15, 15, 16] 14 16 _ w7 (by simp) (by simp) (by decide) hd7.cur (by omega)
    clear own1 own7 grow7 cells6 hd7 HDX
    generalize t2 ++ t3 = R at *
    go_wp2_with fail
    refine g5.mono ?_
    rintro e w8 ⟨op8, hop8, rfl, ho8, hc8⟩
    have HD8 : Hid (Drawn B b _ sv _ w w8 v7 R) := HD7.out.only HBW.out ho8 hc8
    clear g5 ho8 hc8 HD7
    have hdy := HD8.out.alloc (.cells #[.int .i64 op8, .int .u64 0] 91)
    have HDY : Hid (Drawn B b _ sv _ w (w8.alloc (.cells #[.int .i64 op8, .int .u64 0] 91)) v7 _) := hdy
    have own2 : (w8.alloc (.cells #[.int .i64 op8, .int .u64 0] 91)).ownsRow w.heap.size 91 2 v7 _ (flat _) := hdy.1
    have hlr := hdy.2.2.2.1
    have cellsA := one_cells2 w8 op8 0
    have HSA : Hid (w.heap.size ≤ (w8.alloc (.cells #[.int .i64 op8, .int .u64 0] 91)).heap.size) := hdy.2.2.2.2.1.size
    clear hdy
    go_wp2_with (at_builtin; refine wpList_append_own _ rfl _ _ 24 rfl w.heap.size 91 i0 (.agg #[.int .i64 0, .int .u64 0]) 2 16 Tryd.underlying24 hi hz0 hz1 hz2 rfl (by decide) _ _ _ rfl own2 ⟨w8.heap.size, 0, none⟩ 1 1 [.int .i64 op8, .int .u64 0] rfl rfl cellsA (flat_one [(op8, 0)]) (by unfold maxLen; omega) (by omega) HSA.out ?_)
    intro vb wb ownb growb _
    have HDB : Hid (Drawn B b _ sv _ w wb vb _) := HDY.out.append HBW.out (ys := [(op8, 0)]) ownb growb (one_ok (by omega) (by omega) (by omega) (by omega))
    clear own2 ownb growb cellsA
    go_wp2_with fail
    go_ret
    exact ⟨_, _, rfl, Drawn.more HDB.out (by omega) (by have := HLX.out; simp only [List.length_singleton]; omega)⟩
set_option maxRecDepth 100000 in
set_option maxHeartbeats 8000000 in
theorem asked_step (d M L : Nat) (hd : d ≤ 100) (hM : M ≤ 1000) (hM1 : 100 ≤ M) (hL : L ≤ 1000) (hL1 : 7 ≤ L) (ih : AskP d M L) : AskP (d + 1) (2 * M + 20) (2 * L + 1) := by
  intro B b m sv k vars w hk1 hk hv1 hv5 hc hm
  have GP : Hid (∀ (n : Int) (m' : Nat) (w1 : World), 1 ≤ n → n ≤ 50 → Cur B b m' sv w1 → m' ≤ 9000000 → Calls Tryd.prog 77 #[ptr b, .int .i64 n] w1 fun e w' => ∃ x : Int, (0 ≤ x ∧ x < n) ∧ e = .returned (.int .i64 x) ∧ Only b w1 w' ∧ Cur B b (m' + 2) sv w') := fun n m' w1 h1 h2 hc' hm' => pick_any B b m' sv n h1 (by omega) w1 hc' (by omega)
  have GO : Hid (∀ (n : Int) (m' : Nat) (w1 : World), 1 ≤ n → n ≤ 50 → Cur B b m' sv w1 → m' ≤ 9000000 → Calls Tryd.prog 59 #[ptr b, .int .i64 n] w1 fun e w' => ∃ x : Bool, e = .returned (.bool x) ∧ Only b w1 w' ∧ Cur B b (m' + 2) sv w') := fun n m' w1 h1 h2 hc' hm' => one_any B b m' sv n h1 (by omega) w1 hc' (by omega)
  have GA : Hid (∀ (l : List Int) (lo hi : Int) (m' : Nat) (w1 : World), 1 ≤ l.length → l.length ≤ 20 → (∀ x ∈ l, lo ≤ x ∧ x ≤ hi) → Cur B b m' sv w1 → m' ≤ 9000000 → Calls Tryd.prog 83 #[ptr b, .slice (some ⟨w1.heap.size, 0, none⟩) l.length l.length] (w1.alloc (.cells (nums l) 3)) fun e w' => ∃ x : Int, (lo ≤ x ∧ x ≤ hi) ∧ e = .returned (.int .i64 x) ∧ Only b w1 w' ∧ Cur B b (m' + 2) sv w') := by
    intro l lo hi m' w1 h1 h2 h3 hc' hm'
    have hlies := hc'.lies
    refine (among_any B b m' sv w1.heap.size l.length l.length lo hi h1 (by omega) _ (hc'.alloc _) (by omega) (by omega) (by simp) (nums_at h3 w1)).mono ?_
    rintro e w' ⟨x, hx, he, ho, hc2⟩
    exact ⟨x, hx, he, ((Only.refl b w1).alloc _).trans ho, hc2⟩
  have GY : Hid (∀ (y : Int) (m' : Nat) (w1 : World), 0 ≤ y → y < 2 → Cur B b m' sv w1 → m' + 40 ≤ 5000000 → Calls Tryd.prog 57 #[ptr b, .int .i64 k, .int .i64 vars, .int .i64 y] w1 fun e w' => ∃ v t, e = .returned v ∧ Drawn B b (m' + 40) sv 3 w1 w' v t) := by
    intro y m' w1 h0 h2 hc' hm'
    rcases (show y = 0 ∨ y = 1 by omega) with rfl | rfl
    · refine (num0 B b m' sv k vars w1 hk1 hk hv1 hv5 hc' (by omega)).mono ?_
      rintro e w' ⟨v, t, he, hd⟩
      exact ⟨v, t, he, hd.more (by omega) (by omega)⟩
    · exact num1 B b m' sv k vars w1 hk1 hk hv1 hv5 hc' (by omega)
  have HC0 : Hid _ := hc
  have HBW : Hid (b < w.heap.size) := hc.lies
  obtain ⟨i0, hi, hz0, hz1, hz2⟩ := info_parts infoNode
  have GI : Hid (∀ (m' : Nat) (w1 : World), Cur B b m' sv w1 → m' + M ≤ 5000000 → Calls Tryd.prog 78 #[ptr b, .int .i64 k, .int .i64 vars, .int .i64 (d : Int)] w1 fun e w' => ∃ v t, e = .returned v ∧ Drawn B b (m' + M) sv L w1 w' v t) := fun m' w1 hc' hm' => ih B b m' sv k vars w1 hk1 hk hv1 hv5 hc' hm'
  have hd0 : (0 : Int) < ((d + 1 : Nat) : Int) := by omega
  have hd1 : ((d + 1 : Nat) : Int) - 1 = (d : Int) := by omega
  generalize ((d + 1 : Nat) : Int) = dd at *
  clear ih
  have g1 := GO.out 20 m w (by omega) (by omega) hc (by omega)
  clear hc
  go_enter Tryd.func78, Tryd.ntmps78
  go_wp2_with fail
  refine g1.mono ?_
  rintro e w0 ⟨x0, rfl, ho0, hc0⟩
  clear g1
  have HO0 : Hid (Only b w w0) := ho0
  have HC1 : Hid _ := hc0
  clear ho0 hc0
  cases x0 with
  | true =>
    have g3 := GP.out 2 _ w0 (by omega) (by omega) HC1.out (by omega)
    go_wp2_with fail
    refine g3.mono ?_
    rintro e w2 ⟨y, ⟨hy0, hy1⟩, rfl, ho2, hc2⟩
    have HD : Hid (Drawn B b _ sv 1 w _ _ _) := drawn_one (B := B) (b := b) (w := w) 20 y (by omega) (by omega) hy0 (by omega) (HO0.out.trans ho2) hc2
    clear g3 ho2 hc2
    go_wp2_with fail
    go_ret
    exact ⟨_, _, rfl, Drawn.more HD.out (by omega) (by omega)⟩
  | false =>
    have g2 := GO.out 4 _ w0 (by omega) (by omega) HC1.out (by omega)
    go_wp2_with fail
    refine g2.mono ?_
    rintro e w1 ⟨x1, rfl, ho1, hc1⟩
    clear g2
    have HO1 : Hid (Only b w w1) := HO0.out.trans ho1
    have HC2 : Hid _ := hc1
    clear ho1 hc1 HC1 HO0
    cases x1 with
    | true =>
      have g3 := GI.out _ w1 HC2.out (by omega)
      go_wp2_with fail
      refine g3.mono ?_
      rintro e w2 ⟨v2, t2, rfl, hd2⟩
      have HD2 : Hid (Drawn B b _ sv L w w2 v2 t2) := hd2.since HO1.out
      have HLX : Hid (L ≤ 2 * L) := (by omega : L ≤ 2 * L)
      clear g3 hd2
      have hdy := HD2.out.alloc (.cells #[.int .i64 19, .int .u64 0] 91)
      have HDY : Hid (Drawn B b _ sv _ w (w2.alloc (.cells #[.int .i64 19, .int .u64 0] 91)) v2 _) := hdy
      have own2 : (w2.alloc (.cells #[.int .i64 19, .int .u64 0] 91)).ownsRow w.heap.size 91 2 v2 _ (flat _) := hdy.1
      have hlr := hdy.2.2.2.1
      have cellsA := one_cells2 w2 19 0
      have HSA : Hid (w.heap.size ≤ (w2.alloc (.cells #[.int .i64 19, .int .u64 0] 91)).heap.size) := hdy.2.2.2.2.1.size
      clear hdy
      go_wp2_with (at_builtin; refine wpList_append_own _ rfl _ _ 24 rfl w.heap.size 91 i0 (.agg #[.int .i64 0, .int .u64 0]) 2 16 Tryd.underlying24 hi hz0 hz1 hz2 rfl (by decide) _ _ _ rfl own2 ⟨w2.heap.size, 0, none⟩ 1 1 [.int .i64 19, .int .u64 0] rfl rfl cellsA (flat_one [(19, 0)]) (by unfold maxLen; omega) (by omega) HSA.out ?_)
      intro vb wb ownb growb _
      have HDB : Hid (Drawn B b _ sv _ w wb vb _) := HDY.out.append HBW.out (ys := [(19, 0)]) ownb growb (one_ok (by omega) (by omega) (by omega) (by omega))
      clear own2 ownb growb cellsA
      go_wp2_with fail
      go_ret
      exact ⟨_, _, rfl, Drawn.more HDB.out (by omega) (by have := HLX.out; simp only [List.length_singleton]; omega)⟩
    | false =>
      have g2 := GO.out 2 _ w1 (by omega) (by omega) HC2.out (by omega)
      go_wp2_with fail
      refine g2.mono ?_
      rintro e w1' ⟨x2, rfl, ho1, hc1⟩
      clear g2
      have HO2 : Hid (Only b w w1') := HO1.out.trans ho1
      have HCN : Hid _ := hc1
      clear ho1 hc1 HC2 HO1
      cases x2 with
      | true =>
        have g3 := GI.out _ w1' HCN.out (by omega)
        go_wp2_with fail
        refine g3.mono ?_
        rintro e w2 ⟨v2, t2, rfl, hd2⟩
        have g4 := GI.out _ w2 hd2.cur (by omega)
        have HD2 : Hid (Drawn B b _ sv L w w2 v2 t2) := hd2.since HO2.out
        clear g3 hd2 HCN
        go_wp2_with fail
        refine g4.mono ?_
        rintro e w3 ⟨v3, t3, rfl, hd3⟩
        have hdx := HD2.out.only HBW.out hd3.2.2.2.2.1 hd3.cur
        have HDX : Hid (Drawn B b _ sv _ w w3 v2 t2) := hdx
        have own1 : w3.ownsRow w.heap.size 91 2 v2 t2.length (flat t2) := hdx.1
        have hl2 : t2.length ≤ 1000 := by have := hdx.2.2.2.1; omega
        have hl3 : t3.length ≤ 1000 := by have := hd3.2.2.2.1; omega
        have HS2 : Hid (w.heap.size ≤ w3.heap.size) := hdx.2.2.2.2.1.size
        have HK3 : Hid (∀ x ∈ t3, NdOk x) := hd3.2.1
        have HL3 : Hid (t3.length ≤ L) := hd3.2.2.2.1
        have hn3 : NodesAt w3 v3 t3 := nodes_of_own hd3.2.1 (by omega) hd3.1
        rcases hn3.2.2 with ⟨h, _⟩ | ⟨pb, po, pc, rfl, hplt, hpc⟩
        · have := hd3.2.2.1
          rw [h] at this
          simp at this
        have cells6 : ∀ (j : Nat) (x : Value), (flat t3)[j]? = some x → w3.cell? ((⟨pb, po, none⟩ : Addr).add j) = some x := flat_from hpc
        clear g4 hd3 hdx hn3 hpc HD2
        go_wp2_with (at_builtin; refine wpList_append_own _ rfl _ _ 24 rfl w.heap.size 91 i0 (.agg #[.int .i64 0, .int .u64 0]) 2 16 Tryd.underlying24 hi hz0 hz1 hz2 rfl (by decide) _ _ _ rfl own1 ⟨pb, po, none⟩ t3.length pc (flat t3) rfl (flat_len t3) cells6 (flat_one t3) (by unfold maxLen; omega) (by omega) HS2.out ?_)
        intro v7 w7 own7 grow7 _
        have hd7 := HDX.out.append HBW.out (ys := t3) own7 grow7 HK3.out
        have HD7 : Hid (Drawn B b _ sv _ w w7 v7 (t2 ++ t3)) := hd7
        have HLX : Hid (L + t3.length ≤ 2 * L) := (by have := HL3.out; omega : L + t3.length ≤ 2 * L)
        have g5 := GA.out [17, 18] 17 18 _ w7 (by simp) (by simp) (by decide) hd7.cur (by omega)
        clear own1 own7 grow7 cells6 hd7 HDX
        generalize t2 ++ t3 = R at *
        go_wp2_with fail
        refine g5.mono ?_
        rintro e w8 ⟨op8, hop8, rfl, ho8, hc8⟩
        have HD8 : Hid (Drawn B b _ sv _ w w8 v7 R) := HD7.out.only HBW.out ho8 hc8
        clear g5 ho8 hc8 HD7
        have hdy := HD8.out.alloc (.cells #[.int .i64 op8, .int .u64 0] 91)
        have HDY : Hid (Drawn B b _ sv _ w (w8.alloc (.cells #[.int .i64 op8, .int .u64 0] 91)) v7 _) := hdy
        have own2 : (w8.alloc (.cells #[.int .i64 op8, .int .u64 0] 91)).ownsRow w.heap.size 91 2 v7 _ (flat _) := hdy.1
        have hlr := hdy.2.2.2.1
        have cellsA := one_cells2 w8 op8 0
        have HSA : Hid (w.heap.size ≤ (w8.alloc (.cells #[.int .i64 op8, .int .u64 0] 91)).heap.size) := hdy.2.2.2.2.1.size
        clear hdy
        go_wp2_with (at_builtin; refine wpList_append_own _ rfl _ _ 24 rfl w.heap.size 91 i0 (.agg #[.int .i64 0, .int .u64 0]) 2 16 Tryd.underlying24 hi hz0 hz1 hz2 rfl (by decide) _ _ _ rfl own2 ⟨w8.heap.size, 0, none⟩ 1 1 [.int .i64 op8, .int .u64 0] rfl rfl cellsA (flat_one [(op8, 0)]) (by unfold maxLen; omega) (by omega) HSA.out ?_)
        intro vb wb ownb growb _
        have HDB : Hid (Drawn B b _ sv _ w wb vb _) := HDY.out.append HBW.out (ys := [(op8, 0)]) ownb growb (one_ok (by omega) (by omega) (by omega) (by omega))
        clear own2 ownb growb cellsA
        go_wp2_with fail
        go_ret
        exact ⟨_, _, rfl, Drawn.more HDB.out (by omega) (by have := HLX.out; simp only [List.length_singleton]; omega)⟩
      | false =>
        have g3 := GY.out 1 _ w1' (by omega) (by omega) HCN.out (by omega)
        go_wp2_with fail
        refine g3.mono ?_
        rintro e w2 ⟨v2, t2, rfl, hd2⟩
        have gp := GP.out 2 _ w2 (by omega) (by omega) hd2.cur (by omega)
        have HD2a : Hid (Drawn B b _ sv 3 w w2 v2 t2) := hd2.since HO2.out
        clear g3 hd2 HCN
        go_wp2_with fail
        refine gp.mono ?_
        rintro e w2b ⟨y, ⟨hy0, hy1⟩, rfl, ho2b, hc2b⟩
        have HD2 : Hid (Drawn B b _ sv 3 w w2b v2 t2) := HD2a.out.only HBW.out ho2b hc2b
        have g4 := GY.out y _ w2b hy0 hy1 hc2b (by omega)
        clear gp HD2a ho2b hc2b
        go_wp2_with fail
        refine g4.mono ?_
        rintro e w3 ⟨v3, t3, rfl, hd3⟩
        have hdx := HD2.out.only HBW.out hd3.2.2.2.2.1 hd3.cur
        have HDX : Hid (Drawn B b _ sv _ w w3 v2 t2) := hdx
        have own1 : w3.ownsRow w.heap.size 91 2 v2 t2.length (flat t2) := hdx.1
        have hl2 : t2.length ≤ 1000 := by have := hdx.2.2.2.1; omega
        have hl3 : t3.length ≤ 1000 := by have := hd3.2.2.2.1; omega
        have HS2 : Hid (w.heap.size ≤ w3.heap.size) := hdx.2.2.2.2.1.size
        have HK3 : Hid (∀ x ∈ t3, NdOk x) := hd3.2.1
        have HL3 : Hid (t3.length ≤ 3) := hd3.2.2.2.1
        have hn3 : NodesAt w3 v3 t3 := nodes_of_own hd3.2.1 (by omega) hd3.1
        rcases hn3.2.2 with ⟨h, _⟩ | ⟨pb, po, pc, rfl, hplt, hpc⟩
        · have := hd3.2.2.1
          rw [h] at this
          simp at this
        have cells6 : ∀ (j : Nat) (x : Value), (flat t3)[j]? = some x → w3.cell? ((⟨pb, po, none⟩ : Addr).add j) = some x := flat_from hpc
        clear g4 hd3 hdx hn3 hpc HD2
        go_wp2_with (at_builtin; refine wpList_append_own _ rfl _ _ 24 rfl w.heap.size 91 i0 (.agg #[.int .i64 0, .int .u64 0]) 2 16 Tryd.underlying24 hi hz0 hz1 hz2 rfl (by decide) _ _ _ rfl own1 ⟨pb, po, none⟩ t3.length pc (flat t3) rfl (flat_len t3) cells6 (flat_one t3) (by unfold maxLen; omega) (by omega) HS2.out ?_)
        intro v7 w7 own7 grow7 _
        have hd7 := HDX.out.append HBW.out (ys := t3) own7 grow7 HK3.out
        have HD7 : Hid (Drawn B b _ sv _ w w7 v7 (t2 ++ t3)) := hd7
        have HLX : Hid (3 + t3.length ≤ 6) := (by have := HL3.out; omega : 3 + t3.length ≤ 6)
        have g5 := GA.out [14, 15, 15, 16] 14 16 _ w7 (by simp) (by simp) (by decide) hd7.cur (by omega)
        clear own1 own7 grow7 cells6 hd7 HDX
        generalize t2 ++ t3 = R at *
        go_wp2_with fail
        refine g5.mono ?_
        rintro e w8 ⟨op8, hop8, rfl, ho8, hc8⟩
        have HD8 : Hid (Drawn B b _ sv _ w w8 v7 R) := HD7.out.only HBW.out ho8 hc8
        clear g5 ho8 hc8 HD7
        have hdy := HD8.out.alloc (.cells #[.int .i64 op8, .int .u64 0] 91)
        have HDY : Hid (Drawn B b _ sv _ w (w8.alloc (.cells #[.int .i64 op8, .int .u64 0] 91)) v7 _) := hdy
        have own2 : (w8.alloc (.cells #[.int .i64 op8, .int .u64 0] 91)).ownsRow w.heap.size 91 2 v7 _ (flat _) := hdy.1
        have hlr := hdy.2.2.2.1
        have cellsA := one_cells2 w8 op8 0
        have HSA : Hid (w.heap.size ≤ (w8.alloc (.cells #[.int .i64 op8, .int .u64 0] 91)).heap.size) := hdy.2.2.2.2.1.size
        clear hdy
        go_wp2_with (at_builtin; refine wpList_append_own _ rfl _ _ 24 rfl w.heap.size 91 i0 (.agg #[.int .i64 0, .int .u64 0]) 2 16 Tryd.underlying24 hi hz0 hz1 hz2 rfl (by decide) _ _ _ rfl own2 ⟨w8.heap.size, 0, none⟩ 1 1 [.int .i64 op8, .int .u64 0] rfl rfl cellsA (flat_one [(op8, 0)]) (by unfold maxLen; omega) (by omega) HSA.out ?_)
        intro vb wb ownb growb _
        have HDB : Hid (Drawn B b _ sv _ w wb vb _) := HDY.out.append HBW.out (ys := [(op8, 0)]) ownb growb (one_ok (by omega) (by omega) (by omega) (by omega))
        clear own2 ownb growb cellsA
        go_wp2_with fail
        go_ret
        exact ⟨_, _, rfl, Drawn.more HDB.out (by omega) (by have := HLX.out; simp only [List.length_singleton]; omega)⟩
theorem ask0 : AskP 0 100 7 := asked_zero
theorem ask1 : AskP 1 220 15 := asked_step 0 100 7 (by omega) (by omega) (by omega) (by omega) (by omega) ask0
theorem ask2 : AskP 2 460 31 := asked_step 1 220 15 (by omega) (by omega) (by omega) (by omega) (by omega) ask1
end Go.Proofs.YtkmgcgmeibhnmaaDoor

namespace Go.Proofs.YtkmgcgmeibhnmaaDoor
open Go Go.RowKit
open M
set_option linter.unusedVariables false

/-- a term that is drawn, with its width and the number of its variables -/
def TermD (B b m : Nat) (sv : Value) (w w' : World) (k : Nat) (vars : Int) (v : Value) (t : List Nd) : Prop :=
  1 ≤ k ∧ k ≤ 64 ∧ 0 ≤ vars ∧ vars ≤ 5 ∧ OwnNodes w' w.heap.size v t ∧ (∀ x ∈ t, NdOk x) ∧ t.length ≤ 31 ∧ Only b w w' ∧ Cur B b m sv w'
theorem Drawn.term {B b m L : Nat} {sv v : Value} {w w' : World} {t : List Nd} (hd : Drawn B b m sv L w w' v t) (hL : L ≤ 31) {k : Nat} (h1 : 1 ≤ k) (h2 : k ≤ 64) {vars : Int} (h3 : 0 ≤ vars) (h4 : vars ≤ 5) {m' : Nat} (hm : m ≤ m') : TermD B b m' sv w w' k vars v t :=
  ⟨h1, h2, h3, h4, hd.1, hd.2.1, Nat.le_trans hd.2.2.2.1 hL, hd.2.2.2.2.1, hd.cur.more hm⟩
theorem own_some {w : World} {B : Nat} {v : Value} {t : List Nd} (h : OwnNodes w B v t) (h1 : 1 ≤ t.length) : ∃ g cap : Nat, v = .slice (some ⟨g, 0, none⟩) t.length cap ∧ B ≤ g ∧ t.length ≤ cap ∧ cap ≤ 9223372036854775807 := by
  rcases h.2 with ⟨_, h0⟩ | ⟨g, cap, cur, hv, hg, _, hc, hm, _⟩
  · omega
  · exact ⟨g, cap, hv, hg, hc, hm⟩
theorem own_cutN {w : World} {B g n cap r : Nat} {t : List Nd} (h : OwnNodes w B (.slice (some ⟨g, 0, none⟩) n cap) t) (hr : r ≤ t.length) : OwnNodes w B (.slice (some ⟨g, 0, none⟩) r cap) (t.take r) := by
  have hl : (flat (t.take r)).length = r * 2 := by rw [flat_len]; simp; omega
  refine ⟨by rw [hl]; simp; omega, ?_⟩
  rcases h.2 with ⟨h1, _⟩ | ⟨g', cap', cur, h1, hg, hh, h2, h3, h4, h5⟩
  · cases h1
  · simp at h1
    obtain ⟨rfl, hn, rfl⟩ := h1
    refine Or.inr ⟨g, cap, cur, by simp; omega, hg, hh, by simp; omega, h3, h4, ?_⟩
    have h6 := congrArg (List.take (r * 2)) h5
    rw [List.take_take, Nat.min_eq_left (by omega)] at h6
    rw [show (t.take r).length * 2 = r * 2 from by simp; omega, h6]
    have e : flat t = flat (t.take r) ++ flat (t.drop r) := by rw [← flat_append, List.take_append_drop]
    rw [e, ← hl, List.take_left]
theorem drawn_store {B b m L g n cap j : Nat} {sv u : Value} {w w1 : World} {t t' : List Nd} (hd : Drawn B b m sv L w w1 (.slice (some ⟨g, 0, none⟩) n cap) t) (hn : n = t.length) (hb : b < w.heap.size) (hs : (flat t).set j u = flat t') (hl : t'.length = t.length) (hok : ∀ x ∈ t', NdOk x) : Drawn B b m sv L w (w1.setCell ⟨g, j, none⟩ u) (.slice (some ⟨g, 0, none⟩) n cap) t' := by
  subst hn
  obtain ⟨h1, h2, h3, h4, h5, h6⟩ := hd
  have hst := World.ownsRow.stored h1 j u
  have hgB : w.heap.size ≤ g := (World.ownsRow.lt h1 g rfl).1
  refine ⟨?_, hok, by omega, by omega, ?_, ?_⟩
  · have h7 := hst.1
    rw [hs] at h7
    unfold OwnNodes
    rw [hl]
    exact h7
  · have hg := hst.2
    have hsz := h5.size
    exact ⟨hg.os.trans h5.os, hg.tape.trans h5.tape, hg.output.trans h5.output, Nat.le_trans h5.size hg.size, fun k hk hks => by
      rw [hg.block k (by omega) (fun e => by have := Option.some.inj e; omega)]
      exact h5.block k hk hks⟩
  · have hg := hst.2
    refine h6.below ⟨hg.os, hg.tape, hg.output, hg.size, fun k hk => hg.block k ?_ (fun e => ?_)⟩
    · have := h6.lies
      omega
    · have := Option.some.inj e
      omega
theorem Drawn.drew {B b m L : Nat} {sv v : Value} {w w1 : World} {t : List Nd} (hd : Drawn B b m sv L w w1 v t) : Drawn B b m sv L w w1.drew v t := by
  obtain ⟨h1, h2, h3, h4, h5, h6⟩ := hd
  exact ⟨h1, h2, h3, h4, h5.drew, h6.drew⟩
theorem flat_cell (t : List Nd) (i : Nat) (h : i < t.length) : (flat t)[i * 2]? = some (.int .i64 (t[i]).1) ∧ (flat t)[i * 2 + 1]? = some (.int .u64 (t[i]).2) := by
  induction t generalizing i with
  | nil => simp at h
  | cons x t ih =>
    match i with
    | 0 => simp [flat]
    | i + 1 =>
      have := ih i (by simpa using h)
      rw [show (i + 1) * 2 = i * 2 + 2 from by omega]
      simpa [flat] using this
theorem flat_last (r : List Nd) (x : Nd) (op : Int) : (flat (r ++ [x])).set (r.length * 2) (.int .i64 op) = flat (r ++ [(op, x.2)]) := by
  rw [flat_append, flat_append, ← flat_len r, List.set_append_right _ _ (Nat.le_refl _), Nat.sub_self]
  rfl
set_option maxRecDepth 100000 in
set_option maxHeartbeats 8000000 in
theorem term_any (B b m : Nat) (sv : Value) (w : World) (hc : Cur B b m sv w) (hm : m ≤ 1000000) :
    Calls Tryd.prog 56 #[ptr b] w fun e w' => ∃ (k : Nat) (vars : Int) (v : Value) (t : List Nd), e = .returned (.tuple #[.int .i64 (k : Int), .int .i64 vars, v]) ∧ TermD B b (m + 1000) sv w w' k vars v t := by
  have GP : Hid (∀ (n : Int) (m' : Nat) (w1 : World), 1 ≤ n → n ≤ 50 → Cur B b m' sv w1 → m' ≤ 9000000 → Calls Tryd.prog 77 #[ptr b, .int .i64 n] w1 fun e w' => ∃ x : Int, (0 ≤ x ∧ x < n) ∧ e = .returned (.int .i64 x) ∧ Only b w1 w' ∧ Cur B b (m' + 2) sv w') := fun n m' w1 h1 h2 hc' hm' => pick_any B b m' sv n h1 (by omega) w1 hc' (by omega)
  have GO : Hid (∀ (n : Int) (m' : Nat) (w1 : World), 1 ≤ n → n ≤ 50 → Cur B b m' sv w1 → m' ≤ 9000000 → Calls Tryd.prog 59 #[ptr b, .int .i64 n] w1 fun e w' => ∃ x : Bool, e = .returned (.bool x) ∧ Only b w1 w' ∧ Cur B b (m' + 2) sv w') := fun n m' w1 h1 h2 hc' hm' => one_any B b m' sv n h1 (by omega) w1 hc' (by omega)
  have GA : Hid (∀ (l : List Int) (lo hi : Int) (m' : Nat) (w1 : World), 1 ≤ l.length → l.length ≤ 20 → (∀ x ∈ l, lo ≤ x ∧ x ≤ hi) → Cur B b m' sv w1 → m' ≤ 9000000 → Calls Tryd.prog 83 #[ptr b, .slice (some ⟨w1.heap.size, 0, none⟩) l.length l.length] (w1.alloc (.cells (nums l) 3)) fun e w' => ∃ x : Int, (lo ≤ x ∧ x ≤ hi) ∧ e = .returned (.int .i64 x) ∧ Only b w1 w' ∧ Cur B b (m' + 2) sv w') := by
    intro l lo hi m' w1 h1 h2 h3 hc' hm'
    have hlies := hc'.lies
    refine (among_any B b m' sv w1.heap.size l.length l.length lo hi h1 (by omega) _ (hc'.alloc _) (by omega) (by omega) (by simp) (nums_at h3 w1)).mono ?_
    rintro e w' ⟨x, hx, he, ho, hc2⟩
    exact ⟨x, hx, he, ((Only.refl b w1).alloc _).trans ho, hc2⟩
  have HBW : Hid (b < w.heap.size) := hc.lies
  have g1 := GA.out [1, 2, 3, 4, 8, 64] 1 64 m w (by simp) (by simp) (by decide) hc (by omega)
  clear hc
  go_enter Tryd.func56, Tryd.ntmps56
  go_wp2_with fail
  refine g1.mono ?_
  rintro e w1 ⟨x1, ⟨hx1, hx64⟩, rfl, ho1, hc1⟩
  obtain ⟨k, rfl⟩ := Int.eq_ofNat_of_zero_le (show 0 ≤ x1 by omega)
  have hk1 : 1 ≤ k := by omega
  have hk : k ≤ 64 := by omega
  have g2 := GP.out 3 _ w1 (by omega) (by omega) hc1 (by omega)
  have HO1 : Hid (Only b w w1) := ho1
  clear g1 ho1 hc1
  go_wp2_with fail
  refine g2.mono ?_
  rintro e w2 ⟨y, ⟨hy0, hy1⟩, rfl, ho2, hc2⟩
  have g3 := ask2 B b _ sv k (1 + y) w2 hk1 hk (by omega) (by omega) hc2 (by omega)
  have HO2 : Hid (Only b w w2) := HO1.out.trans ho2
  clear g2 ho2 hc2 HO1
  go_wp2_with fail
  refine g3.mono ?_
  rintro e w3 ⟨v3, t3, rfl, hd3⟩
  have HD3 : Hid (Drawn B b _ sv 31 w w3 v3 t3) := hd3.since HO2.out
  have g4 := GO.out 3 _ w3 (by omega) (by omega) hd3.cur (by omega)
  clear g3 hd3
  go_wp2_with fail
  refine g4.mono ?_
  rintro e w4 ⟨x4, rfl, ho4, hc4⟩
  have HD4a : Hid (Drawn B b _ sv 31 w w4 v3 t3) := HD3.out.only HBW.out ho4 hc4
  have HC4 : Hid _ := hc4
  clear g4 ho4 hc4 HD3
  cases x4 with
  | true =>
    have g5 := num3 B b _ sv k (1 + y) w4 hk1 hk (by omega) (by omega) HC4.out (by omega)
    go_wp2_with fail
    refine g5.mono ?_
    rintro e w4b ⟨v4, t4, rfl, hd4⟩
    have HD4 : Hid (Drawn B b _ sv 31 w w4b v4 t4) := (hd4.since HD4a.out.2.2.2.2.1).more (Nat.le_refl _) (by omega)
    have HCT : Hid _ := hd4.cur
    clear g5 hd4 HD4a HC4
    have g6 := GP.out 40 _ w4b (by omega) (by omega) HCT.out (by omega)
    go_wp2_with fail
    refine g6.mono ?_
    rintro e w5 ⟨z, ⟨hzz0, hzz1⟩, rfl, ho5, hc5⟩
    have HD5 : Hid (Drawn B b _ sv 31 w w5 v4 t4) := HD4.out.only HBW.out ho5 hc5
    have HC5 : Hid _ := hc5
    clear g6 ho5 hc5 HD4 HCT
    obtain ⟨g, cap, hv4, hg4, hcap, hcapm⟩ := own_some HD5.out.1 HD5.out.2.2.1
    have hl1 : 1 ≤ t4.length := HD5.out.2.2.1
    have hl31 : t4.length ≤ 31 := HD5.out.2.2.2.1
    subst hv4
    by_cases z0 : z = 0
    · subst z0
      obtain ⟨x, r, hxr⟩ : ∃ x r, t4 = x :: r := by
        cases t4 with
        | nil => simp at hl1
        | cons x r => exact ⟨x, r, rfl⟩
      have d0 : w5.cell? ⟨g, 1, none⟩ = some (.int .u64 x.2) := by
        rw [World.ownsRow.cellAt HD5.out.1 1 (by omega), hxr]
        rfl
      have f0 := World.ownsRow.frozenAt HD5.out.1 1
      have HDZ : Hid (Drawn B b _ sv 31 w (w5.setCell ⟨g, 1, none⟩ (.int .u64 9223372036854775808)) (.slice (some ⟨g, 0, none⟩) t4.length cap) ((x.1, 9223372036854775808) :: r)) := drawn_store HD5.out rfl HBW.out (by rw [hxr]; rfl) (by rw [hxr]; rfl) (by
        intro y hy
        have hok := HD5.out.2.1
        rw [hxr] at hok
        rcases List.mem_cons.1 hy with rfl | hy
        · have := hok x (by simp)
          exact ⟨this.1, this.2.1, by simp, by simp⟩
        · exact hok y (by simp [hy]))
      clear hxr HD5
      go_wp2_with fail
      first
        | (go_ret3; exact ⟨k, _, _, _, rfl, Drawn.term HDZ.out (by omega) hk1 hk (by omega) (by omega) (by omega)⟩)
        | (go_region
           all_goals
             go_wp2_with fail
             go_ret3
             exact ⟨k, _, _, _, rfl, Drawn.term HDZ.out.drew (by omega) hk1 hk (by omega) (by omega) (by omega)⟩)
    by_cases z1 : z = 1
    · subst z1
      have HO6 : Hid (OwnNodes w5 w.heap.size (.slice (some ⟨g, 0, none⟩) (t4.length - 1) cap) (t4.take (t4.length - 1))) := own_cutN HD5.out.1 (by omega)
      have HT6 : Hid (TermD B b (m + 1000) sv w w5 k (1 + y) (.slice (some ⟨g, 0, none⟩) (t4.length - 1) cap) (t4.take (t4.length - 1))) := ⟨hk1, hk, by omega, by omega, HO6.out, fun x hx => HD5.out.2.1 x (List.mem_of_mem_take hx), by simp; omega, HD5.out.2.2.2.2.1, HC5.out.more (by omega)⟩
      obtain ⟨len1, hlen1⟩ : ∃ len1 : Nat, t4.length = len1 + 1 := ⟨t4.length - 1, by omega⟩
      rw [show t4.length - 1 = len1 from by omega] at HT6
      have hsub : (((len1 + 1 : Nat) : Int)) - 1 = (len1 : Int) := by omega
      rw [hlen1] at hcap hl31 ⊢
      clear HO6 HD5 hl1
      go_wp2_with fail
      go_ret3
      exact ⟨k, _, _, _, rfl, HT6.out⟩
    by_cases z2 : z = 2
    · subst z2
      have g7 := GA.out [0, 4, 5] 0 5 _ w5 (by simp) (by simp) (by decide) HC5.out (by omega)
      go_wp2_with fail
      refine g7.mono ?_
      rintro e w6 ⟨nv, ⟨hnv0, hnv1⟩, rfl, ho6, hc6⟩
      have HD6 : Hid (Drawn B b _ sv 31 w w6 (.slice (some ⟨g, 0, none⟩) t4.length cap) t4) := HD5.out.only HBW.out ho6 hc6
      clear g7 ho6 hc6 HD5
      go_wp2_with fail
      go_ret3
      exact ⟨k, _, _, _, rfl, Drawn.term HD6.out (by omega) hk1 hk (by omega) (by omega) (by omega)⟩
    by_cases z3 : z = 3
    · subst z3
      have g7 := GP.out 23 _ w5 (by omega) (by omega) HC5.out (by omega)
      go_wp2_with fail
      refine g7.mono ?_
      rintro e w6 ⟨nv, ⟨hnv0, hnv1⟩, rfl, ho6, hc6⟩
      have HD6 : Hid (Drawn B b _ sv 31 w w6 (.slice (some ⟨g, 0, none⟩) t4.length cap) t4) := HD5.out.only HBW.out ho6 hc6
      clear g7 ho6 hc6 HD5
      obtain ⟨r, x, hxr⟩ : ∃ r x, t4 = r ++ [x] := by
        have hne : t4 ≠ [] := by intro e; rw [e] at hl1; simp at hl1
        exact ⟨t4.dropLast, t4.getLast hne, (List.dropLast_concat_getLast hne).symm⟩
      have hrl : t4.length = r.length + 1 := by rw [hxr]; simp
      have d0 : w6.cell? ⟨g, r.length * 2, none⟩ = some (.int .i64 x.1) := by
        rw [World.ownsRow.cellAt HD6.out.1 (r.length * 2) (by omega), (flat_cell t4 r.length (by omega)).1]
        simp [hxr]
      have f0 := World.ownsRow.frozenAt HD6.out.1 (r.length * 2)
      have HDZ : Hid (Drawn B b _ sv 31 w (w6.setCell ⟨g, r.length * 2, none⟩ (.int .i64 nv)) (.slice (some ⟨g, 0, none⟩) t4.length cap) (r ++ [(nv, x.2)])) := drawn_store HD6.out rfl HBW.out (by rw [hxr]; exact flat_last r x nv) (by rw [hxr]; simp) (by
        intro y hy
        have hok := HD6.out.2.1
        rw [hxr] at hok
        rcases List.mem_append.1 hy with hy | hy
        · exact hok y (by simp [hy])
        · simp at hy
          subst hy
          have := hok x (by simp)
          exact ⟨by simp only; omega, by simp only; omega, this.2.2.1, this.2.2.2⟩)
      have hsub : ((t4.length : Nat) : Int) - 1 = (r.length : Int) := by omega
      have hrlt : r.length < t4.length := by omega
      clear hxr HD6 hrl
      generalize r.length = len1 at *
      go_wp2_with fail
      first
        | (go_ret3; exact ⟨k, _, _, _, rfl, Drawn.term HDZ.out (by omega) hk1 hk (by omega) (by omega) (by omega)⟩)
        | (go_region
           all_goals
             go_wp2_with fail
             go_ret3
             exact ⟨k, _, _, _, rfl, Drawn.term HDZ.out.drew (by omega) hk1 hk (by omega) (by omega) (by omega)⟩)
    have ez0 : (z == 0) = false := beq_eq_false_iff_ne.2 z0
    have ez1 : (z == 1) = false := beq_eq_false_iff_ne.2 z1
    have ez2 : (z == 2) = false := beq_eq_false_iff_ne.2 z2
    have ez3 : (z == 3) = false := beq_eq_false_iff_ne.2 z3
    clear z0 z1 z2 z3
    go_wp2_with fail
    go_ret3
    exact ⟨k, _, _, _, rfl, Drawn.term HD5.out (by omega) hk1 hk (by omega) (by omega) (by omega)⟩
  | false =>
    have HD4 : Hid (Drawn B b _ sv 31 w w4 v3 t3) := HD4a.out
    have HCT : Hid _ := HC4.out
    clear HD4a HC4
    generalize v3 = v4 at *
    generalize t3 = t4 at *
    have g6 := GP.out 40 _ w4 (by omega) (by omega) HCT.out (by omega)
    go_wp2_with fail
    refine g6.mono ?_
    rintro e w5 ⟨z, ⟨hzz0, hzz1⟩, rfl, ho5, hc5⟩
    have HD5 : Hid (Drawn B b _ sv 31 w w5 v4 t4) := HD4.out.only HBW.out ho5 hc5
    have HC5 : Hid _ := hc5
    clear g6 ho5 hc5 HD4 HCT
    obtain ⟨g, cap, hv4, hg4, hcap, hcapm⟩ := own_some HD5.out.1 HD5.out.2.2.1
    have hl1 : 1 ≤ t4.length := HD5.out.2.2.1
    have hl31 : t4.length ≤ 31 := HD5.out.2.2.2.1
    subst hv4
    by_cases z0 : z = 0
    · subst z0
      obtain ⟨x, r, hxr⟩ : ∃ x r, t4 = x :: r := by
        cases t4 with
        | nil => simp at hl1
        | cons x r => exact ⟨x, r, rfl⟩
      have d0 : w5.cell? ⟨g, 1, none⟩ = some (.int .u64 x.2) := by
        rw [World.ownsRow.cellAt HD5.out.1 1 (by omega), hxr]
        rfl
      have f0 := World.ownsRow.frozenAt HD5.out.1 1
      have HDZ : Hid (Drawn B b _ sv 31 w (w5.setCell ⟨g, 1, none⟩ (.int .u64 9223372036854775808)) (.slice (some ⟨g, 0, none⟩) t4.length cap) ((x.1, 9223372036854775808) :: r)) := drawn_store HD5.out rfl HBW.out (by rw [hxr]; rfl) (by rw [hxr]; rfl) (by
        intro y hy
        have hok := HD5.out.2.1
        rw [hxr] at hok
        rcases List.mem_cons.1 hy with rfl | hy
        · have := hok x (by simp)
          exact ⟨this.1, this.2.1, by simp, by simp⟩
        · exact hok y (by simp [hy]))
      clear hxr HD5
      go_wp2_with fail
      first
        | (go_ret3; exact ⟨k, _, _, _, rfl, Drawn.term HDZ.out (by omega) hk1 hk (by omega) (by omega) (by omega)⟩)
        | (go_region
           all_goals
             go_wp2_with fail
             go_ret3
             exact ⟨k, _, _, _, rfl, Drawn.term HDZ.out.drew (by omega) hk1 hk (by omega) (by omega) (by omega)⟩)
    by_cases z1 : z = 1
    · subst z1
      have HO6 : Hid (OwnNodes w5 w.heap.size (.slice (some ⟨g, 0, none⟩) (t4.length - 1) cap) (t4.take (t4.length - 1))) := own_cutN HD5.out.1 (by omega)
      have HT6 : Hid (TermD B b (m + 1000) sv w w5 k (1 + y) (.slice (some ⟨g, 0, none⟩) (t4.length - 1) cap) (t4.take (t4.length - 1))) := ⟨hk1, hk, by omega, by omega, HO6.out, fun x hx => HD5.out.2.1 x (List.mem_of_mem_take hx), by simp; omega, HD5.out.2.2.2.2.1, HC5.out.more (by omega)⟩
      obtain ⟨len1, hlen1⟩ : ∃ len1 : Nat, t4.length = len1 + 1 := ⟨t4.length - 1, by omega⟩
      rw [show t4.length - 1 = len1 from by omega] at HT6
      have hsub : (((len1 + 1 : Nat) : Int)) - 1 = (len1 : Int) := by omega
      rw [hlen1] at hcap hl31 ⊢
      clear HO6 HD5 hl1
      go_wp2_with fail
      go_ret3
      exact ⟨k, _, _, _, rfl, HT6.out⟩
    by_cases z2 : z = 2
    · subst z2
      have g7 := GA.out [0, 4, 5] 0 5 _ w5 (by simp) (by simp) (by decide) HC5.out (by omega)
      go_wp2_with fail
      refine g7.mono ?_
      rintro e w6 ⟨nv, ⟨hnv0, hnv1⟩, rfl, ho6, hc6⟩
      have HD6 : Hid (Drawn B b _ sv 31 w w6 (.slice (some ⟨g, 0, none⟩) t4.length cap) t4) := HD5.out.only HBW.out ho6 hc6
      clear g7 ho6 hc6 HD5
      go_wp2_with fail
      go_ret3
      exact ⟨k, _, _, _, rfl, Drawn.term HD6.out (by omega) hk1 hk (by omega) (by omega) (by omega)⟩
    by_cases z3 : z = 3
    · subst z3
      have g7 := GP.out 23 _ w5 (by omega) (by omega) HC5.out (by omega)
      go_wp2_with fail
      refine g7.mono ?_
      rintro e w6 ⟨nv, ⟨hnv0, hnv1⟩, rfl, ho6, hc6⟩
      have HD6 : Hid (Drawn B b _ sv 31 w w6 (.slice (some ⟨g, 0, none⟩) t4.length cap) t4) := HD5.out.only HBW.out ho6 hc6
      clear g7 ho6 hc6 HD5
      obtain ⟨r, x, hxr⟩ : ∃ r x, t4 = r ++ [x] := by
        have hne : t4 ≠ [] := by intro e; rw [e] at hl1; simp at hl1
        exact ⟨t4.dropLast, t4.getLast hne, (List.dropLast_concat_getLast hne).symm⟩
      have hrl : t4.length = r.length + 1 := by rw [hxr]; simp
      have d0 : w6.cell? ⟨g, r.length * 2, none⟩ = some (.int .i64 x.1) := by
        rw [World.ownsRow.cellAt HD6.out.1 (r.length * 2) (by omega), (flat_cell t4 r.length (by omega)).1]
        simp [hxr]
      have f0 := World.ownsRow.frozenAt HD6.out.1 (r.length * 2)
      have HDZ : Hid (Drawn B b _ sv 31 w (w6.setCell ⟨g, r.length * 2, none⟩ (.int .i64 nv)) (.slice (some ⟨g, 0, none⟩) t4.length cap) (r ++ [(nv, x.2)])) := drawn_store HD6.out rfl HBW.out (by rw [hxr]; exact flat_last r x nv) (by rw [hxr]; simp) (by
        intro y hy
        have hok := HD6.out.2.1
        rw [hxr] at hok
        rcases List.mem_append.1 hy with hy | hy
        · exact hok y (by simp [hy])
        · simp at hy
          subst hy
          have := hok x (by simp)
          exact ⟨by simp only; omega, by simp only; omega, this.2.2.1, this.2.2.2⟩)
      have hsub : ((t4.length : Nat) : Int) - 1 = (r.length : Int) := by omega
      have hrlt : r.length < t4.length := by omega
      clear hxr HD6 hrl
      generalize r.length = len1 at *
      go_wp2_with fail
      first
        | (go_ret3; exact ⟨k, _, _, _, rfl, Drawn.term HDZ.out (by omega) hk1 hk (by omega) (by omega) (by omega)⟩)
        | (go_region
           all_goals
             go_wp2_with fail
             go_ret3
             exact ⟨k, _, _, _, rfl, Drawn.term HDZ.out.drew (by omega) hk1 hk (by omega) (by omega) (by omega)⟩)
    have ez0 : (z == 0) = false := beq_eq_false_iff_ne.2 z0
    have ez1 : (z == 1) = false := beq_eq_false_iff_ne.2 z1
    have ez2 : (z == 2) = false := beq_eq_false_iff_ne.2 z2
    have ez3 : (z == 3) = false := beq_eq_false_iff_ne.2 z3
    clear z0 z1 z2 z3
    go_wp2_with fail
    go_ret3
    exact ⟨k, _, _, _, rfl, Drawn.term HD5.out (by omega) hk1 hk (by omega) (by omega) (by omega)⟩
end Go.Proofs.YtkmgcgmeibhnmaaDoor

namespace Go.Proofs.YtkmgcgmeibhnmaaDoor
open Go Go.RowKit
open M
set_option linter.unusedVariables false

theorem big_yes (a0 a1 : Option Addr) (l0 c0 l1 c1 : Nat) (h0 : l0 ≤ 9223372036854775807) (h1 : l1 ≤ 9223372036854775807) (h : 1048576 < l0 + l1) (w : World) :
    Calls Tryd.prog 14 #[.slice a0 l0 c0, .slice a1 l1 c1] w fun e w' => e = .returned (.bool true) ∧ w' = w := by
  by_cases hl : 1048576 < l0
  · go_enter Tryd.func14, Tryd.ntmps14
    go_wp2
    go_ret
    exact ⟨rfl, rfl⟩
  · have hd : decide (1048576 - (l0 : Int) < (l1 : Int)) = true := decide_eq_true (by omega)
    go_enter Tryd.func14, Tryd.ntmps14
    go_wp2
    go_ret
    exact ⟨ret_bool (by first | rfl | exact hd | exact decide_eq_false (by omega)), rfl⟩
theorem big_no (a0 a1 : Option Addr) (l0 c0 l1 c1 : Nat) (h0 : l0 ≤ 9223372036854775807) (h1 : l1 ≤ 9223372036854775807) (h : l0 + l1 ≤ 1048576) (w : World) :
    Calls Tryd.prog 14 #[.slice a0 l0 c0, .slice a1 l1 c1] w fun e w' => e = .returned (.bool false) ∧ w' = w := by
  have hd : decide (1048576 - (l0 : Int) < (l1 : Int)) = false := decide_eq_false (by omega)
  go_enter Tryd.func14, Tryd.ntmps14
  go_wp2
  go_ret
  exact ⟨ret_bool (by first | rfl | exact hd | exact decide_eq_false (by omega)), rfl⟩
theorem sum_bd (n x : Int) (h0 : 0 ≤ n) (h1 : n < 1000003) (hx0 : 0 ≤ x) (hx1 : x ≤ 255) : 0 ≤ (31 * n + x) % 1000003 ∧ (31 * n + x) % 1000003 < 1000003 := by omega
set_option maxHeartbeats 400000 in
theorem lawNumber_nil (a : Option Addr) (c : Nat) (w : World) :
    Calls Tryd.prog 22 #[.slice a 0 c] w fun e w' => ∃ x : Int, (0 ≤ x ∧ x < 1000003) ∧ e = .returned (.int .i64 x) ∧ w' = w := by
  go_enter Tryd.func22, Tryd.ntmps22
  go_wp2
  go_loop [3, 8] (fun n i => i = .int .i64 0 ∧ n = .int .i64 0) (fun _ _ => 0)
  case atStart => exact ⟨rfl, rfl⟩
  case round =>
    obtain ⟨rfl, rfl⟩ := hrel
    go_wp2
    go_ret
    exact ⟨0, ⟨by omega, by omega⟩, rfl, rfl⟩
set_option maxHeartbeats 400000 in
theorem lawNumber_row (cb off len cap : Nat) (hlen : len ≤ 9223372036854775807) (w : World) (hc : ∀ i : Nat, i < len → ∃ x : Int, w.cell? ⟨cb, off + i, none⟩ = some (.int .u8 x) ∧ 0 ≤ x ∧ x ≤ 255) :
    Calls Tryd.prog 22 #[.slice (some ⟨cb, off, none⟩) len cap] w fun e w' => ∃ x : Int, (0 ≤ x ∧ x < 1000003) ∧ e = .returned (.int .i64 x) ∧ w' = w := by
  go_enter Tryd.func22, Tryd.ntmps22
  go_wp2
  go_loop [3, 8] (fun n i => ∃ (j : Nat) (x : Int), j ≤ len ∧ i = .int .i64 j ∧ n = .int .i64 x ∧ 0 ≤ x ∧ x < 1000003) (fun _ i => len - (intOf i).toNat)
  case atStart => exact ⟨0, 0, by omega, rfl, rfl, by omega, by omega⟩
  case round =>
    obtain ⟨j, x, hj, rfl, rfl, hx0, hx1⟩ := hrel
    by_cases hlt : j < len
    · obtain ⟨y, hy, hy0, hy1⟩ := hc j hlt
      have hs := sum_bd x y hx0 hx1 hy0 hy1
      clear hc
      go_wp2
      go_round
      case rel => exact ⟨j + 1, _, by omega, by go_num, rfl, hs.1, hs.2⟩
      case measure => simp [intOf]; omega
    · go_wp2
      go_ret
      exact ⟨x, ⟨hx0, hx1⟩, rfl, rfl⟩
theorem lawNumber_any (B : Nat) (sv : Value) (w : World) (h : CodeOk B w sv) :
    Calls Tryd.prog 22 #[sv] w fun e w' => ∃ x : Int, (0 ≤ x ∧ x < 1000003) ∧ e = .returned (.int .i64 x) ∧ w' = w := by
  rcases h with ⟨a, cap, rfl⟩ | ⟨cb, off, len, cap, rfl, _, hlen, hc⟩
  · exact lawNumber_nil a cap w
  · exact lawNumber_row cb off len cap hlen w hc
theorem cur_new (w : World) (sv : Value) (h : CodeOk w.heap.size w sv) : Cur w.heap.size w.heap.size 0 sv (w.alloc (.cells #[sv, .int .i64 0, .int .u64 0] 78)) := by
  refine ⟨Nat.le_refl _, by simp, ?_, h.below ((Below.refl _ _).alloc (Nat.le_refl _) _), ⟨0, ?_, by omega⟩, ⟨0, ?_, by omega, by omega⟩, ?_, ?_⟩
  · rw [World.cell?_alloc_new]; rfl
  · rw [World.cell?_alloc_new]; rfl
  · rw [World.cell?_alloc_new]; rfl
  · rw [World.frozen?_alloc_at (hn := rfl)]
  · rw [World.frozen?_alloc_at (hn := rfl)]
/-- a state that is drawn -/
def StateD (w w' : World) (v : Value) (st : List Int) : Prop := w'.ownsRow w.heap.size 33 1 v st.length (cellsU st) ∧ ∀ s ∈ st, 0 ≤ s ∧ s ≤ 18446744073709551615
theorem oneU_cells (w : World) (n : Int) : ∀ (j : Nat) (u : Value), ([.int .u64 n] : List Value)[j]? = some u → (w.alloc (.cells #[.int .u64 n] 33)).cell? ((⟨w.heap.size, 0, none⟩ : Addr).add j) = some u := by
  intro j u hu
  match j, hu with
  | 0, hu => simp at hu; subst hu; simp [Addr.add]
set_option maxRecDepth 100000 in
set_option maxHeartbeats 2000000 in
theorem state_any (B b m : Nat) (sv : Value) (k : Nat) (n : Nat) (hk : k ≤ 65) (hn : n ≤ 5) (w : World) (hc : Cur B b m sv w) (hm : m ≤ 1000000) :
    Calls Tryd.prog 69 #[ptr b, .int .i64 k, .int .i64 (n : Int)] w fun e w' => ∃ v st, e = .returned v ∧ st.length = n ∧ StateD w w' v st ∧ Only b w w' ∧ Cur B b (m + 70) sv w' := by
  have HBW : Hid (b < w.heap.size) := hc.lies
  have HC0 : Hid _ := hc
  obtain ⟨i0, hi, hz0, hz1, hz2⟩ := info_parts infoU64
  have GW : Hid (∀ (m' : Nat) (w1 : World), Cur B b m' sv w1 → m' ≤ 2000000 → Calls Tryd.prog 97 #[ptr b, .int .i64 k] w1 fun e w' => ∃ x : Int, (0 ≤ x ∧ x ≤ 18446744073709551615) ∧ e = .returned (.int .u64 x) ∧ Only b w1 w' ∧ Cur B b (m' + 14) sv w') := fun m' w1 hc' hm' => word_any B b m' sv k hk w1 hc' (by omega)
  clear hc
  go_enter Tryd.func69, Tryd.ntmps69
  go_wp2_with fail
  go_loopw [7, 8] (fun v i wr => ∃ (j : Nat) (st : List Int), j ≤ n ∧ i = .int .i64 j ∧ st.length = j ∧ Hid (StateD w wr v st) ∧ Hid (Only b w wr) ∧ Hid (Cur B b (m + j * 14) sv wr)) (fun _ i _ => n - (intOf i).toNat)
  case atStart => exact ⟨0, [], by omega, rfl, rfl, ⟨World.ownsRow_nil _ _ _ _, fun s hs => by cases hs⟩, Only.refl _ _, by rw [Nat.zero_mul, Nat.add_zero]; exact HC0⟩
  case round =>
    obtain ⟨j, st, hj, rfl, hsl, HS, HO, HC⟩ := hrel
    by_cases hlt' : j < n
    · have g := GW.out _ wr HC.out (by omega)
      have HSL : Hid (st.length = j) := hsl
      have hst5 : st.length ≤ 5 := by omega
      clear hsl
      go_wp2_with fail
      refine g.mono ?_
      rintro e w2 ⟨x, ⟨hx0, hx1⟩, rfl, ho2, hc2⟩
      have own0 : w2.ownsRow w.heap.size 33 1 u7 st.length (cellsU st) := own_keeps HS.out.1 HBW.out ho2
      have own1 := own0.alloc (.cells #[.int .u64 x] 33)
      have HOW : Hid (w2.ownsRow w.heap.size 33 1 u7 st.length (cellsU st)) := own0
      have HO2 : Hid (Only b w w2) := HO.out.trans ho2
      have HC2 : Hid (Cur B b (m + (j + 1) * 14) sv w2) := hc2.more (by omega)
      have HX : Hid (0 ≤ x ∧ x ≤ 18446744073709551615) := ⟨hx0, hx1⟩
      have cellsN := oneU_cells w2 x
      have HSB : Hid _ := HS.out.2
      clear g ho2 hc2 own0 HS
      generalize hcu : cellsU st = xs0 at own1
      have HCU : Hid _ := hcu
      clear hcu
      go_wp2_with (at_builtin; refine wpList_append_own _ rfl _ _ 32 rfl w.heap.size 33 i0 (.int .u64 0) 1 8 Tryd.underlying32 hi hz0 hz1 hz2 rfl (by decide) _ _ _ rfl own1 ⟨w2.heap.size, 0, none⟩ 1 1 [.int .u64 x] rfl rfl cellsN (by intro u hu; simp at hu; subst hu; rfl) (by unfold maxLen; omega) (by omega) (by have := HO2.out.size; simp; omega) ?_)
      intro v7 w7 own7 grow7 _
      have HS7 : Hid (StateD w w7 v7 (st ++ [x])) := by
        refine ⟨?_, ?_⟩
        · rw [List.length_append]
          have h1 := own7
          rw [← HCU.out] at h1
          unfold cellsU at h1 ⊢
          rw [List.map_append]
          exact h1
        · intro s hs
          rcases List.mem_append.1 hs with hs | hs
          · exact HSB.out s hs
          · simp at hs
            subst hs
            exact HX.out
      have hrow : ∀ k, u7.ownBlock = some k → w.heap.size ≤ k := fun k hk => (World.ownsRow.lt HOW.out k hk).1
      have HO7 : Hid (Only b w w7) := by
        have hs := HO2.out.size
        exact ⟨grow7.os.trans HO2.out.os, grow7.tape.trans HO2.out.tape, grow7.output.trans HO2.out.output, Nat.le_trans hs (Nat.le_trans (by simp) grow7.size), fun k hk hks => by
          rw [grow7.block k (by simp; omega) (fun e => by have := hrow k e.symm; omega), Below.heap_alloc _ _ _ (by omega)]
          exact HO2.out.block k hk hks⟩
      have HC7 : Hid (Cur B b (m + (j + 1) * 14) sv w7) := by
        refine (HC2.out.alloc (.cells #[.int .u64 x] 33)).below ⟨grow7.os, grow7.tape, grow7.output, grow7.size, fun k hk => grow7.block k ?_ (fun e => ?_)⟩
        · have := HC2.out.lies
          simp
          omega
        · have := hrow k e.symm
          have := HBW.out
          omega
      clear own1 own7 grow7 cellsN hrow
      go_wp2_with fail
      go_roundw
      case rel => exact ⟨j + 1, st ++ [x], by omega, by go_num, by have := HSL.out; simp; omega, HS7, HO7, HC7⟩
      case measure => simp [intOf]; omega
    · obtain rfl : j = n := by omega
      have HR : Hid (∃ st : List Int, st.length = j ∧ StateD w wr u7 st ∧ Only b w wr ∧ Cur B b (m + 70) sv wr) := ⟨st, hsl, HS.out, HO.out, HC.out.more (by omega)⟩
      clear hsl HS HO HC
      go_wp2_with fail
      go_ret
      obtain ⟨st, h1, h2, h3, h4⟩ := HR.out
      exact ⟨_, st, rfl, h1, h2, h3, h4⟩
theorem equalNode (a b c d : Int) (w : World) : Sem.run Tryd.prog (Op.equalIn 10000 91 (.agg #[.int .i64 a, .int .u64 b]) (.agg #[.int .i64 c, .int .u64 d])) w = .ok (a == c && b == d) w := by
  have u3 := Tryd.underlying3
  have a3 := Tryd.isAgg3
  have z3 := Tryd.sizeOf3
  have u4 := Tryd.underlying33
  have a4 := Tryd.isAgg33
  have z4 := Tryd.sizeOf33
  have h := run_equalIn_agg (P := Tryd.prog) (w := w) 9999 91 #[.int .i64 a, .int .u64 b] #[.int .i64 c, .int .u64 d] (by kernel_rfl) (by kernel_rfl)
  rw [h]
  simp only [Program.fieldsOf, Tryd.underlying91]
  go_simp
  by_cases h1 : a = c <;> by_cases h2 : b = d <;> simp [h1, h2]
set_option maxRecDepth 100000 in
set_option maxHeartbeats 2000000 in
theorem sameNodes_in (b off cap b' off' cap' : Nat) (t : List Nd) (hl0 : t.length ≤ 9223372036854775807) (w : World)
    (hc : ∀ (i : Nat) (x : Nd), t[i]? = some x → w.cell? ⟨b, off + i * 2, none⟩ = some (.int .i64 x.1) ∧ w.cell? ⟨b, off + i * 2 + 1, none⟩ = some (.int .u64 x.2))
    (hc2 : ∀ (i : Nat) (x : Nd), t[i]? = some x → w.cell? ⟨b', off' + i * 2, none⟩ = some (.int .i64 x.1) ∧ w.cell? ⟨b', off' + i * 2 + 1, none⟩ = some (.int .u64 x.2)) :
    Calls Tryd.prog 18 #[.slice (some ⟨b, off, none⟩) t.length cap, .slice (some ⟨b', off', none⟩) t.length cap'] w fun e w' => e = .returned (.bool true) ∧ w'.heap = w.heap ∧ Below w.heap.size w w' := by
  have HC : Hid _ := hc
  have HC2 : Hid _ := hc2
  clear hc hc2
  go_enter Tryd.func18, Tryd.ntmps18
  go_wp2_with fail
  go_loopw [13] (fun i wr => ∃ j : Nat, j ≤ t.length ∧ i = .int .i64 j ∧ Hid (wr.heap = w.heap ∧ Below w.heap.size w wr)) (fun i _ => t.length - (intOf i).toNat)
  case atStart => exact ⟨0, by omega, rfl, rfl, Below.refl _ _⟩
  case round =>
    obtain ⟨j, hj, rfl, HB⟩ := hrel
    by_cases hlt' : j < t.length
    · obtain ⟨⟨op, n⟩, hx⟩ : ∃ x, t[j]? = some x := ⟨t[j], List.getElem?_eq_getElem hlt'⟩
      obtain ⟨c0, c1⟩ := HC.out j (op, n) hx
      obtain ⟨d0, d1⟩ := HC2.out j (op, n) hx
      have hcell : ∀ p : Addr, wr.cell? p = w.cell? p := fun p => by simp [World.cell?, HB.out.1]
      rw [← hcell] at c0 c1 d0 d1
      simp only at c0 c1 d0 d1
      have eqN := equalNode op n op n wr
      have eqN2 := equalNode op n op n wr.drew
      rw [show (op == op && n == n) = true from by simp] at eqN eqN2
      have HB2 : Hid (wr.drew.heap = w.heap ∧ Below w.heap.size w wr.drew) := ⟨HB.out.1, HB.out.2.drew⟩
      clear hx hcell
      go_wp2_with fail
      go_region
      all_goals
        go_wp2_with fail
        go_roundw
        case rel => exact ⟨j + 1, by omega, by go_num, HB2⟩
        case measure => simp [intOf]; omega
    · obtain rfl : j = t.length := by omega
      go_wp2_with fail
      go_ret
      exact ⟨rfl, HB.out.1, HB.out.2⟩
theorem sameNodes_nil (a a' : Option Addr) (cap cap' : Nat) (w : World) :
    Calls Tryd.prog 18 #[.slice a 0 cap, .slice a' 0 cap'] w fun e w' => e = .returned (.bool true) ∧ w' = w := by
  go_enter Tryd.func18, Tryd.ntmps18
  go_wp2_with fail
  go_loop [13] (fun i => i = .int .i64 0) (fun _ => 0)
  case atStart => rfl
  case round =>
    obtain rfl := hrel
    go_wp2_with fail
    go_ret
    exact ⟨rfl, rfl⟩
theorem sameNodes_any (u v : Value) (t : List Nd) (w : World) (h1 : NodesAt w u t) (h2 : NodesAt w v t) :
    Calls Tryd.prog 18 #[u, v] w fun e w' => e = .returned (.bool true) ∧ Below w.heap.size w w' := by
  obtain ⟨_, hls, k1⟩ := h1
  obtain ⟨_, hlt, k2⟩ := h2
  rcases k1 with ⟨rfl, a, cap, rfl⟩ | ⟨b, off, cap, rfl, hb, hc⟩
  · rcases k2 with ⟨_, a', cap', rfl⟩ | ⟨b', off', cap', rfl, _⟩
    all_goals
      refine (sameNodes_nil _ _ _ _ w).mono ?_
      rintro e w' ⟨he, rfl⟩
      exact ⟨he, Below.refl _ _⟩
  · rcases k2 with ⟨rfl, a', cap', rfl⟩ | ⟨b', off', cap', rfl, hb', hc'⟩
    · refine (sameNodes_nil _ _ _ _ w).mono ?_
      rintro e w' ⟨he, rfl⟩
      exact ⟨he, Below.refl _ _⟩
    · refine (sameNodes_in b off cap b' off' cap' t hlt w hc hc').mono ?_
      rintro e w' ⟨he, _, hb⟩
      exact ⟨he, hb⟩
set_option maxRecDepth 100000 in
set_option maxHeartbeats 2000000 in
theorem sameInts_in (b off cap b' off' cap' : Nat) (t : List Int) (hl0 : t.length ≤ 9223372036854775807) (w : World)
    (hc : ∀ (i : Nat) (x : Int), t[i]? = some x → w.cell? ⟨b, off + i, none⟩ = some (.int .i64 x))
    (hc2 : ∀ (i : Nat) (x : Int), t[i]? = some x → w.cell? ⟨b', off' + i, none⟩ = some (.int .i64 x)) :
    Calls Tryd.prog 30 #[.slice (some ⟨b, off, none⟩) t.length cap, .slice (some ⟨b', off', none⟩) t.length cap'] w fun e w' => e = .returned (.bool true) ∧ w'.heap = w.heap ∧ Below w.heap.size w w' := by
  have HC : Hid _ := hc
  have HC2 : Hid _ := hc2
  clear hc hc2
  go_enter Tryd.func30, Tryd.ntmps30
  go_wp2_with fail
  go_loopw [13] (fun i wr => ∃ j : Nat, j ≤ t.length ∧ i = .int .i64 j ∧ Hid (wr.heap = w.heap ∧ Below w.heap.size w wr)) (fun i _ => t.length - (intOf i).toNat)
  case atStart => exact ⟨0, by omega, rfl, rfl, Below.refl _ _⟩
  case round =>
    obtain ⟨j, hj, rfl, HB⟩ := hrel
    by_cases hlt' : j < t.length
    · obtain ⟨x, hx⟩ : ∃ x, t[j]? = some x := ⟨t[j], List.getElem?_eq_getElem hlt'⟩
      have c0 := HC.out j x hx
      have d0 := HC2.out j x hx
      have hcell : ∀ p : Addr, wr.cell? p = w.cell? p := fun p => by simp [World.cell?, HB.out.1]
      rw [← hcell] at c0 d0
      have HB2 : Hid (wr.drew.heap = w.heap ∧ Below w.heap.size w wr.drew) := ⟨HB.out.1, HB.out.2.drew⟩
      clear hx hcell
      go_wp2_with fail
      go_region
      all_goals
        go_wp2_with fail
        go_roundw
        case rel => exact ⟨j + 1, by omega, by go_num, HB2⟩
        case measure => simp [intOf]; omega
    · obtain rfl : j = t.length := by omega
      go_wp2_with fail
      go_ret
      exact ⟨rfl, HB.out.1, HB.out.2⟩
theorem sameInts_nil (a a' : Option Addr) (cap cap' : Nat) (w : World) :
    Calls Tryd.prog 30 #[.slice a 0 cap, .slice a' 0 cap'] w fun e w' => e = .returned (.bool true) ∧ w' = w := by
  go_enter Tryd.func30, Tryd.ntmps30
  go_wp2_with fail
  go_loop [13] (fun i => i = .int .i64 0) (fun _ => 0)
  case atStart => rfl
  case round =>
    obtain rfl := hrel
    go_wp2_with fail
    go_ret
    exact ⟨rfl, rfl⟩
theorem sameInts_any (u v : Value) (t : List Int) (w : World) (h1 : IntsAt w u t) (h2 : IntsAt w v t) :
    Calls Tryd.prog 30 #[u, v] w fun e w' => e = .returned (.bool true) ∧ Below w.heap.size w w' := by
  obtain ⟨hls, k1⟩ := h1
  obtain ⟨hlt, k2⟩ := h2
  rcases k1 with ⟨rfl, a, cap, rfl⟩ | ⟨b, off, cap, rfl, hb, hc⟩
  · rcases k2 with ⟨_, a', cap', rfl⟩ | ⟨b', off', cap', rfl, _⟩
    all_goals
      refine (sameInts_nil _ _ _ _ w).mono ?_
      rintro e w' ⟨he, rfl⟩
      exact ⟨he, Below.refl _ _⟩
  · rcases k2 with ⟨rfl, a', cap', rfl⟩ | ⟨b', off', cap', rfl, hb', hc'⟩
    · refine (sameInts_nil _ _ _ _ w).mono ?_
      rintro e w' ⟨he, rfl⟩
      exact ⟨he, Below.refl _ _⟩
    · refine (sameInts_in b off cap b' off' cap' t hlt w hc hc').mono ?_
      rintro e w' ⟨he, _, hb⟩
      exact ⟨he, hb⟩
end Go.Proofs.YtkmgcgmeibhnmaaDoor

namespace Go.Proofs.YtkmgcgmeibhnmaaDoor
open Go Go.ChangeShapes Go.WideShapes Go.ChangeAt Go.RowKit
open M

theorem laidOut : laidOutB Tryd.prog = true := by kernel_rfl
theorem block_lt {w : World} {b o : Nat} {v : Value} (h : w.cell? ⟨b, o, none⟩ = some v) : b < w.heap.size := by
  by_cases hb : b < w.heap.size
  · exact hb
  · have e : w.heap[b]? = none := Array.getElem?_eq_none (by omega)
    simp [World.cell?, e] at h
theorem codeOk_of {H : Type} {enc : TypeId × Value → H} {W : World} {a : Option Addr} {len cap : Nat} {d : DataW H} {p : List MemPlace}
    (h : DataW.Trod enc Tryd.prog W 0 (fun _ => true) true 22 (.slice a len cap) d p) : CodeOk W.heap.size W (.slice a len cap) ∧ len ≤ 9223372036854775807 := by
  obtain ⟨fuel, hf⟩ := h
  rcases open_ints Tryd.underlying22 Tryd.underlying5 (by kernel_rfl) hf with ⟨hcs, _⟩ | ⟨x, l, c, zs, hcs, _, hl, hm, hz, _, hcell, hwz⟩
  · simp [Value.cells] at hcs
    obtain ⟨rfl, rfl, rfl⟩ := hcs
    exact ⟨Or.inl ⟨none, 0, rfl⟩, by omega⟩
  · simp [Value.cells] at hcs
    obtain ⟨rfl, rfl, rfl⟩ := hcs
    have hm' := hm
    unfold maxLen at hm'
    refine ⟨?_, by omega⟩
    by_cases h0 : len = 0
    · subst h0
      exact Or.inl ⟨_, _, rfl⟩
    · obtain ⟨b, off, spot⟩ := x
      have hz' : zs.length = cap := by simpa using hz
      have hc := hcell 0 (by omega)
      have hspot : spot = none := by simpa [Addr.add] using World.cell?_spot hc
      subst hspot
      have hc0 : W.cell? ⟨b, off, none⟩ = some (.int .u8 (zs.getD 0 0)) := by simpa [Addr.add] using hc
      refine Or.inr ⟨b, off, len, cap, rfl, block_lt hc0, by omega, fun i hi => ?_⟩
      have hci := hcell i (by omega)
      have hr := range_u8 hwz i
      exact ⟨zs.getD i 0, by
        by_cases hi0 : i = 0
        · subst hi0
          simpa [Addr.add] using hci
        · simpa [Addr.add, hi0] using hci, by simpa [List.getD] using hr.1, by simpa [List.getD] using hr.2⟩
end Go.Proofs.YtkmgcgmeibhnmaaDoor

namespace Go.Proofs.YtkmgcgmeibhnmaaDoor
open Go Go.RowKit
open M
set_option linter.unusedVariables false

/-- a drawn list of nodes, its memory new -/
def NodesD (w w' : World) (v : Value) (t : List Nd) : Prop := OwnNodes w' w.heap.size v t ∧ (∀ x ∈ t, NdOk x) ∧ t.length ≤ 31
theorem NodesD.below {w w' w2 : World} {v : Value} {t : List Nd} (h : NodesD w w' v t) (hb : Below w'.heap.size w' w2) : NodesD w w2 v t := ⟨owns_below h.1 hb, h.2⟩
theorem NodesD.at {w w' : World} {v : Value} {t : List Nd} (h : NodesD w w' v t) : NodesAt w' v t := nodes_of_own h.2.1 (by have := h.2.2; omega) h.1
theorem TermD.out {B m : Nat} {sv : Value} {w w0 w' : World} {k : Nat} {vars : Int} {v : Value} {t : List Nd} (h : TermD B w.heap.size m sv w0 w' k vars v t) (h0 : Below w.heap.size w w0) : NodesD w w' v t ∧ Below w.heap.size w w' := by
  obtain ⟨_, _, _, _, h1, h2, h3, h4, _⟩ := h
  exact ⟨⟨OwnNodes.low h1 h0.size, h2, h3⟩, h0.trans (h4.below (Nat.le_refl _) h0.size)⟩
set_option maxRecDepth 100000 in
theorem drawTerm_any (sv : Value) (w : World) (h : CodeOk w.heap.size w sv) :
    Calls Tryd.prog 75 #[sv] w fun e w' => ∃ (k : Nat) (vars : Int) (v : Value) (t : List Nd), e = .returned (.tuple #[.int .i64 (k : Int), .int .i64 vars, v]) ∧ (1 ≤ k ∧ k ≤ 64) ∧ (0 ≤ vars ∧ vars ≤ 5) ∧ NodesD w w' v t ∧ Below w.heap.size w w' := by
  have hc := cur_new w sv h
  have g := term_any _ _ _ sv _ hc (by omega)
  have HB0 : Hid (Below w.heap.size w (w.alloc (.cells #[sv, .int .i64 0, .int .u64 0] 78))) := (Below.refl _ _).alloc (Nat.le_refl _) _
  obtain ⟨sa, sl, sc, rfl⟩ : ∃ sa sl sc, sv = .slice sa sl sc := by
    rcases h with ⟨a, cap, rfl⟩ | ⟨cb, off, len, cap, rfl, _⟩
    · exact ⟨_, _, _, rfl⟩
    · exact ⟨_, _, _, rfl⟩
  clear h hc
  go_enter Tryd.func75, Tryd.ntmps75
  go_wp2_with fail
  refine g.mono ?_
  rintro e w1 ⟨k, vars, v, t, rfl, hd⟩
  have HD : Hid _ := hd
  clear g hd
  go_wp2_with fail
  go_ret3
  obtain ⟨h1, h2⟩ := TermD.out HD.out HB0.out
  exact ⟨k, vars, v, t, rfl, ⟨HD.out.1, HD.out.2.1⟩, ⟨HD.out.2.2.1, HD.out.2.2.2.1⟩, h1, h2⟩
set_option maxRecDepth 100000 in
theorem drawVarsIn_any (sv : Value) (w : World) (h : CodeOk w.heap.size w sv) :
    Calls Tryd.prog 31 #[sv] w fun e w' => ∃ (k : Nat) (vars : Int) (v : Value) (t : List Nd), e = .returned (.tuple #[.int .i64 (k : Int), .int .i64 vars, v]) ∧ (1 ≤ k ∧ k ≤ 64) ∧ (0 ≤ vars ∧ vars ≤ 5) ∧ NodesD w w' v t ∧ Below w.heap.size w w' := by
  have g := drawTerm_any sv w h
  obtain ⟨sa, sl, sc, rfl⟩ : ∃ sa sl sc, sv = .slice sa sl sc := by
    rcases h with ⟨a, cap, rfl⟩ | ⟨cb, off, len, cap, rfl, _⟩
    · exact ⟨_, _, _, rfl⟩
    · exact ⟨_, _, _, rfl⟩
  clear h
  go_enter Tryd.func31, Tryd.ntmps31
  go_wp2_with fail
  refine g.mono ?_
  rintro e w1 ⟨k, vars, v, t, rfl, hd⟩
  have HD : Hid _ := hd
  clear g hd
  go_wp2_with fail
  go_ret3
  exact ⟨k, vars, v, t, rfl, HD.out⟩
set_option maxRecDepth 100000 in
set_option maxHeartbeats 1000000 in
theorem drawValueOf_any (sv : Value) (w : World) (h : CodeOk w.heap.size w sv) :
    Calls Tryd.prog 24 #[sv] w fun e w' => ∃ (k : Nat) (v : Value) (t : List Nd) (sv' : Value) (st : List Int), e = .returned (.tuple #[.int .i64 (k : Int), v, sv']) ∧ (1 ≤ k ∧ k ≤ 64) ∧ st.length ≤ 5 ∧ NodesD w w' v t ∧ StateD w w' sv' st ∧ Below w.heap.size w w' := by
  have hc := cur_new w sv h
  have g := term_any _ _ _ sv _ hc (by omega)
  have HB0 : Hid (Below w.heap.size w (w.alloc (.cells #[sv, .int .i64 0, .int .u64 0] 78))) := (Below.refl _ _).alloc (Nat.le_refl _) _
  obtain ⟨sa, sl, sc, rfl⟩ : ∃ sa sl sc, sv = .slice sa sl sc := by
    rcases h with ⟨a, cap, rfl⟩ | ⟨cb, off, len, cap, rfl, _⟩
    · exact ⟨_, _, _, rfl⟩
    · exact ⟨_, _, _, rfl⟩
  clear h hc
  go_enter Tryd.func24, Tryd.ntmps24
  go_wp2_with fail
  refine g.mono ?_
  rintro e w1 ⟨k, vars, v, t, rfl, hd⟩
  have HD : Hid (TermD _ _ _ _ _ w1 k vars v t) := hd
  obtain ⟨n, hn⟩ := Int.eq_ofNat_of_zero_le hd.2.2.1
  have hn5 : n ≤ 5 := by have := hd.2.2.2.1; omega
  have g2 := state_any _ _ _ _ k n (by have := hd.2.1; omega) hn5 w1 hd.2.2.2.2.2.2.2.2 (by omega)
  subst hn
  clear g hd
  go_wp2_with fail
  refine g2.mono ?_
  rintro e w2 ⟨v2, st, rfl, hsl, hs2, ho2, hc2⟩
  have HR : Hid ((1 ≤ k ∧ k ≤ 64) ∧ st.length ≤ 5 ∧ NodesD w w2 v t ∧ StateD w w2 v2 st ∧ Below w.heap.size w w2) := by
    obtain ⟨h1, h2⟩ := TermD.out HD.out HB0.out
    have hlow : w.heap.size ≤ w1.heap.size := h2.size
    have hlt : w.heap.size < w1.heap.size := HD.out.2.2.2.2.2.2.2.2.lies
    refine ⟨⟨HD.out.1, HD.out.2.1⟩, by omega, ⟨?_, h1.2⟩, ⟨?_, hs2.2⟩, h2.trans (ho2.below (Nat.le_refl _) hlow)⟩
    · have hz : w.heap.size < w.heap.size + 1 := by omega
      have own0 : OwnNodes w1 (w.heap.size + 1) v t := by
        have h9 := HD.out.2.2.2.2.1
        rw [show (w.alloc (.cells #[.slice sa sl sc, .int .i64 0, .int .u64 0] 78)).heap.size = w.heap.size + 1 from by simp] at h9
        exact h9
      exact OwnNodes.low (own_keeps own0 hz ho2) (by omega)
    · obtain ⟨q1, q2⟩ := hs2.1
      refine ⟨q1, ?_⟩
      rcases q2 with q2 | ⟨g, cap, cur, hv, hg, r⟩
      · exact Or.inl q2
      · exact Or.inr ⟨g, cap, cur, hv, Nat.le_trans hlow hg, r⟩
  clear g2 hs2 ho2 hc2 HD
  go_wp2_with fail
  go_ret3
  exact ⟨k, v, t, v2, st, rfl, HR.out⟩
end Go.Proofs.YtkmgcgmeibhnmaaDoor

namespace Go.Proofs.YtkmgcgmeibhnmaaDoor
open Go Go.RowKit
open M
set_option linter.unusedVariables false

theorem trFold_no (k : Nat) : ∀ r : Tr, trVar r = false → trFold k r = .leaf (litN r.nd.1 (trVal k [] r))
  | .leaf x, h => by
    have h2 : ¬ x.1 = 2 := of_decide_eq_false h
    simp only [trFold, if_neg h2, Tr.nd, trVal, val0]
  | .one x a, h => by
    have h2 : ¬ trVar a = true := by
      have : trVar a = false := h
      rw [this]
      decide
    simp only [trFold, if_neg h2, Tr.nd, trVal]
  | .two x a b, h => by
    have h2 : ¬ (trVar a || trVar b) = true := by
      have : (trVar a || trVar b) = false := h
      rw [this]
      decide
    simp only [trFold, if_neg h2, Tr.nd, trVal]
theorem trFold_yes (k : Nat) : ∀ r : Tr, trVar r = true → trFold k r = Tr.over r.nd (r.parts.map (trFold k))
  | .leaf x, h => by
    have h2 : x.1 = 2 := of_decide_eq_true h
    simp only [trFold, if_pos h2, Tr.parts, List.map_nil, Tr.over, Tr.nd]
  | .one x a, h => by
    have h2 : trVar a = true := h
    simp only [trFold, if_pos h2, Tr.parts, List.map_cons, List.map_nil, Tr.over, Tr.nd]
  | .two x a b, h => by
    have h2 : (trVar a || trVar b) = true := h
    simp only [trFold, if_pos h2, Tr.parts, List.map_cons, List.map_nil, Tr.over, Tr.nd]
theorem litN_own {op v : Int} (h : ¬ ownOf op = 0) : ownOf (litN op v).1 = ownOf op := by
  have hr := ownOf_range op
  unfold litN
  by_cases h2 : ownOf op = 2
  · rw [if_pos h2, h2]
    rfl
  · rw [if_neg h2]
    show ownOf 1 = _
    rw [show ownOf op = 1 by omega]
    rfl
theorem trFold_kind {wide vars : Int} (k : Nat) (r : Tr) (h : r.Ok wide vars) : (trFold k r).kind = r.kind := by
  cases hv : trVar r with
  | false =>
    rw [trFold_no k r hv]
    exact litN_own (Tr.ok_nd h).1
  | true =>
    rw [trFold_yes k r hv]
    unfold Tr.kind
    rw [(Tr.over_parts r.nd _ (by cases r <;> simp [Tr.parts])).2]
theorem trFold_size (k : Nat) : ∀ r : Tr, (trFold k r).size ≤ r.size
  | .leaf x => by
    simp only [trFold]
    split <;> simp [Tr.size]
  | .one x a => by
    have ha := trFold_size k a
    simp only [trFold]
    split <;> simp only [Tr.size] <;> omega
  | .two x a b => by
    have ha := trFold_size k a
    have hb := trFold_size k b
    simp only [trFold]
    split <;> simp only [Tr.size] <;> omega
theorem novar_below {wide vars : Int} {r : Tr} (hok : r.Ok wide vars) (h : trVar r = false) (n : Nat) : VarsBelow r n := by
  intro x hx h2
  have := (trVar_iff hok).2 ⟨x, hx, h2⟩
  rw [h] at this
  cases this
theorem trFold_ok {k : Nat} (hk1 : 1 ≤ k) (hk : k ≤ 64) {vars : Int} : ∀ r : Tr, r.Ok k vars → Pos r → (trFold k r).Ok k vars ∧ Pos (trFold k r) := by
  apply Tr.ind
  intro r ih hok hp
  cases hv : trVar r with
  | false =>
    rw [trFold_no k r hv]
    have hvo := trVal_ok hk1 hk (st := []) (by simp) hok hp (novar_below hok hv _)
    have hk0 := Tr.kind_pos hok
    have hkk : r.kind = ownOf r.nd.1 := rfl
    generalize trVal k [] r = v at *
    rcases hvo with ⟨h1, h2, h3⟩ | ⟨h1, h2⟩
    · simp only at h1 h2 h3
      have e : litN r.nd.1 v = (1, v) := by
        unfold litN
        rw [if_neg (by omega)]
      rw [e]
      exact ⟨⟨(by show ¬ ownOf 1 = 0; decide), by show goodB k v = true; exact good_of k hk1 hk v h3, rfl⟩, fun x hx => by
        simp only [Tr.flat, List.mem_singleton] at hx
        subst hx
        exact h2⟩
    · simp only at h1 h2
      have e : litN r.nd.1 v = (20, v) := by
        unfold litN
        rw [if_pos (by omega)]
      rw [e]
      exact ⟨⟨(by show ¬ ownOf 20 = 0; decide), by show decide (v < 2) = true; exact decide_eq_true (by omega), rfl⟩, fun x hx => by
        simp only [Tr.flat, List.mem_singleton] at hx
        subst hx
        show 0 ≤ v
        omega⟩
  | true =>
    rw [trFold_yes k r hv]
    obtain ⟨n1, n2, n3⟩ := Tr.ok_nd hok
    have hfl : ∀ q ∈ r.parts, ∀ x ∈ q.flat, x ∈ r.flat := by
      intro q hq x hx
      rw [Tr.flat_eq r]
      exact List.mem_append_left _ (List.mem_flatMap.2 ⟨q, hq, hx⟩)
    have hl2 : (r.parts.map (trFold k)).length ≤ 2 := by cases r <;> simp [Tr.parts]
    have hih : ∀ q ∈ r.parts, (trFold k q).Ok k vars ∧ Pos (trFold k q) := fun q hq => ih q hq (Tr.ok_parts hok q hq).2 (fun x hx => hp x (hfl q hq x hx))
    refine ⟨Tr.over_ok n1 n2 (by simpa using n3) ?_, ?_⟩
    · intro q hq
      obtain ⟨q0, hq0, rfl⟩ := List.mem_map.1 hq
      exact ⟨by rw [trFold_kind k q0 (Tr.ok_parts hok q0 hq0).2]; exact (Tr.ok_parts hok q0 hq0).1, (hih q0 hq0).1⟩
    · intro x hx
      rw [Tr.flat_eq, (Tr.over_parts r.nd _ hl2).1, (Tr.over_parts r.nd _ hl2).2] at hx
      rcases List.mem_append.1 hx with hx | hx
      · obtain ⟨q, hq, hx⟩ := List.mem_flatMap.1 hx
        obtain ⟨q0, hq0, rfl⟩ := List.mem_map.1 hq
        exact (hih q0 hq0).2 x hx
      · simp at hx
        subst hx
        refine hp _ ?_
        rw [Tr.flat_eq r]
        simp
/-- without a variable the state says nothing -/
theorem trVal_no (k : Nat) (s t : List Int) : ∀ r : Tr, trVar r = false → trVal k s r = trVal k t r
  | .leaf x, h => by
    have h2 : ¬ x.1 = 2 := of_decide_eq_false h
    simp only [trVal, val0, if_neg h2]
  | .one x a, h => by
    have ha := trVal_no k s t a h
    simp only [trVal, ha]
  | .two x a b, h => by
    have h' : (trVar a || trVar b) = false := h
    rw [Bool.or_eq_false_iff] at h'
    have ha := trVal_no k s t a h'.1
    have hb := trVal_no k s t b h'.2
    simp only [trVal, ha, hb]
theorem litN_val (st : List Int) (op v : Int) : val0 st (litN op v) = v := by
  unfold val0 litN
  split
  · split at * <;> simp_all
  · rfl
/-- a folded tree comes to the same -/
theorem trFold_val (k : Nat) (st : List Int) : ∀ r : Tr, trVal k st (trFold k r) = trVal k st r
  | .leaf x => by
    simp only [trFold]
    split
    · rfl
    · rename_i h
      simp only [trVal, litN_val]
      simp only [val0, if_neg h]
  | .one x a => by
    have ha := trFold_val k st a
    simp only [trFold]
    split
    · simp only [trVal, ha]
    · rename_i h
      have h' : trVar a = false := by simpa using h
      simp only [trVal, litN_val]
      rw [trVal_no k [] st a h']
  | .two x a b => by
    have ha := trFold_val k st a
    have hb := trFold_val k st b
    simp only [trFold]
    split
    · simp only [trVal, ha, hb]
    · rename_i h
      have h' : trVar a = false ∧ trVar b = false := by simpa using h
      simp only [trVal, litN_val]
      rw [trVal_no k [] st a h'.1, trVal_no k [] st b h'.2]
theorem litN_var (op v : Int) : trVar (.leaf (litN op v)) = false := by
  unfold trVar litN
  apply decide_eq_false
  split
  · show ¬ (20 : Int) = 2
    decide
  · show ¬ (1 : Int) = 2
    decide
theorem trFold_var (k : Nat) : ∀ r : Tr, trVar (trFold k r) = trVar r
  | .leaf x => by
    simp only [trFold]
    split
    · rfl
    · rename_i h
      rw [litN_var]
      exact (decide_eq_false h).symm
  | .one x a => by
    have ha := trFold_var k a
    simp only [trFold]
    split
    · simp only [trVar, ha]
    · rename_i h
      rw [litN_var]
      simp only [trVar]
      cases hh : trVar a
      · rfl
      · exact absurd hh h
  | .two x a b => by
    have ha := trFold_var k a
    have hb := trFold_var k b
    simp only [trFold]
    split
    · simp only [trVar, ha, hb]
    · rename_i h
      rw [litN_var]
      simp only [trVar]
      cases hh : (trVar a || trVar b)
      · rfl
      · exact absurd hh h
theorem litN_again (op v : Int) : litN (litN op v).1 (litN op v).2 = litN op v := by
  unfold litN
  by_cases h : ownOf op = 2
  · simp only [if_pos h]
    rfl
  · simp only [if_neg h]
    rfl
/-- a folded tree is folded already -/
theorem trFold_again (k : Nat) : ∀ r : Tr, trFold k (trFold k r) = trFold k r
  | .leaf x => by
    simp only [trFold]
    by_cases h : x.1 = 2
    · simp only [if_pos h, trFold]
    · simp only [if_neg h, trFold]
      have h2 : ¬ (litN x.1 x.2).1 = 2 := of_decide_eq_false (litN_var x.1 x.2)
      rw [if_neg h2, litN_again]
  | .one x a => by
    have ha := trFold_again k a
    simp only [trFold]
    by_cases h : trVar a = true
    · simp only [if_pos h, trFold, trFold_var, ha]
    · simp only [if_neg h, trFold]
      have h2 := of_decide_eq_false (litN_var x.1 (val1 k x (trVal k [] a)))
      rw [if_neg h2, litN_again]
  | .two x a b => by
    have ha := trFold_again k a
    have hb := trFold_again k b
    simp only [trFold]
    by_cases h : (trVar a || trVar b) = true
    · simp only [if_pos h, trFold, trFold_var, ha, hb]
    · simp only [if_neg h, trFold]
      have h2 := of_decide_eq_false (litN_var x.1 (val2 k x (trVal k [] a) (trVal k [] b)))
      rw [if_neg h2, litN_again]
theorem litN_mem (i op v : Int) : ((2, i) : Nd) ≠ litN op v := by
  intro e
  have h2 := of_decide_eq_false (litN_var op v)
  rw [← e] at h2
  exact h2 rfl
/-- a folded tree has the same variables -/
theorem trFold_mem {wide vars : Int} (k : Nat) (i : Int) : ∀ r : Tr, r.Ok wide vars → (((2, i) : Nd) ∈ (trFold k r).flat ↔ ((2, i) : Nd) ∈ r.flat)
  | .leaf x, _ => by
    simp only [trFold]
    split
    · rfl
    · rename_i h
      simp only [Tr.flat, List.mem_singleton]
      constructor
      · intro e
        exact absurd e (litN_mem i _ _)
      · intro e
        rw [← e] at h
        exact absurd rfl h
  | .one x a, hok => by
    have ha := trFold_mem k i a hok.2.2.2.2
    simp only [trFold]
    split
    · simp only [Tr.flat, List.mem_append, ha]
    · rename_i h
      have h' : trVar a = false := by simpa using h
      simp only [Tr.flat, List.mem_append, List.mem_singleton]
      constructor
      · intro e
        exact absurd e (litN_mem i _ _)
      · rintro (e | e)
        · have := (trVar_iff hok.2.2.2.2).2 ⟨_, e, rfl⟩
          rw [h'] at this
          cases this
        · have h3 := hok.2.2.1
          rw [← e] at h3
          exact absurd (show (0 : Nat) = 1 from h3) (by decide)
  | .two x a b, hok => by
    have ha := trFold_mem k i a hok.2.2.2.2.2.1
    have hb := trFold_mem k i b hok.2.2.2.2.2.2
    simp only [trFold]
    split
    · simp only [Tr.flat, List.mem_append, ha, hb]
    · rename_i h
      have h' : trVar a = false ∧ trVar b = false := by simpa using h
      simp only [Tr.flat, List.mem_append, List.mem_singleton]
      constructor
      · intro e
        exact absurd e (litN_mem i _ _)
      · rintro ((e | e) | e)
        · have := (trVar_iff hok.2.2.2.2.2.1).2 ⟨_, e, rfl⟩
          rw [h'.1] at this
          cases this
        · have := (trVar_iff hok.2.2.2.2.2.2).2 ⟨_, e, rfl⟩
          rw [h'.2] at this
          cases this
        · have h3 := hok.2.2.1
          rw [← e] at h3
          exact absurd (show (0 : Nat) = 2 from h3) (by decide)
theorem trPut_flat {wide vars : Int} (bs : List Tr) : ∀ r : Tr, r.Ok wide vars → Pos r → VarsBelow r bs.length → (trPut bs r).flat = putsL (bs.map Tr.flat) r.flat
  | .leaf x, hok, hp, hv => by
    simp only [trPut, putsL, Tr.flat, List.flatMap_cons, List.flatMap_nil, List.append_nil]
    split
    · rename_i h
      have h1 := hv x (by simp [Tr.flat]) h
      simp [List.getD_eq_getElem?_getD, h1]
    · rfl
  | .one x a, hok, hp, hv => by
    have ha := trPut_flat bs a hok.2.2.2.2 (fun x hx => hp x (by simp [Tr.flat, hx])) (fun x hx => hv x (by simp [Tr.flat, hx]))
    have hx : ¬ x.1 = 2 := by
      intro e
      have h3 := hok.2.2.1
      rw [e] at h3
      exact absurd (show (0 : Nat) = 1 from h3) (by decide)
    simp only [trPut, Tr.flat]
    rw [putsL_snoc, if_neg hx, ha]
  | .two x a b, hok, hp, hv => by
    have ha := trPut_flat bs a hok.2.2.2.2.2.1 (fun x hx => hp x (by simp [Tr.flat, hx])) (fun x hx => hv x (by simp [Tr.flat, hx]))
    have hb := trPut_flat bs b hok.2.2.2.2.2.2 (fun x hx => hp x (by simp [Tr.flat, hx])) (fun x hx => hv x (by simp [Tr.flat, hx]))
    have hx : ¬ x.1 = 2 := by
      intro e
      have h3 := hok.2.2.1
      rw [e] at h3
      exact absurd (show (0 : Nat) = 2 from h3) (by decide)
    simp only [trPut, Tr.flat]
    rw [putsL_snoc, if_neg hx, ha, hb]
    unfold putsL
    rw [List.flatMap_append]
theorem trPut_kind {wide vars : Int} (bs : List Tr) (hb : ∀ q ∈ bs, q.kind = 1) (r : Tr) (hok : r.Ok wide vars) : (trPut bs r).kind = r.kind := by
  cases r with
  | leaf x =>
    simp only [trPut]
    split
    · rename_i h
      have e : (Tr.leaf x).kind = 1 := by
        show ownOf x.1 = 1
        rw [h]
        rfl
      rw [e, List.getD_eq_getElem?_getD]
      cases hg : bs[x.2.toNat]? with
      | none => exact e
      | some q => exact hb q (List.mem_of_getElem? hg)
    · rfl
  | one x a => rfl
  | two x a b => rfl
theorem trPut_ok {wide vars : Int} (bs : List Tr) (hb : ∀ q ∈ bs, q.kind = 1 ∧ q.Ok wide vars) : ∀ r : Tr, r.Ok wide vars → (trPut bs r).Ok wide vars
  | .leaf x, hok => by
    simp only [trPut]
    split
    · rw [List.getD_eq_getElem?_getD]
      cases hg : bs[x.2.toNat]? with
      | none => exact hok
      | some q => exact (hb q (List.mem_of_getElem? hg)).2
    · exact hok
  | .one x a, hok => by
    have ha := trPut_ok bs hb a hok.2.2.2.2
    exact ⟨hok.1, hok.2.1, hok.2.2.1, by rw [trPut_kind bs (fun q hq => (hb q hq).1) a hok.2.2.2.2]; exact hok.2.2.2.1, ha⟩
  | .two x a b, hok => by
    have ha := trPut_ok bs hb a hok.2.2.2.2.2.1
    have hb' := trPut_ok bs hb b hok.2.2.2.2.2.2
    exact ⟨hok.1, hok.2.1, hok.2.2.1, by rw [trPut_kind bs (fun q hq => (hb q hq).1) a hok.2.2.2.2.2.1]; exact hok.2.2.2.1, by rw [trPut_kind bs (fun q hq => (hb q hq).1) b hok.2.2.2.2.2.2]; exact hok.2.2.2.2.1, ha, hb'⟩
/-- what is put for the variables does as their values do -/
theorem trPut_val (k : Nat) (st : List Int) (bs : List Tr) : ∀ r : Tr, VarsBelow r bs.length → trVal k st (trPut bs r) = trVal k (bs.map (trVal k st)) r
  | .leaf x, hv => by
    simp only [trPut]
    split
    · rename_i h
      have h1 := hv x (by simp [Tr.flat]) h
      simp only [trVal, val0, if_pos h]
      simp [List.getD_eq_getElem?_getD, h1]
    · rename_i h
      simp only [trVal, val0, if_neg h]
  | .one x a, hv => by
    have ha := trPut_val k st bs a (fun x hx => hv x (by simp [Tr.flat, hx]))
    simp only [trPut, trVal, ha]
  | .two x a b, hv => by
    have ha := trPut_val k st bs a (fun x hx => hv x (by simp [Tr.flat, hx]))
    have hb := trPut_val k st bs b (fun x hx => hv x (by simp [Tr.flat, hx]))
    simp only [trPut, trVal, ha, hb]
end Go.Proofs.YtkmgcgmeibhnmaaDoor

namespace Go.Proofs.YtkmgcgmeibhnmaaDoor
open Go Go.RowKit
open M
set_option linter.unusedVariables false

/-- a row of nodes is read in one way -/
theorem flat_one_way {wide vars wide' vars' : Int} : ∀ (T1 : Tr) (s1 s2 : List Nd) (T2 : Tr), T1.Ok wide vars → T2.Ok wide' vars' → s1 ++ T1.flat = s2 ++ T2.flat → T1 = T2 ∧ s1 = s2
  | .leaf x, s1, s2, T2, h1, h2, e => by
    have e' := e
    rw [Tr.flat_eq T2, ← List.append_assoc] at e'
    obtain ⟨e1, e2⟩ := List.append_inj' (show s1 ++ [x] = (s2 ++ T2.parts.flatMap Tr.flat) ++ [T2.nd] from e') rfl
    have hx : x = T2.nd := by simpa using e2
    have hm := (Tr.ok_nd h2).2.2
    rw [← hx, h1.2.2] at hm
    cases T2 with
    | leaf y =>
      simp [Tr.nd] at hx
      subst hx
      exact ⟨rfl, by simpa [Tr.parts] using e1⟩
    | one y a => simp [Tr.parts] at hm
    | two y a b => simp [Tr.parts] at hm
  | .one x a, s1, s2, T2, h1, h2, e => by
    have e' := e
    rw [Tr.flat_eq T2, ← List.append_assoc] at e'
    obtain ⟨e1, e2⟩ := List.append_inj' (show (s1 ++ a.flat) ++ [x] = (s2 ++ T2.parts.flatMap Tr.flat) ++ [T2.nd] from by rw [← e']; simp [Tr.flat]) rfl
    have hx : x = T2.nd := by simpa using e2
    have hm := (Tr.ok_nd h2).2.2
    rw [← hx, h1.2.2.1] at hm
    cases T2 with
    | leaf y => simp [Tr.parts] at hm
    | one y c =>
      simp [Tr.nd] at hx
      subst hx
      obtain ⟨f1, f2⟩ := flat_one_way a s1 s2 c h1.2.2.2.2 h2.2.2.2.2 (by simpa [Tr.parts] using e1)
      exact ⟨by rw [f1], f2⟩
    | two y c d => simp [Tr.parts] at hm
  | .two x a b, s1, s2, T2, h1, h2, e => by
    have e' := e
    rw [Tr.flat_eq T2, ← List.append_assoc] at e'
    obtain ⟨e1, e2⟩ := List.append_inj' (show (s1 ++ a.flat ++ b.flat) ++ [x] = (s2 ++ T2.parts.flatMap Tr.flat) ++ [T2.nd] from by rw [← e']; simp [Tr.flat]) rfl
    have hx : x = T2.nd := by simpa using e2
    have hm := (Tr.ok_nd h2).2.2
    rw [← hx, h1.2.2.1] at hm
    cases T2 with
    | leaf y => simp [Tr.parts] at hm
    | one y c => simp [Tr.parts] at hm
    | two y c d =>
      simp [Tr.nd] at hx
      subst hx
      obtain ⟨f1, f2⟩ := flat_one_way b (s1 ++ a.flat) (s2 ++ c.flat) d h1.2.2.2.2.2.2 h2.2.2.2.2.2.2 (by simpa [Tr.parts] using e1)
      obtain ⟨f3, f4⟩ := flat_one_way a s1 s2 c h1.2.2.2.2.2.1 h2.2.2.2.2.2.1 f2
      exact ⟨by rw [f1, f3], f4⟩
/-- the tree of the row of a good tree is that tree -/
theorem root_of_flat {wide vars : Int} {T : Tr} (h : T.Ok wide vars) (hw : wideB wide = true) (h1 : 1 ≤ vars) (h4 : vars ≤ 4) (hs : T.size ≤ 48) : 0 < kindL wide vars T.flat ∧ pileT wide vars T.flat T.flat.length = some [⟨0, T.kind, T⟩] := by
  have hk := Tr.kindL_eq h hw h1 h4 hs
  have hp : 0 < kindL wide vars T.flat := by
    rw [hk]
    have := Tr.kind_pos h
    omega
  obtain ⟨_, _, _, _, _, r, hr, k1, k2, _⟩ := root_tree hp
  obtain ⟨e, _⟩ := flat_one_way r [] [] T k1 h (by simpa using k2)
  subst e
  exact ⟨hp, hr⟩
/-- the value of the row of a good tree -/
theorem value_of_flat {k : Nat} {st : List Int} {T : Tr} (h : T.Ok k st.length) (hk1 : 1 ≤ k) (hk : k ≤ 64) (h1 : 1 ≤ st.length) (h4 : st.length ≤ 4) (hs : T.size ≤ 48) (hst : ∀ s ∈ st, goodB k s = true) : saidV k T.flat st = true ∧ valueL k T.flat st = trVal k st T := by
  obtain ⟨p1, p2⟩ := root_of_flat h (decide_eq_true (by omega)) (by omega) (by omega) hs
  have hs1 : saidV k T.flat st = true := by
    unfold saidV
    rw [decide_eq_true p1, Bool.true_and]
    exact List.all_eq_true.2 hst
  refine ⟨hs1, ?_⟩
  have := valueL_tree hs1 p2
  simpa using this
theorem saidV_open {wide : Int} {t : List Nd} {st : List Int} (h : saidV wide t st = true) : 0 < kindL wide st.length t ∧ ∀ s ∈ st, goodB wide s = true := by
  unfold saidV at h
  rw [Bool.and_eq_true] at h
  exact ⟨of_decide_eq_true h.1, List.all_eq_true.1 h.2⟩
/-- what is said of a folded term: it comes to the same with the same variables and of the same kind, and is folded already -/
theorem folded_said {k : Nat} {t : List Nd} {st : List Int} (hok : ∀ x ∈ t, NdOk x) (h : saidV k t st = true) :
    0 < kindL k st.length t ∧ saidV k (foldL k st.length t) st = true ∧ valueL k (foldL k st.length t) st = valueL k t st ∧ kindL k st.length (foldL k st.length t) = kindL k st.length t ∧ foldL k st.length (foldL k st.length t) = foldL k st.length t ∧ varsInL k st.length (foldL k st.length t) = varsInL k st.length t := by
  obtain ⟨hp, hst⟩ := saidV_open h
  obtain ⟨g1, g2, g3, g4, g5, r, hr, k1, k2, k3⟩ := root_tree hp
  obtain ⟨k', e, hk1, hk64⟩ := wideB_true g1
  obtain rfl : k = k' := by omega
  have hpos : Pos r := by
    intro x hx
    rw [k2] at hx
    exact (hok x hx).2.2.1
  obtain ⟨f1, f2⟩ := trFold_ok hk1 hk64 r k1 hpos
  have hsz : r.size ≤ 48 := by
    have := r.flat_len
    rw [k2] at this
    omega
  have fsz : (trFold k r).size ≤ 48 := Nat.le_trans (trFold_size k r) hsz
  have hf : foldL k st.length t = (trFold k r).flat := by
    have := foldL_tree hp hr
    simpa using this
  obtain ⟨q1, q2⟩ := root_of_flat f1 g1 g2 g3 fsz
  obtain ⟨v1, v2⟩ := value_of_flat f1 hk1 hk64 (by omega) (by omega) fsz hst
  have hvt : valueL k t st = trVal k st r := by
    have := valueL_tree h hr
    simpa using this
  have hv4 : ∀ x ∈ r.flat, x.1 = 2 → 0 ≤ x.2 ∧ x.2 < 4 := by
    intro x hx h2
    have h3 := ok_vars k1 x hx h2
    have h4 := hpos x hx
    omega
  have hv4' : ∀ x ∈ (trFold k r).flat, x.1 = 2 → 0 ≤ x.2 ∧ x.2 < 4 := by
    intro x hx h2
    have h3 := ok_vars f1 x hx h2
    have h4 := f2 x hx
    omega
  refine ⟨hp, ?_, ?_, ?_, ?_, ?_⟩
  · rw [hf]
    exact v1
  · rw [hf, v2, hvt]
    exact trFold_val k st r
  · rw [hf, Tr.kindL_eq f1 g1 g2 g3 fsz, trFold_kind k r k1]
    exact k3
  · rw [hf]
    have := foldL_tree q1 q2
    rw [this]
    simp only [Int.toNat_natCast]
    rw [trFold_again]
  · rw [hf]
    unfold varsInL
    rw [if_pos q1, if_pos hp, varsL_sorted _ _ rfl hv4', varsL_sorted t.length t rfl (by rw [← k2]; exact hv4)]
    congr 1
    funext i
    apply decide_eq_decide.2
    rw [← k2]
    exact trFold_mem k i r k1
end Go.Proofs.YtkmgcgmeibhnmaaDoor

namespace Go.Proofs.YtkmgcgmeibhnmaaDoor
open Go Go.RowKit
open M
set_option linter.unusedVariables false

set_option maxRecDepth 100000 in
set_option maxHeartbeats 2000000 in
theorem impl_ValueOf : DoesValueOf := by
  intro wide v sv t st w hT h hl hs hok
  obtain ⟨hsl, hsb⟩ := hok
  obtain ⟨sa, sc, rfl⟩ : ∃ sa sc, sv = .slice sa st.length sc := by
    rcases hs with ⟨rfl, a, cap, h⟩ | ⟨b, off, cap, h, _⟩
    · exact ⟨a, cap, h⟩
    · exact ⟨_, cap, h⟩
  have HC : Hid (∀ (j : Nat) (s : Int), st[j]? = some s → ∃ b off : Nat, sa = some ⟨b, off, none⟩ ∧ b < w.heap.size ∧ w.cell? ⟨b, off + j, none⟩ = some (.int .u64 s)) := by
    intro j s hj
    rcases hs with ⟨rfl, _⟩ | ⟨b, off, cap, he, hlt, hc⟩
    · simp at hj
    · simp at he
      exact ⟨b, off, he.1, hlt, hc j s hj⟩
  by_cases hk : 0 < kindL wide st.length t
  · obtain ⟨g1, g2, g3, g4, g5, r, hr, k1, k2, k3⟩ := root_tree hk
    have g := rootOf_yes wide st.length v t w hT h r hk hr
    obtain ⟨k, rfl, hk1, hk64⟩ := wideB_true g1
    have HV : Hid (∀ (b : Nat) (w1 : World), Below w.heap.size w w1 → TrAt w1 (Old w1) r b → (∀ s ∈ st, goodB k s = true) → Calls Tryd.prog 68 #[ptr b, .int .i64 k, .slice sa st.length sc] w1 fun e w' => e = .returned (.int .u64 (trVal k st r)) ∧ Below w1.heap.size w1 w') := by
      intro b w1 hb htr hall
      have hst : ∀ s ∈ st, 0 ≤ s ∧ s < pw k := by
        intro s hs'
        obtain ⟨k', e, _, _, h3⟩ := goodB_true (hall s hs')
        obtain rfl : k = k' := by omega
        exact ⟨(hsb s hs').1, h3⟩
      refine value_any k hk1 hk64 st.length st _ hst hsl r b w1 (hT.below hb hT.some) htr (hs.below hb) k1 ?_ ?_
      · intro x hx
        rw [k2] at hx
        exact (h.1 x hx).2.2.1
      · intro x hx h2
        have h3 := ok_vars k1 x hx h2
        rw [k2] at hx
        have h4 := (h.1 x hx).2.2.1
        omega
    have HT : Hid (Tab w) := hT
    have HSV : Hid ((∀ s ∈ st, goodB k s = true) → saidV k t st = true ∧ valueL k t st = trVal k st r) := by
      intro hall
      have hs1 : saidV k t st = true := by
        unfold saidV
        rw [decide_eq_true hk, Bool.true_and]
        exact List.all_eq_true.2 hall
      refine ⟨hs1, ?_⟩
      have := valueL_tree hs1 hr
      simpa using this
    have HSN : Hid ((∃ s ∈ st, goodB k s = false) → saidV k t st = false ∧ valueL k t st = 0) := by
      rintro ⟨s, hs1, hs2⟩
      have hs3 : saidV k t st = false := by
        unfold saidV
        rw [decide_eq_true hk, Bool.true_and]
        exact List.all_eq_false.2 ⟨s, hs1, by rw [hs2]; decide⟩
      refine ⟨hs3, ?_⟩
      unfold valueL
      rw [hs3]
      rfl
    have HSB : Hid _ := hsb
    generalize hVL : valueL k t st = VL
    generalize hSV : saidV k t st = SV
    rw [hVL, hSV] at HSV HSN
    clear hT h hs hk hr k1 k2 k3 g1 hsb hVL hSV
    go_enter Tryd.func23, Tryd.ntmps23
    go_wp2_with fail
    refine g.mono ?_
    rintro e w1 ⟨b, rfl, htr, hb1⟩
    have HTR : Hid _ := htr
    have HB1 : Hid _ := hb1
    clear g htr hb1
    go_wp2_with fail
    go_loop [20] (fun i => ∃ j : Nat, j ≤ st.length ∧ i = .int .i64 j ∧ Hid (∀ s ∈ st.take j, goodB k s = true)) (fun i => st.length - (intOf i).toNat)
    case atStart => exact ⟨0, by omega, rfl, (fun s hs => by simp at hs : ∀ s ∈ st.take 0, goodB k s = true)⟩
    case round =>
      obtain ⟨j, hj, rfl, HA⟩ := hrel
      by_cases hlt' : j < st.length
      · obtain ⟨s, hs⟩ : ∃ s, st[j]? = some s := ⟨st[j], List.getElem?_eq_getElem hlt'⟩
        obtain ⟨sb, so, rfl, hblt, cs⟩ := HC.out j s hs
        rw [← HB1.out.cell (p := ⟨sb, so + j, none⟩) hblt] at cs
        have gG := iGoodWord_any k s w1 (HT.out.below HB1.out HT.out.some)
        have HS : Hid (st[j]? = some s) := hs
        clear hs
        cases hgd : goodB k s with
        | true =>
          rw [hgd] at gG
          have HA2 : Hid (∀ s ∈ st.take (j + 1), goodB k s = true) := by
            intro x hx
            rw [List.take_add_one, HS.out] at hx
            rcases List.mem_append.1 hx with hx | hx
            · exact HA.out x hx
            · simp at hx
              subst hx
              exact hgd
          clear hgd HA
          go_wp2_with fail
          refine gG.mono ?_
          rintro e w2 ⟨rfl, rfl⟩
          clear gG
          go_wp2_with fail
          go_round
          case rel => exact ⟨j + 1, by omega, by go_num, HA2⟩
          case measure => simp [intOf]; omega
        | false =>
          rw [hgd] at gG
          have HN := HSN.out ⟨s, List.mem_of_getElem? HS.out, hgd⟩
          obtain ⟨h1, h2⟩ := HN
          subst h1 h2
          clear hgd HA
          go_wp2_with fail
          refine gG.mono ?_
          rintro e w2 ⟨rfl, rfl⟩
          clear gG
          go_wp2_with fail
          go_ret2
          exact ⟨rfl, HB1.out⟩
      · obtain rfl : j = st.length := by omega
        have hall : ∀ s ∈ st, goodB k s = true := by
          have h := HA.out
          rw [List.take_length] at h
          exact h
        obtain ⟨h1, h2⟩ := HSV.out hall
        have g9 := HV.out b w1 HB1.out HTR.out hall
        rw [← h2] at g9
        subst h1
        clear hall h2 HA HSV HSN HV
        go_wp2_with fail
        refine g9.mono ?_
        rintro e w2 ⟨rfl, hb2⟩
        have HB2 : Hid (Below w.heap.size w w2) := HB1.out.trans (hb2.mono HB1.out.size)
        clear g9 hb2
        go_wp2_with fail
        go_ret2
        exact ⟨rfl, HB2.out⟩
  · have g := rootOf_no wide st.length v t w hT h hk
    have hs1 : saidV wide t st = false := by
      unfold saidV
      rw [decide_eq_false hk, Bool.false_and]
    have hv1 : valueL wide t st = 0 := by
      unfold valueL
      rw [hs1]
      rfl
    rw [hs1, hv1]
    clear hT h hs hk hs1 hv1 hsb HC
    go_enter Tryd.func23, Tryd.ntmps23
    go_wp2_with fail
    refine g.mono ?_
    rintro e w1 ⟨rfl, hb1⟩
    have HB1 : Hid _ := hb1
    clear g hb1
    go_wp2_with fail
    go_ret2
    exact ⟨rfl, HB1.out⟩
end Go.Proofs.YtkmgcgmeibhnmaaDoor

namespace Go.Proofs.YtkmgcgmeibhnmaaDoor
open Go Go.RowKit
open M
set_option linter.unusedVariables false

theorem varsL_len (t : List Nd) : (varsL t).length ≤ t.length := by
  have h : ∀ n : Nat, n ≤ t.length → (varsL (t.take n)).length ≤ n := by
    intro n
    induction n with
    | zero => intro _; simp [varsL]
    | succ n ih =>
      intro hn
      obtain ⟨x, hx⟩ : ∃ x, t[n]? = some x := ⟨t[n], List.getElem?_eq_getElem (by omega)⟩
      have e : t.take (n + 1) = t.take n ++ [x] := by
        rw [List.take_add_one, hx]
        rfl
      rw [e, varsL_snoc]
      have i1 := ih (by omega)
      split
      · have := (putL_len (varsL (t.take n)) x.2).1
        omega
      · omega
  have h2 := h t.length (Nat.le_refl _)
  rw [List.take_length] at h2
  exact h2
theorem varsIn_len0 (wide vars : Int) (t : List Nd) : (varsInL wide vars t).length ≤ t.length := by
  unfold varsInL
  split
  · exact varsL_len t
  · simp
theorem varsIn_reads0 (wide vars : Int) (t : List Nd) (hwide0 : -9223372036854775808 ≤ wide) (hwide1 : wide ≤ 9223372036854775807) (hvars0 : -9223372036854775808 ≤ vars) (hvars1 : vars ≤ 9223372036854775807) (hok : ∀ x ∈ t, NdOk x) (hl : t.length ≤ 1048576) :
    ∀ (w1 : World) (B : Nat) (v1 : Value), OwnInts w1 B v1 (varsInL wide vars t) → IntsAt w1 v1 (varsInL wide vars t) := by
  intro w1 B v1 ho
  have := varsIn_len0 wide vars t
  exact ints_of_own (by omega) ho
/-- what the program's VarsIn is to do -/
def DoesVarsIn : Prop := ∀ (wide : Int) (vars : Int) (tv : Value) (t : List Nd) (w : World), Tab w → NodesAt w tv t → t.length ≤ 1048576 → -9223372036854775808 ≤ wide → wide ≤ 9223372036854775807 → -9223372036854775808 ≤ vars → vars ≤ 9223372036854775807 →
  Calls Tryd.prog 28 #[.int .i64 wide, .int .i64 vars, tv] w fun e w' => ∃ r0' : Value, e = .returned (.tuple #[r0', .bool (decide (0 < kindL wide vars t))]) ∧ OwnInts w' w.heap.size r0' (varsInL wide vars t) ∧ Below w.heap.size w w'
set_option maxRecDepth 100000 in
set_option maxHeartbeats 4000000 in
theorem varsIn_small (hI : DoesVarsIn) (wide : Int) (vars : Int) (hwide0 : -9223372036854775808 ≤ wide) (hwide1 : wide ≤ 9223372036854775807) (hvars0 : -9223372036854775808 ≤ vars) (hvars1 : vars ≤ 9223372036854775807) (tv : Value) (t : List Nd) (htot : t.length ≤ 1048576) (w : World) (hT : Tab w) (h_t : NodesAt w tv t) :
    Calls Tryd.prog 9 #[.int .i64 wide, .int .i64 vars, tv] w fun e w' => e = .returned (.bool true) ∧ Below w.heap.size w w' := by
  have hl_t : t.length ≤ 1048576 := by omega
  have z0 : Calls Tryd.prog 41 #[tv, .int .i64 (1048576)] w fun e w' => e = .returned (.int .i64 (1048576 - (t.length : Int))) ∧ w' = w := by
    obtain ⟨ad, cap, hsh⟩ := h_t.shape
    have g := szNodeS_any ad t.length cap (1048576) (by omega) (by omega) (by omega) w
    rw [if_neg (by omega), ← hsh] at g
    exact g
  have GT_t : Hid (∀ w1 : World, Below w.heap.size w w1 → Calls Tryd.prog 42 #[tv] w1 fun e w' => ∃ v', e = .returned v' ∧ OwnNodes w' w1.heap.size v' t ∧ Below w1.heap.size w1 w') := fun w1 hb => toNodeS_any tv t hl_t w1 (h_t.below hb)
  have HN_t : Hid (∀ (w1 : World) (B : Nat) (v1 : Value), OwnNodes w1 B v1 t → NodesAt w1 v1 t) := fun w1 B v1 ho => nodes_of_own h_t.1 (by omega) ho
  have GS : Hid (∀ (t1 : Value) (w1 : World), NodesAt w1 t1 t → Calls Tryd.prog 32 #[.int .i64 wide, .int .i64 vars, t1] w1 fun e w' => ∃ r0' : Value, e = .returned (.tuple #[r0', .bool (decide (0 < kindL wide vars t))]) ∧ OwnInts w' w1.heap.size r0' (varsInL wide vars t) ∧ Below w1.heap.size w1 w') := fun t1 w1 n_t => varsIn_any wide vars t1 t w1 n_t
  have GI : Hid (∀ (t1 : Value) (w1 : World), Below w.heap.size w w1 → NodesAt w1 t1 t → Calls Tryd.prog 28 #[.int .i64 wide, .int .i64 vars, t1] w1 fun e w' => ∃ r0' : Value, e = .returned (.tuple #[r0', .bool (decide (0 < kindL wide vars t))]) ∧ OwnInts w' w1.heap.size r0' (varsInL wide vars t) ∧ Below w1.heap.size w1 w') := fun t1 w1 hb n_t => hI wide vars t1 t w1 (hT.below hb hT.some) n_t hl_t hwide0 hwide1 hvars0 hvars1
  have HR0 : Hid (∀ (w1 : World) (B : Nat) (v1 : Value), OwnInts w1 B v1 (varsInL wide vars t) → IntsAt w1 v1 (varsInL wide vars t)) := varsIn_reads0 wide vars t hwide0 hwide1 hvars0 hvars1 h_t.1 hl_t
  have hlr0 := varsIn_len0 wide vars t
  clear hI hT h_t
  generalize varsInL wide vars t = R0 at *
  generalize decide (0 < kindL wide vars t) = R1 at *
  go_enter Tryd.func9, Tryd.ntmps9
  go_wp2_with fail
  refine z0.mono ?_
  rintro e w' ⟨rfl, rfl⟩
  clear z0
  have hb_0_0 := Below.refl w'.heap.size w'
  have g1 := GT_t.out _ hb_0_0
  go_wp2_with fail
  refine g1.mono ?_
  rintro e w1 ⟨kst, rfl, ho_new, hstep⟩
  clear g1
  have hb_0_1 := Below.step hb_0_0 hb_0_0.size hstep
  clear hb_0_0
  have hsz_1 := hstep.size
  clear hstep
  have ho_kst_1 := ho_new
  clear ho_new
  have g2 := GS.out kst _ (HN_t.out _ _ _ ho_kst_1)
  go_wp2_with fail
  refine g2.mono ?_
  clear ho_kst_1
  rintro e w2 ⟨u0, rfl, ho_u0, hstep⟩
  clear g2
  have hb_0_2 := Below.step hb_0_1 hb_0_1.size hstep
  clear hb_0_1
  have hsz_2 := hstep.size
  clear hstep
  have HU0 : Hid (∀ w_ : World, Below w2.heap.size w2 w_ → IntsAt w_ u0 R0) := fun w_ hb => (HR0.out _ _ _ ho_u0).below hb
  clear ho_u0
  have hb_A_2 := Below.refl w2.heap.size w2
  have g3 := GT_t.out _ hb_0_2
  go_wp2_with fail
  refine g3.mono ?_
  rintro e w3 ⟨kxt, rfl, ho_new, hstep⟩
  clear g3
  have hb_0_3 := Below.step hb_0_2 hb_0_2.size hstep
  clear hb_0_2
  have hb_A_3 := Below.step hb_A_2 hb_A_2.size hstep
  clear hb_A_2
  have hsz_3 := hstep.size
  clear hstep
  have ho_kxt_3 := ho_new
  clear ho_new
  have hblk_kxt := fun k hk => own_block ho_kxt_3 (k := k) hk
  have hsA := hb_A_3.size
  have hs0 := hb_0_3.size
  have hb_X_3 := Below.refl w3.heap.size w3
  have g4 := GI.out kxt _ hb_0_3 (HN_t.out _ _ _ ho_kxt_3)
  go_wp2_with fail
  refine g4.mono ?_
  rintro e w4 ⟨y0, rfl, ho_n0, hstep⟩
  clear g4
  have ho_kxt_4 := owns_below ho_kxt_3 hstep
  clear ho_kxt_3
  have hb_0_4 := Below.step hb_0_3 hb_0_3.size hstep
  clear hb_0_3
  have hb_A_4 := Below.step hb_A_3 hb_A_3.size hstep
  clear hb_A_3
  have hb_X_4 := Below.step hb_X_3 hb_X_3.size hstep
  clear hb_X_3
  have hsz_4 := hstep.size
  clear hstep
  have ho_y0_4 := ho_n0
  clear ho_n0
  have hblk_y0 := fun k hk => own_block ho_y0_4 (k := k) hk
  have hsX := hb_X_4.size
  have g5 := eqIntS_any y0 u0 R0 R0 _ (HR0.out _ _ _ ho_y0_4) (HU0.out _ hb_A_4)
  rw [decide_eq_true rfl] at g5
  go_wp2_with fail
  refine g5.mono ?_
  rintro e w5 ⟨rfl, hstep⟩
  clear g5
  have ho_kxt_5 := owns_below ho_kxt_4 hstep
  clear ho_kxt_4
  have ho_y0_5 := owns_below ho_y0_4 hstep
  clear ho_y0_4
  have hb_0_5 := Below.step hb_0_4 hb_0_4.size hstep
  clear hb_0_4
  have hb_A_5 := Below.step hb_A_4 hb_A_4.size hstep
  clear hb_A_4
  have hb_X_5 := Below.step hb_X_4 hb_X_4.size hstep
  clear hb_X_4
  clear hstep
  have g6 := GT_t.out _ hb_0_5
  go_wp2_with fail
  refine g6.mono ?_
  rintro e w6 ⟨c_, rfl, ho_new, hstep⟩
  clear g6
  have ho_kxt_6 := owns_below ho_kxt_5 hstep
  clear ho_kxt_5
  have ho_y0_6 := owns_below ho_y0_5 hstep
  clear ho_y0_5
  have hb_0_6 := Below.step hb_0_5 hb_0_5.size hstep
  clear hb_0_5
  have hb_A_6 := Below.step hb_A_5 hb_A_5.size hstep
  clear hb_A_5
  have hb_X_6 := Below.step hb_X_5 hb_X_5.size hstep
  clear hb_X_5
  clear hstep
  have g7 := eqNodeS_any kxt c_ t t _ (HN_t.out _ _ _ ho_kxt_6) (HN_t.out _ _ _ ho_new)
  rw [decide_eq_true rfl] at g7
  clear ho_new
  go_wp2_with fail
  refine g7.mono ?_
  rintro e w7 ⟨rfl, hstep⟩
  clear g7
  have ho_kxt_7 := owns_below ho_kxt_6 hstep
  clear ho_kxt_6
  have ho_y0_7 := owns_below ho_y0_6 hstep
  clear ho_y0_6
  have hb_0_7 := Below.step hb_0_6 hb_0_6.size hstep
  clear hb_0_6
  have hb_A_7 := Below.step hb_A_6 hb_A_6.size hstep
  clear hb_A_6
  have hb_X_7 := Below.step hb_X_6 hb_X_6.size hstep
  clear hb_X_6
  clear hstep
  have g8 := markNodeS_any kxt _ t.length _ _ (1) (by omega) (by omega) (by omega) _ ho_kxt_7
  go_wp2_with fail
  refine g8.mono ?_
  rintro e w8 ⟨rfl, ho_m, hgr⟩
  clear g8
  have ho_y0_8 := own_other ho_y0_7 hgr (fun k hk => by have := hblk_kxt k hk; omega)
  clear ho_y0_7
  have hb_0_8 := Below.grown hb_0_7 hgr hb_0_7.size (fun k hk => by have := hblk_kxt k hk; omega)
  clear hb_0_7
  have hb_A_8 := Below.grown hb_A_7 hgr hb_A_7.size (fun k hk => by have := hblk_kxt k hk; omega)
  clear hb_A_7
  clear hb_X_7
  clear ho_kxt_7 hgr
  have ho_mkxt := ho_m
  clear ho_m
  clear ho_mkxt
  have g9 := eqIntS_any y0 u0 R0 R0 _ (HR0.out _ _ _ ho_y0_8) (HU0.out _ hb_A_8)
  rw [decide_eq_true rfl] at g9
  go_wp2_with fail
  refine g9.mono ?_
  rintro e w9 ⟨rfl, hstep⟩
  clear g9
  have ho_y0_9 := owns_below ho_y0_8 hstep
  clear ho_y0_8
  have hb_0_9 := Below.step hb_0_8 hb_0_8.size hstep
  clear hb_0_8
  have hb_A_9 := Below.step hb_A_8 hb_A_8.size hstep
  clear hb_A_8
  clear hstep
  have g10 := markIntS_any y0 _ R0.length _ _ (1) (by omega) (by omega) (by omega) _ ho_y0_9
  go_wp2_with fail
  refine g10.mono ?_
  rintro e w10 ⟨rfl, ho_m, hgr⟩
  clear g10
  have hb_0_10 := Below.grown hb_0_9 hgr hb_0_9.size (fun k hk => by have := hblk_y0 k hk; omega)
  clear hb_0_9
  have hb_A_10 := Below.grown hb_A_9 hgr hb_A_9.size (fun k hk => by have := hblk_y0 k hk; omega)
  clear hb_A_9
  clear ho_y0_9 hgr
  have ho_my0 := ho_m
  clear ho_m
  have g11 := heldIntS_any y0 _ R0.length _ (1) (by omega) (by omega) (by omega) _ ho_my0
  go_wp2_with fail
  refine g11.mono ?_
  rintro e w_ ⟨rfl, rfl⟩
  clear g11
  have g12 := GT_t.out _ hb_0_10
  go_wp2_with fail
  refine g12.mono ?_
  rintro e w11 ⟨ktt, rfl, ho_new, hstep⟩
  clear g12
  have ho_y0_11 := owns_below ho_my0 hstep
  clear ho_my0
  have hb_0_11 := Below.step hb_0_10 hb_0_10.size hstep
  clear hb_0_10
  have hb_A_11 := Below.step hb_A_10 hb_A_10.size hstep
  clear hb_A_10
  clear hstep
  have ho_ktt_11 := ho_new
  clear ho_new
  have g13 := GI.out ktt _ hb_0_11 (HN_t.out _ _ _ ho_ktt_11)
  go_wp2_with fail
  refine g13.mono ?_
  rintro e w12 ⟨h0, rfl, ho_n0, hstep⟩
  clear g13
  have ho_y0_12 := owns_below ho_y0_11 hstep
  clear ho_y0_11
  have ho_ktt_12 := owns_below ho_ktt_11 hstep
  clear ho_ktt_11
  have hb_0_12 := Below.step hb_0_11 hb_0_11.size hstep
  clear hb_0_11
  have hb_A_12 := Below.step hb_A_11 hb_A_11.size hstep
  clear hb_A_11
  clear hstep
  have ho_h0_12 := ho_n0
  clear ho_n0
  clear ho_ktt_12
  have g14 := eqIntS_any h0 u0 R0 R0 _ (HR0.out _ _ _ ho_h0_12) (HU0.out _ hb_A_12)
  rw [decide_eq_true rfl] at g14
  go_wp2_with fail
  refine g14.mono ?_
  rintro e w13 ⟨rfl, hstep⟩
  clear g14
  have ho_y0_13 := owns_below ho_y0_12 hstep
  clear ho_y0_12
  have ho_h0_13 := owns_below ho_h0_12 hstep
  clear ho_h0_12
  have hb_0_13 := Below.step hb_0_12 hb_0_12.size hstep
  clear hb_0_12
  have hb_A_13 := Below.step hb_A_12 hb_A_12.size hstep
  clear hb_A_12
  clear hstep
  clear ho_h0_13
  have g15 := heldIntS_any y0 _ R0.length _ (1) (by omega) (by omega) (by omega) _ ho_y0_13
  go_wp2_with fail
  refine g15.mono ?_
  rintro e w_ ⟨rfl, rfl⟩
  clear g15
  have HB : Hid (Below w'.heap.size w' _) := hb_0_13
  clear ho_y0_13
  go_wp2_with fail
  go_ret
  exact ⟨rfl, HB.out⟩
set_option maxRecDepth 100000 in
theorem varsIn_big0 (wide : Int) (vars : Int) (tv : Value) (t : List Nd) (ha : 0 ≤ 1048576) (hz : 1048576 < t.length) (w : World) (h_t : NodesAt w tv t) :
    Calls Tryd.prog 9 #[.int .i64 wide, .int .i64 vars, tv] w fun e w' => e = .returned (.bool true) ∧ Below w.heap.size w w' := by
  have hn_t := h_t.2.1
  have z0 : Calls Tryd.prog 41 #[tv, .int .i64 (1048576)] w fun e w' => e = .returned (.int .i64 (-1)) ∧ w' = w := by
    obtain ⟨ad, cap, hsh⟩ := h_t.shape
    have g := szNodeS_any ad t.length cap (1048576) (by omega) (by omega) (by omega) w
    rw [if_pos (by omega), ← hsh] at g
    exact g
  clear h_t
  go_enter Tryd.func9, Tryd.ntmps9
  go_wp2_with fail
  refine z0.mono ?_
  rintro e w' ⟨rfl, rfl⟩
  clear z0
  go_wp2_with fail
  go_ret
  exact ⟨rfl, Below.refl _ _⟩
theorem varsIn_law (hI : DoesVarsIn) (wide : Int) (vars : Int) (hwide0 : -9223372036854775808 ≤ wide) (hwide1 : wide ≤ 9223372036854775807) (hvars0 : -9223372036854775808 ≤ vars) (hvars1 : vars ≤ 9223372036854775807) (tv : Value) (t : List Nd) (w : World) (hT : Tab w) (h_t : NodesAt w tv t) :
    Calls Tryd.prog 9 #[.int .i64 wide, .int .i64 vars, tv] w fun e w' => e = .returned (.bool true) ∧ Below w.heap.size w w' := by
  by_cases htot : t.length ≤ 1048576
  · exact varsIn_small hI wide vars hwide0 hwide1 hvars0 hvars1 tv t htot w hT h_t
  exact varsIn_big0 wide vars tv t (by omega) (by omega) w h_t
end Go.Proofs.YtkmgcgmeibhnmaaDoor

namespace Go.Proofs.YtkmgcgmeibhnmaaDoor
open Go Go.RowKit
open M
set_option linter.unusedVariables false

/-- of what lay there nothing but block g has turned -/
structure But (g : Nat) (w w' : World) : Prop where
  os : w'.os = w.os
  tape : w'.tape = w.tape
  output : w'.output = w.output
  size : w.heap.size ≤ w'.heap.size
  block : ∀ k, k ≠ g → k < w.heap.size → w'.heap[k]? = w.heap[k]?
theorem But.refl (g : Nat) (w : World) : But g w w := ⟨rfl, rfl, rfl, Nat.le_refl _, fun _ _ _ => rfl⟩
theorem But.trans {g : Nat} {u v w : World} (h : But g u v) (k : But g v w) : But g u w :=
  ⟨k.os.trans h.os, k.tape.trans h.tape, k.output.trans h.output, Nat.le_trans h.size k.size, fun i hi hs => (k.block i hi (Nat.lt_of_lt_of_le hs h.size)).trans (h.block i hi hs)⟩
theorem But.setCell {g : Nat} {u w : World} (h : But g u w) (o : Nat) (v : Value) : But g u (w.setCell ⟨g, o, none⟩ v) :=
  h.trans ⟨rfl, rfl, rfl, by simp [World.setCell], fun k hk _ => Below.heap_setCell _ _ _ _ hk⟩
theorem But.drew {g : Nat} {u w : World} (h : But g u w) : But g u w.drew := ⟨h.os, h.tape, h.output, h.size, h.block⟩
theorem But.below {B g : Nat} {w w' : World} (h : But g w w') (hB : B ≤ g) (hs : B ≤ w.heap.size) : Below B w w' :=
  ⟨h.os, h.tape, h.output, h.size, fun k hk => h.block k (by omega) (by omega)⟩
/-- four truths in memory -/
def bools (f : Int → Bool) : Array Value := #[.bool (f 0), .bool (f 1), .bool (f 2), .bool (f 3)]
theorem bools_put (f : Int → Bool) (i : Nat) (h : i < 4) : (bools f).setIfInBounds i (.bool true) = bools (fun j => f j || j == (i : Int)) := by
  match i, h with
  | 0, _ => simp [bools]
  | 1, _ => simp [bools]
  | 2, _ => simp [bools]
  | 3, _ => simp [bools]
abbrev OldNot (w : World) (g : Nat) : Nat → Prop := fun k => k < w.heap.size ∧ k ≠ g
/-- what nameVars does with a tree -/
def NameP (r : Tr) : Prop := ∀ (b g : Nat) (f : Int → Bool) (w : World), TrAt w (OldNot w g) r b → w.heap[g]? = some (.cells (bools f) 100 (0, 0)) → (∀ x ∈ r.flat, x.1 = 2 → 0 ≤ x.2 ∧ x.2 < 4) → (∃ wide vars : Int, r.Ok wide vars) →
  Calls Tryd.prog 74 #[ptr b, ptr g] w fun e w' => e = .returned (.tuple #[]) ∧ w'.heap[g]? = some (.cells (bools (fun i => f i || decide ((2, i) ∈ r.flat))) 100 (0, 0)) ∧ But g w w'
set_option maxRecDepth 100000 in
set_option maxHeartbeats 4000000 in
theorem nameVars_leaf (b g i : Nat) (f : Int → Bool) (w : World) (htr : TrAt w (OldNot w g) (.leaf (2, (i : Int))) b) (hh : w.heap[g]? = some (.cells (bools f) 100 (0, 0))) (hi : i < 4) :
    Calls Tryd.prog 74 #[ptr b, ptr g] w fun e w' => e = .returned (.tuple #[]) ∧ w'.heap[g]? = some (.cells (bools (fun j => f j || j == (i : Int))) 100 (0, 0)) ∧ But g w w' := by
  obtain ⟨hb, n0, n1, _, _, pvl, n4, hpv⟩ := htr
  obtain ⟨pa, pc, rfl⟩ := hpv.shape
  have d0 : w.cell? ⟨g, i, none⟩ = some (.bool (f (i : Int))) := by
    rw [cell_heap hh]
    rcases (show i = 0 ∨ i = 1 ∨ i = 2 ∨ i = 3 by omega) with rfl | rfl | rfl | rfl <;> rfl
  have f0 := frozen_heap (o := i) hh
  have m4 : (w.setCell ⟨g, i, none⟩ (.bool true)).cell? ⟨b, 4, none⟩ = some (.slice pa 0 pc) := by
    rw [cell_otherBlock (fun e => hb.2 e.symm)]
    exact n4
  have m4' : (w.setCell ⟨g, i, none⟩ (.bool true)).drew.cell? ⟨b, 4, none⟩ = some (.slice pa 0 pc) := m4
  have HH : Hid ((w.setCell ⟨g, i, none⟩ (.bool true)).drew.heap[g]? = some (.cells (bools (fun j => f j || j == (i : Int))) 100 (0, 0))) := by
    show (w.setCell ⟨g, i, none⟩ (.bool true)).heap[g]? = _
    rw [heap_set hh, bools_put f i hi]
  have HB : Hid (But g w (w.setCell ⟨g, i, none⟩ (.bool true)).drew) := ((But.refl g w).setCell i _).drew
  simp only at n0 n1
  clear hpv hh hb n4
  go_enter Tryd.func74, Tryd.ntmps74
  go_wp2_with fail
  go_region
  all_goals
    go_wp2_with fail
    go_loop [25] (fun i => i = .int .i64 0) (fun _ => 0)
    case atStart => rfl
    case round =>
      obtain rfl := hrel
      go_wp2_with fail
      go_end0
      exact ⟨rfl, HH.out, HB.out⟩
set_option maxRecDepth 100000 in
set_option maxHeartbeats 4000000 in
theorem nameVars_step (r : Tr) (ih : ∀ q ∈ r.parts, NameP q) : NameP r := by
  intro b g f w htr hh hv ⟨wide, vars, hok⟩
  by_cases h2 : r.nd.1 = 2
  · have hm := (Tr.ok_nd hok).2.2
    rw [h2] at hm
    cases r with
    | leaf x =>
      obtain ⟨op, n⟩ := x
      obtain rfl : op = 2 := h2
      have h4 := hv (2, n) (by simp [Tr.flat]) rfl
      simp only at h4
      obtain ⟨i, rfl⟩ := Int.eq_ofNat_of_zero_le h4.1
      refine (nameVars_leaf b g i f w htr hh (by omega)).mono ?_
      rintro e w' ⟨he, h5, h6⟩
      refine ⟨he, ?_, h6⟩
      rw [h5]
      have e2 : (fun j : Int => f j || j == (i : Int)) = fun j => f j || decide (((2, j) : Nd) ∈ (Tr.leaf (2, (i : Int))).flat) := by
        funext j
        simp [Tr.flat]
        rfl
      rw [e2]
    | one x a => exact absurd (show (0 : Nat) = 1 from hm) (by decide)
    | two x a c => exact absurd (show (0 : Nat) = 2 from hm) (by decide)
  · have e2 : (r.nd.1 == 2) = false := beq_eq_false_iff_ne.2 h2
    obtain ⟨ps, ⟨hb, n0, n1, _, _, pvl, n4, hpv⟩, hpt⟩ := trAt_open htr
    obtain ⟨pa, pc, hpsh⟩ := hpv.shape
    have hpl2 : ps.length ≤ 2 := by
      have h2 : r.parts.length ≤ 2 := by cases r <;> simp [Tr.parts]
      have := hpt.1
      omega
    have HIH : Hid (∀ (j q' : Nat) (q : Tr) (w1 : World) (f' : Int → Bool), r.parts[j]? = some q → ps[j]? = some q' → But g w w1 → w1.heap[g]? = some (.cells (bools f') 100 (0, 0)) → Calls Tryd.prog 74 #[ptr q', ptr g] w1 fun e w' => e = .returned (.tuple #[]) ∧ w'.heap[g]? = some (.cells (bools (fun i => f' i || decide ((2, i) ∈ q.flat))) 100 (0, 0)) ∧ But g w1 w') := by
      intro j q' q w1 f' hq hq' hb1 hh1
      have hmem := List.mem_of_getElem? hq
      have hfl : ∀ x ∈ q.flat, x ∈ r.flat := by
        intro x hx
        rw [Tr.flat_eq r]
        exact List.mem_append_left _ (List.mem_flatMap.2 ⟨q, hmem, hx⟩)
      exact ih q hmem q' g f' w1 (TrAt.frame (fun k hk => ⟨Nat.lt_of_lt_of_le hk.1 hb1.size, hk.2⟩) (fun k hk => hb1.block k hk.2 hk.1) (hpt.2 j q q' hq hq')) hh1 (fun x hx => hv x (hfl x hx)) ⟨wide, vars, (Tr.ok_parts hok q hmem).2⟩
    have HPV : Hid _ := hpv
    have HL : Hid (r.parts.length = ps.length) := hpt.1
    have HE : Hid (∀ i : Int, decide (((2, i) : Nd) ∈ r.flat) = decide (((2, i) : Nd) ∈ r.parts.flatMap Tr.flat)) := by
      intro i
      apply decide_eq_decide.2
      rw [Tr.flat_eq r]
      constructor
      · intro h
        rcases List.mem_append.1 h with h | h
        · exact h
        · simp at h
          exact absurd (by rw [← h]) h2
      · intro h
        exact List.mem_append_left _ h
    have HH0 : Hid _ := hh
    clear ih hpt hpv htr hh hv hok h2
    subst hpsh
    generalize r.nd.1 = op at *
    go_enter Tryd.func74, Tryd.ntmps74
    go_wp2_with fail
    go_loopw [25] (fun i wr => ∃ j : Nat, j ≤ ps.length ∧ i = .int .i64 j ∧ Hid (wr.heap[g]? = some (.cells (bools (fun i => f i || decide ((2, i) ∈ (r.parts.take j).flatMap Tr.flat))) 100 (0, 0))) ∧ Hid (But g w wr)) (fun i _ => ps.length - (intOf i).toNat)
    case atStart =>
      refine ⟨0, by omega, rfl, ?_, But.refl _ _⟩
      show w.heap[g]? = _
      rw [HH0.out]
      simp
    case round =>
      obtain ⟨j, hj, rfl, HH, HB⟩ := hrel
      by_cases hlt' : j < ps.length
      · obtain ⟨p, hp⟩ : ∃ p, ps[j]? = some p := ⟨ps[j], List.getElem?_eq_getElem hlt'⟩
        obtain ⟨q, hq⟩ : ∃ q, r.parts[j]? = some q := ⟨r.parts[j]'(by have := HL.out; omega), List.getElem?_eq_getElem _⟩
        obtain ⟨pg, off, rfl, hg, c0⟩ := PtrsAt.at HPV.out hp
        have c1 : wr.cell? ⟨pg, off + j, none⟩ = some (ptr p) := by
          rw [World.cell?_of_block (w := w) (a := ⟨pg, off + j, none⟩) (HB.out.block pg hg.2 hg.1)]
          exact c0
        have gI := HIH.out j p q wr _ hq hp HB.out HH.out
        have HF : Hid ((fun i : Int => (f i || decide (((2, i) : Nd) ∈ (r.parts.take j).flatMap Tr.flat)) || decide (((2, i) : Nd) ∈ q.flat)) = fun i => f i || decide (((2, i) : Nd) ∈ (r.parts.take (j + 1)).flatMap Tr.flat)) := by
          show _ = _
          funext i
          rw [flats_take hq, Bool.or_assoc]
          congr 1
          by_cases h1 : ((2, i) : Nd) ∈ (r.parts.take j).flatMap Tr.flat <;> by_cases h3 : ((2, i) : Nd) ∈ q.flat <;> simp [h1, h3]
        rw [HF.out] at gI
        clear hp hq hg c0 HF
        generalize hfn : (fun i : Int => f i || decide (((2, i) : Nd) ∈ (r.parts.take (j + 1)).flatMap Tr.flat)) = fn at *
        have HFN : Hid _ := hfn
        clear hfn
        go_wp2_with fail
        refine gI.mono ?_
        rintro e w2 ⟨rfl, hh2, hb2⟩
        have HH2 : Hid _ := hh2
        have HB2 : Hid (But g w w2) := HB.out.trans hb2
        clear gI hh2 hb2
        go_wp2_with fail
        go_roundw
        case rel => exact ⟨j + 1, by omega, by go_num, by rw [HFN.out]; exact HH2, HB2⟩
        case measure => simp [intOf]; omega
      · obtain rfl : j = ps.length := by omega
        have HR : Hid (wr.heap[g]? = some (.cells (bools (fun i => f i || decide ((2, i) ∈ r.flat))) 100 (0, 0))) := by
          show wr.heap[g]? = _
          rw [HH.out]
          have h1 : r.parts.take ps.length = r.parts := by rw [← HL.out, List.take_length]
          rw [h1]
          have h3 : (fun i : Int => f i || decide (((2, i) : Nd) ∈ r.parts.flatMap Tr.flat)) = fun i => f i || decide (((2, i) : Nd) ∈ r.flat) := by
            funext i
            rw [HE.out i]
          rw [h3]
        clear HH HIH HPV HE
        go_wp2_with fail
        go_end0
        exact ⟨rfl, HR.out, HB.out⟩
theorem nameVars_any : ∀ r : Tr, NameP r := Tr.ind nameVars_step
end Go.Proofs.YtkmgcgmeibhnmaaDoor

namespace Go.Proofs.YtkmgcgmeibhnmaaDoor
open Go Go.RowKit
open M
set_option linter.unusedVariables false

def only4 (f : Int → Bool) (j : Nat) : List Int := (([0, 1, 2, 3] : List Int).take j).filter f
theorem only4_next (f : Int → Bool) (j : Nat) (h : j < 4) : only4 f (j + 1) = only4 f j ++ (if f (j : Int) = true then [(j : Int)] else []) := by
  unfold only4
  rcases (show j = 0 ∨ j = 1 ∨ j = 2 ∨ j = 3 by omega) with rfl | rfl | rfl | rfl
  · cases h0 : f 0 <;> simp [h0]
  · cases h0 : f 0 <;> cases h1 : f 1 <;> simp [h0, h1]
  · cases h0 : f 0 <;> cases h1 : f 1 <;> cases h2 : f 2 <;> simp [h0, h1, h2]
  · cases h0 : f 0 <;> cases h1 : f 1 <;> cases h2 : f 2 <;> cases h3 : f 3 <;> simp [h0, h1, h2, h3]
theorem index4_0 (a b c d : Bool) (w : World) : Sem.run Tryd.prog (Instr.index 100 (.agg #[.bool a, .bool b, .bool c, .bool d]) (.int .i64 0)) w = .ok (.bool a) w := by kernel_rfl
theorem index4_1 (a b c d : Bool) (w : World) : Sem.run Tryd.prog (Instr.index 100 (.agg #[.bool a, .bool b, .bool c, .bool d]) (.int .i64 1)) w = .ok (.bool b) w := by kernel_rfl
theorem index4_2 (a b c d : Bool) (w : World) : Sem.run Tryd.prog (Instr.index 100 (.agg #[.bool a, .bool b, .bool c, .bool d]) (.int .i64 2)) w = .ok (.bool c) w := by kernel_rfl
theorem index4_3 (a b c d : Bool) (w : World) : Sem.run Tryd.prog (Instr.index 100 (.agg #[.bool a, .bool b, .bool c, .bool d]) (.int .i64 3)) w = .ok (.bool d) w := by kernel_rfl
set_option maxRecDepth 100000 in
set_option maxHeartbeats 2000000 in
theorem impl_VarsIn : DoesVarsIn := by
  intro wide vars v t w hT h hl hw0 hw1 hv0 hv1
  unfold varsInL
  by_cases hk : 0 < kindL wide vars t
  · obtain ⟨g1, g2, g3, g4, g5, r, hr, k1, k2, k3⟩ := root_tree hk
    have g := rootOf_yes wide vars v t w hT h r hk hr
    have hv4 : ∀ x ∈ r.flat, x.1 = 2 → 0 ≤ x.2 ∧ x.2 < 4 := by
      intro x hx h2
      have h3 := ok_vars k1 x hx h2
      rw [k2] at hx
      have h4 := (h.1 x hx).2.2.1
      omega
    have hvl : varsL t = sorted4 (fun i => decide ((2, i) ∈ t)) := varsL_sorted t.length t rfl (by rw [← k2]; exact hv4)
    have HN : Hid (∀ (b g : Nat) (f : Int → Bool) (w : World), TrAt w (OldNot w g) r b → w.heap[g]? = some (.cells (bools f) 100 (0, 0)) →
      Calls Tryd.prog 74 #[ptr b, ptr g] w fun e w' => e = .returned (.tuple #[]) ∧ w'.heap[g]? = some (.cells (bools (fun i => f i || decide ((2, i) ∈ t))) 100 (0, 0)) ∧ But g w w') := by
      intro b g f w htr hh
      have h := nameVars_any r b g f w htr hh hv4 ⟨wide, vars, k1⟩
      rw [k2] at h
      exact h
    rw [if_pos hk, decide_eq_true hk, hvl]
    generalize hF0 : (fun i : Int => decide (((2, i) : Nd) ∈ t)) = F
    have HFE : Hid ((fun i : Int => decide (((2, i) : Nd) ∈ t)) = F) := hF0
    have HF : Hid (sorted4 F = only4 F 4) := rfl
    clear hF0
    obtain ⟨i0, hi, hz0, hz1, hz2⟩ := info_parts infoInt
    clear hT h hk hr k1 k2 k3 hv4 hvl g1 g2 g3
    go_enter Tryd.func28, Tryd.ntmps28
    go_wp2_with fail
    refine g.mono ?_
    rintro e w1 ⟨b, rfl, htr, hb1⟩
    have gN := HN.out b w1.heap.size (fun _ => false) (w1.alloc (.cells #[.bool false, .bool false, .bool false, .bool false] 100)) (TrAt.frame (fun k hk => ⟨by simp; exact Nat.lt_succ_of_lt hk, Nat.ne_of_lt hk⟩) (fun k hk => Below.heap_alloc _ _ _ hk) htr) (by
      show (w1.heap.push _)[w1.heap.size]? = _
      rw [Array.getElem?_push_size]
      rfl)
    have HB1 : Hid (Below w.heap.size w (w1.alloc (.cells #[.bool false, .bool false, .bool false, .bool false] 100))) := hb1.alloc hb1.size _
    have HS1 : Hid (w.heap.size ≤ w1.heap.size) := hb1.size
    simp only [Bool.false_or] at gN
    clear g htr hb1
    rw [HFE.out] at gN
    go_wp2_with fail
    refine gN.mono ?_
    rintro e w2 ⟨rfl, hh2, hbt⟩
    have HB2 : Hid (Below w.heap.size w w2) := HB1.out.trans (hbt.below HS1.out HB1.out.size)
    have HH2 : Hid _ := hh2
    have d0 := cell_heap (o := 0) hh2
    have d1 := cell_heap (o := 1) hh2
    have d2 := cell_heap (o := 2) hh2
    have d3 := cell_heap (o := 3) hh2
    simp only [bools, List.getElem?_toArray, List.getElem?_cons_succ, List.getElem?_cons_zero] at d0 d1 d2 d3
    clear gN hh2 hbt
    go_wp2_with fail
    clear d0 d1 d2 d3
    go_loopw [10, 22] (fun v i wr => ∃ j : Nat, j ≤ 4 ∧ i = .int .i64 j ∧ Hid (OwnInts wr w.heap.size v (only4 F j)) ∧ Hid (Below w.heap.size w wr)) (fun _ i _ => 4 - (intOf i).toNat)
    case atStart => exact ⟨0, by omega, rfl, World.ownsRow_nil _ _ _ _, HB2⟩
    case round =>
      obtain ⟨j, hj, rfl, HO, HB⟩ := hrel
      by_cases hlt' : j < 4
      · rcases (show j = 0 ∨ j = 1 ∨ j = 2 ∨ j = 3 by omega) with rfl | rfl | rfl | rfl
        · have hn := only4_next F 0 (by omega)
          have ix := index4_0
          cases hF : F 0 with
          | false =>
            have HE : Hid (only4 F 0 = only4 F 1) := by
              show _ = _
              rw [hn]
              simp [hF]
            clear hn
            go_wp2_with fail
            go_roundw
            case rel => exact ⟨1, by omega, by go_num, by rw [← HE.out]; exact HO, HB⟩
            case measure => simp [intOf]
          | true =>
            have HE : Hid (only4 F 1 = only4 F 0 ++ [0]) := by
              show _ = _
              rw [hn]
              simp [hF]
            have own1 : (wr.alloc (.cells #[.int .i64 0] 3)).ownsRow w.heap.size 3 1 u10 (only4 F 0).length ((only4 F 0).map (Value.int .i64)) := World.ownsRow.alloc HO.out _
            have hle : (only4 F 0).length ≤ 4 := Nat.le_trans (List.length_filter_le _ _) (by simp)
            have cellsN := oneI_cells wr 0
            have HOx : Hid (OwnInts wr w.heap.size u10 (only4 F 0)) := HO.out
            clear hn HO
            generalize only4 F 0 = R at *
            go_wp2_with (at_builtin; refine wpList_append_own _ rfl _ _ 42 rfl w.heap.size 3 i0 (.int .i64 0) 1 8 Tryd.underlying42 hi hz0 hz1 hz2 rfl (by decide) _ _ _ rfl own1 ⟨wr.heap.size, 0, none⟩ 1 1 [.int .i64 0] rfl rfl cellsN (ints_one [0]) (by unfold maxLen; omega) (by omega) (by have := HB.out.size; simp; omega) ?_)
            intro v7 w7 own7 grow7 _
            have HB7 : Hid (Below w.heap.size w w7) := (HB.out.alloc HB.out.size _).grown grow7 (by have := HB.out.size; simp; omega) (fun k hk => (HOx.out.lt k hk).1)
            have HO7 : Hid (OwnInts w7 w.heap.size v7 (only4 F 1)) := by
              show OwnInts _ _ _ _
              rw [HE.out]
              unfold OwnInts
              rw [List.map_append, List.length_append]
              exact own7
            clear own1 own7 grow7 cellsN
            go_wp2_with fail
            go_roundw
            case rel => exact ⟨1, by omega, by go_num, HO7, HB7⟩
            case measure => simp [intOf]
        · have hn := only4_next F 1 (by omega)
          have ix := index4_1
          cases hF : F 1 with
          | false =>
            have HE : Hid (only4 F 1 = only4 F 2) := by
              show _ = _
              rw [hn]
              simp [hF]
            clear hn
            go_wp2_with fail
            go_roundw
            case rel => exact ⟨2, by omega, by go_num, by rw [← HE.out]; exact HO, HB⟩
            case measure => simp [intOf]
          | true =>
            have HE : Hid (only4 F 2 = only4 F 1 ++ [1]) := by
              show _ = _
              rw [hn]
              simp [hF]
            have own1 : (wr.alloc (.cells #[.int .i64 1] 3)).ownsRow w.heap.size 3 1 u10 (only4 F 1).length ((only4 F 1).map (Value.int .i64)) := World.ownsRow.alloc HO.out _
            have hle : (only4 F 1).length ≤ 4 := Nat.le_trans (List.length_filter_le _ _) (by simp)
            have cellsN := oneI_cells wr 1
            have HOx : Hid (OwnInts wr w.heap.size u10 (only4 F 1)) := HO.out
            clear hn HO
            generalize only4 F 1 = R at *
            go_wp2_with (at_builtin; refine wpList_append_own _ rfl _ _ 42 rfl w.heap.size 3 i0 (.int .i64 0) 1 8 Tryd.underlying42 hi hz0 hz1 hz2 rfl (by decide) _ _ _ rfl own1 ⟨wr.heap.size, 0, none⟩ 1 1 [.int .i64 1] rfl rfl cellsN (ints_one [1]) (by unfold maxLen; omega) (by omega) (by have := HB.out.size; simp; omega) ?_)
            intro v7 w7 own7 grow7 _
            have HB7 : Hid (Below w.heap.size w w7) := (HB.out.alloc HB.out.size _).grown grow7 (by have := HB.out.size; simp; omega) (fun k hk => (HOx.out.lt k hk).1)
            have HO7 : Hid (OwnInts w7 w.heap.size v7 (only4 F 2)) := by
              show OwnInts _ _ _ _
              rw [HE.out]
              unfold OwnInts
              rw [List.map_append, List.length_append]
              exact own7
            clear own1 own7 grow7 cellsN
            go_wp2_with fail
            go_roundw
            case rel => exact ⟨2, by omega, by go_num, HO7, HB7⟩
            case measure => simp [intOf]
        · have hn := only4_next F 2 (by omega)
          have ix := index4_2
          cases hF : F 2 with
          | false =>
            have HE : Hid (only4 F 2 = only4 F 3) := by
              show _ = _
              rw [hn]
              simp [hF]
            clear hn
            go_wp2_with fail
            go_roundw
            case rel => exact ⟨3, by omega, by go_num, by rw [← HE.out]; exact HO, HB⟩
            case measure => simp [intOf]
          | true =>
            have HE : Hid (only4 F 3 = only4 F 2 ++ [2]) := by
              show _ = _
              rw [hn]
              simp [hF]
            have own1 : (wr.alloc (.cells #[.int .i64 2] 3)).ownsRow w.heap.size 3 1 u10 (only4 F 2).length ((only4 F 2).map (Value.int .i64)) := World.ownsRow.alloc HO.out _
            have hle : (only4 F 2).length ≤ 4 := Nat.le_trans (List.length_filter_le _ _) (by simp)
            have cellsN := oneI_cells wr 2
            have HOx : Hid (OwnInts wr w.heap.size u10 (only4 F 2)) := HO.out
            clear hn HO
            generalize only4 F 2 = R at *
            go_wp2_with (at_builtin; refine wpList_append_own _ rfl _ _ 42 rfl w.heap.size 3 i0 (.int .i64 0) 1 8 Tryd.underlying42 hi hz0 hz1 hz2 rfl (by decide) _ _ _ rfl own1 ⟨wr.heap.size, 0, none⟩ 1 1 [.int .i64 2] rfl rfl cellsN (ints_one [2]) (by unfold maxLen; omega) (by omega) (by have := HB.out.size; simp; omega) ?_)
            intro v7 w7 own7 grow7 _
            have HB7 : Hid (Below w.heap.size w w7) := (HB.out.alloc HB.out.size _).grown grow7 (by have := HB.out.size; simp; omega) (fun k hk => (HOx.out.lt k hk).1)
            have HO7 : Hid (OwnInts w7 w.heap.size v7 (only4 F 3)) := by
              show OwnInts _ _ _ _
              rw [HE.out]
              unfold OwnInts
              rw [List.map_append, List.length_append]
              exact own7
            clear own1 own7 grow7 cellsN
            go_wp2_with fail
            go_roundw
            case rel => exact ⟨3, by omega, by go_num, HO7, HB7⟩
            case measure => simp [intOf]
        · have hn := only4_next F 3 (by omega)
          have ix := index4_3
          cases hF : F 3 with
          | false =>
            have HE : Hid (only4 F 3 = only4 F 4) := by
              show _ = _
              rw [hn]
              simp [hF]
            clear hn
            go_wp2_with fail
            go_roundw
            case rel => exact ⟨4, by omega, by go_num, by rw [← HE.out]; exact HO, HB⟩
            case measure => simp [intOf]
          | true =>
            have HE : Hid (only4 F 4 = only4 F 3 ++ [3]) := by
              show _ = _
              rw [hn]
              simp [hF]
            have own1 : (wr.alloc (.cells #[.int .i64 3] 3)).ownsRow w.heap.size 3 1 u10 (only4 F 3).length ((only4 F 3).map (Value.int .i64)) := World.ownsRow.alloc HO.out _
            have hle : (only4 F 3).length ≤ 4 := Nat.le_trans (List.length_filter_le _ _) (by simp)
            have cellsN := oneI_cells wr 3
            have HOx : Hid (OwnInts wr w.heap.size u10 (only4 F 3)) := HO.out
            clear hn HO
            generalize only4 F 3 = R at *
            go_wp2_with (at_builtin; refine wpList_append_own _ rfl _ _ 42 rfl w.heap.size 3 i0 (.int .i64 0) 1 8 Tryd.underlying42 hi hz0 hz1 hz2 rfl (by decide) _ _ _ rfl own1 ⟨wr.heap.size, 0, none⟩ 1 1 [.int .i64 3] rfl rfl cellsN (ints_one [3]) (by unfold maxLen; omega) (by omega) (by have := HB.out.size; simp; omega) ?_)
            intro v7 w7 own7 grow7 _
            have HB7 : Hid (Below w.heap.size w w7) := (HB.out.alloc HB.out.size _).grown grow7 (by have := HB.out.size; simp; omega) (fun k hk => (HOx.out.lt k hk).1)
            have HO7 : Hid (OwnInts w7 w.heap.size v7 (only4 F 4)) := by
              show OwnInts _ _ _ _
              rw [HE.out]
              unfold OwnInts
              rw [List.map_append, List.length_append]
              exact own7
            clear own1 own7 grow7 cellsN
            go_wp2_with fail
            go_roundw
            case rel => exact ⟨4, by omega, by go_num, HO7, HB7⟩
            case measure => simp [intOf]
      · obtain rfl : j = 4 := by omega
        go_wp2_with fail
        go_ret2
        exact ⟨_, rfl, by rw [HF.out]; exact HO.out, HB.out⟩
  · have g := rootOf_no wide vars v t w hT h hk
    rw [if_neg hk, decide_eq_false hk]
    clear hT h hk
    go_enter Tryd.func28, Tryd.ntmps28
    go_wp2_with fail
    refine g.mono ?_
    rintro e w1 ⟨rfl, hb1⟩
    have HB1 : Hid _ := hb1
    clear g hb1
    go_wp2_with fail
    go_ret2
    exact ⟨_, rfl, World.ownsRow_nil _ _ _ _, HB1.out⟩
end Go.Proofs.YtkmgcgmeibhnmaaDoor

namespace Go.Proofs.YtkmgcgmeibhnmaaDoor
open Go Go.RowKit
open M
set_option linter.unusedVariables false

/-- what the program's FoldTerm is to do -/
def DoesFoldTerm : Prop := ∀ (wide : Int) (vars : Int) (tv : Value) (t : List Nd) (w : World), Tab w → NodesAt w tv t → t.length ≤ 1048576 → CapOk tv → -9223372036854775808 ≤ wide → wide ≤ 9223372036854775807 → -9223372036854775808 ≤ vars → vars ≤ 9223372036854775807 →
  Calls Tryd.prog 26 #[.int .i64 wide, .int .i64 vars, tv] w fun e w' => ∃ r0' : Value, e = .returned (.tuple #[r0', .bool (decide (0 < kindL wide vars t))]) ∧ OwnNodes w' w.heap.size r0' (foldL wide vars t) ∧ Below w.heap.size w w'
set_option maxRecDepth 100000 in
set_option maxHeartbeats 4000000 in
theorem foldTerm_small (hI : DoesFoldTerm) (wide : Int) (vars : Int) (hwide0 : -9223372036854775808 ≤ wide) (hwide1 : wide ≤ 9223372036854775807) (hvars0 : -9223372036854775808 ≤ vars) (hvars1 : vars ≤ 9223372036854775807) (tv : Value) (t : List Nd) (htot : t.length ≤ 1048576) (w : World) (hT : Tab w) (h_t : NodesAt w tv t) :
    Calls Tryd.prog 13 #[.int .i64 wide, .int .i64 vars, tv] w fun e w' => e = .returned (.bool true) ∧ Below w.heap.size w w' := by
  have hl_t : t.length ≤ 1048576 := by omega
  have z0 : Calls Tryd.prog 41 #[tv, .int .i64 (1048576)] w fun e w' => e = .returned (.int .i64 (1048576 - (t.length : Int))) ∧ w' = w := by
    obtain ⟨ad, cap, hsh⟩ := h_t.shape
    have g := szNodeS_any ad t.length cap (1048576) (by omega) (by omega) (by omega) w
    rw [if_neg (by omega), ← hsh] at g
    exact g
  have GT_t : Hid (∀ w1 : World, Below w.heap.size w w1 → Calls Tryd.prog 42 #[tv] w1 fun e w' => ∃ v', e = .returned v' ∧ OwnNodes w' w1.heap.size v' t ∧ Below w1.heap.size w1 w') := fun w1 hb => toNodeS_any tv t hl_t w1 (h_t.below hb)
  have HN_t : Hid (∀ (w1 : World) (B : Nat) (v1 : Value), OwnNodes w1 B v1 t → NodesAt w1 v1 t) := fun w1 B v1 ho => nodes_of_own h_t.1 (by omega) ho
  have GS : Hid (∀ (t1 : Value) (w1 : World), NodesAt w1 t1 t → CapOk t1 → Calls Tryd.prog 27 #[.int .i64 wide, .int .i64 vars, t1] w1 fun e w' => ∃ r0' : Value, e = .returned (.tuple #[r0', .bool (decide (0 < kindL wide vars t))]) ∧ OwnNodes w' w1.heap.size r0' (foldL wide vars t) ∧ Below w1.heap.size w1 w') := fun t1 w1 n_t c_t => foldTerm_any wide vars t1 t w1 n_t c_t
  have GI : Hid (∀ (t1 : Value) (w1 : World), Below w.heap.size w w1 → NodesAt w1 t1 t → CapOk t1 → Calls Tryd.prog 26 #[.int .i64 wide, .int .i64 vars, t1] w1 fun e w' => ∃ r0' : Value, e = .returned (.tuple #[r0', .bool (decide (0 < kindL wide vars t))]) ∧ OwnNodes w' w1.heap.size r0' (foldL wide vars t) ∧ Below w1.heap.size w1 w') := fun t1 w1 hb n_t c_t => hI wide vars t1 t w1 (hT.below hb hT.some) n_t hl_t c_t hwide0 hwide1 hvars0 hvars1
  have HR0 : Hid (∀ (w1 : World) (B : Nat) (v1 : Value), OwnNodes w1 B v1 (foldL wide vars t) → NodesAt w1 v1 (foldL wide vars t)) := foldTerm_reads0 wide vars t hwide0 hwide1 hvars0 hvars1 h_t.1 hl_t
  have hlr0 := foldTerm_len0 wide vars t
  clear hI hT h_t
  generalize foldL wide vars t = R0 at *
  generalize decide (0 < kindL wide vars t) = R1 at *
  go_enter Tryd.func13, Tryd.ntmps13
  go_wp2_with fail
  refine z0.mono ?_
  rintro e w' ⟨rfl, rfl⟩
  clear z0
  have hb_0_0 := Below.refl w'.heap.size w'
  have g1 := GT_t.out _ hb_0_0
  go_wp2_with fail
  refine g1.mono ?_
  rintro e w1 ⟨kst, rfl, ho_new, hstep⟩
  clear g1
  have hb_0_1 := Below.step hb_0_0 hb_0_0.size hstep
  clear hb_0_0
  have hsz_1 := hstep.size
  clear hstep
  have ho_kst_1 := ho_new
  clear ho_new
  have g2 := GS.out kst _ (HN_t.out _ _ _ ho_kst_1) (cap_of_own ho_kst_1)
  go_wp2_with fail
  refine g2.mono ?_
  clear ho_kst_1
  rintro e w2 ⟨u0, rfl, ho_u0, hstep⟩
  clear g2
  have hb_0_2 := Below.step hb_0_1 hb_0_1.size hstep
  clear hb_0_1
  have hsz_2 := hstep.size
  clear hstep
  have HU0 : Hid (∀ w_ : World, Below w2.heap.size w2 w_ → NodesAt w_ u0 R0) := fun w_ hb => (HR0.out _ _ _ ho_u0).below hb
  clear ho_u0
  have hb_A_2 := Below.refl w2.heap.size w2
  have g3 := GT_t.out _ hb_0_2
  go_wp2_with fail
  refine g3.mono ?_
  rintro e w3 ⟨kxt, rfl, ho_new, hstep⟩
  clear g3
  have hb_0_3 := Below.step hb_0_2 hb_0_2.size hstep
  clear hb_0_2
  have hb_A_3 := Below.step hb_A_2 hb_A_2.size hstep
  clear hb_A_2
  have hsz_3 := hstep.size
  clear hstep
  have ho_kxt_3 := ho_new
  clear ho_new
  have hblk_kxt := fun k hk => own_block ho_kxt_3 (k := k) hk
  have hsA := hb_A_3.size
  have hs0 := hb_0_3.size
  have hb_X_3 := Below.refl w3.heap.size w3
  have g4 := GI.out kxt _ hb_0_3 (HN_t.out _ _ _ ho_kxt_3) (cap_of_own ho_kxt_3)
  go_wp2_with fail
  refine g4.mono ?_
  rintro e w4 ⟨y0, rfl, ho_n0, hstep⟩
  clear g4
  have ho_kxt_4 := owns_below ho_kxt_3 hstep
  clear ho_kxt_3
  have hb_0_4 := Below.step hb_0_3 hb_0_3.size hstep
  clear hb_0_3
  have hb_A_4 := Below.step hb_A_3 hb_A_3.size hstep
  clear hb_A_3
  have hb_X_4 := Below.step hb_X_3 hb_X_3.size hstep
  clear hb_X_3
  have hsz_4 := hstep.size
  clear hstep
  have ho_y0_4 := ho_n0
  clear ho_n0
  have hblk_y0 := fun k hk => own_block ho_y0_4 (k := k) hk
  have hsX := hb_X_4.size
  have g5 := eqNodeS_any y0 u0 R0 R0 _ (HR0.out _ _ _ ho_y0_4) (HU0.out _ hb_A_4)
  rw [decide_eq_true rfl] at g5
  go_wp2_with fail
  refine g5.mono ?_
  rintro e w5 ⟨rfl, hstep⟩
  clear g5
  have ho_kxt_5 := owns_below ho_kxt_4 hstep
  clear ho_kxt_4
  have ho_y0_5 := owns_below ho_y0_4 hstep
  clear ho_y0_4
  have hb_0_5 := Below.step hb_0_4 hb_0_4.size hstep
  clear hb_0_4
  have hb_A_5 := Below.step hb_A_4 hb_A_4.size hstep
  clear hb_A_4
  have hb_X_5 := Below.step hb_X_4 hb_X_4.size hstep
  clear hb_X_4
  clear hstep
  have g6 := GT_t.out _ hb_0_5
  go_wp2_with fail
  refine g6.mono ?_
  rintro e w6 ⟨c_, rfl, ho_new, hstep⟩
  clear g6
  have ho_kxt_6 := owns_below ho_kxt_5 hstep
  clear ho_kxt_5
  have ho_y0_6 := owns_below ho_y0_5 hstep
  clear ho_y0_5
  have hb_0_6 := Below.step hb_0_5 hb_0_5.size hstep
  clear hb_0_5
  have hb_A_6 := Below.step hb_A_5 hb_A_5.size hstep
  clear hb_A_5
  have hb_X_6 := Below.step hb_X_5 hb_X_5.size hstep
  clear hb_X_5
  clear hstep
  have g7 := eqNodeS_any kxt c_ t t _ (HN_t.out _ _ _ ho_kxt_6) (HN_t.out _ _ _ ho_new)
  rw [decide_eq_true rfl] at g7
  clear ho_new
  go_wp2_with fail
  refine g7.mono ?_
  rintro e w7 ⟨rfl, hstep⟩
  clear g7
  have ho_kxt_7 := owns_below ho_kxt_6 hstep
  clear ho_kxt_6
  have ho_y0_7 := owns_below ho_y0_6 hstep
  clear ho_y0_6
  have hb_0_7 := Below.step hb_0_6 hb_0_6.size hstep
  clear hb_0_6
  have hb_A_7 := Below.step hb_A_6 hb_A_6.size hstep
  clear hb_A_6
  have hb_X_7 := Below.step hb_X_6 hb_X_6.size hstep
  clear hb_X_6
  clear hstep
  have g8 := markNodeS_any kxt _ t.length _ _ (1) (by omega) (by omega) (by omega) _ ho_kxt_7
  go_wp2_with fail
  refine g8.mono ?_
  rintro e w8 ⟨rfl, ho_m, hgr⟩
  clear g8
  have ho_y0_8 := own_other ho_y0_7 hgr (fun k hk => by have := hblk_kxt k hk; omega)
  clear ho_y0_7
  have hb_0_8 := Below.grown hb_0_7 hgr hb_0_7.size (fun k hk => by have := hblk_kxt k hk; omega)
  clear hb_0_7
  have hb_A_8 := Below.grown hb_A_7 hgr hb_A_7.size (fun k hk => by have := hblk_kxt k hk; omega)
  clear hb_A_7
  clear hb_X_7
  clear ho_kxt_7 hgr
  have ho_mkxt := ho_m
  clear ho_m
  clear ho_mkxt
  have g9 := eqNodeS_any y0 u0 R0 R0 _ (HR0.out _ _ _ ho_y0_8) (HU0.out _ hb_A_8)
  rw [decide_eq_true rfl] at g9
  go_wp2_with fail
  refine g9.mono ?_
  rintro e w9 ⟨rfl, hstep⟩
  clear g9
  have ho_y0_9 := owns_below ho_y0_8 hstep
  clear ho_y0_8
  have hb_0_9 := Below.step hb_0_8 hb_0_8.size hstep
  clear hb_0_8
  have hb_A_9 := Below.step hb_A_8 hb_A_8.size hstep
  clear hb_A_8
  clear hstep
  have g10 := markNodeS_any y0 _ R0.length _ _ (1) (by omega) (by omega) (by omega) _ ho_y0_9
  go_wp2_with fail
  refine g10.mono ?_
  rintro e w10 ⟨rfl, ho_m, hgr⟩
  clear g10
  have hb_0_10 := Below.grown hb_0_9 hgr hb_0_9.size (fun k hk => by have := hblk_y0 k hk; omega)
  clear hb_0_9
  have hb_A_10 := Below.grown hb_A_9 hgr hb_A_9.size (fun k hk => by have := hblk_y0 k hk; omega)
  clear hb_A_9
  clear ho_y0_9 hgr
  have ho_my0 := ho_m
  clear ho_m
  have g11 := heldNodeS_any y0 _ R0.length _ (1) (by omega) (by omega) (by omega) _ ho_my0
  go_wp2_with fail
  refine g11.mono ?_
  rintro e w_ ⟨rfl, rfl⟩
  clear g11
  have g12 := GT_t.out _ hb_0_10
  go_wp2_with fail
  refine g12.mono ?_
  rintro e w11 ⟨ktt, rfl, ho_new, hstep⟩
  clear g12
  have ho_y0_11 := owns_below ho_my0 hstep
  clear ho_my0
  have hb_0_11 := Below.step hb_0_10 hb_0_10.size hstep
  clear hb_0_10
  have hb_A_11 := Below.step hb_A_10 hb_A_10.size hstep
  clear hb_A_10
  clear hstep
  have ho_ktt_11 := ho_new
  clear ho_new
  have g13 := GI.out ktt _ hb_0_11 (HN_t.out _ _ _ ho_ktt_11) (cap_of_own ho_ktt_11)
  go_wp2_with fail
  refine g13.mono ?_
  rintro e w12 ⟨h0, rfl, ho_n0, hstep⟩
  clear g13
  have ho_y0_12 := owns_below ho_y0_11 hstep
  clear ho_y0_11
  have ho_ktt_12 := owns_below ho_ktt_11 hstep
  clear ho_ktt_11
  have hb_0_12 := Below.step hb_0_11 hb_0_11.size hstep
  clear hb_0_11
  have hb_A_12 := Below.step hb_A_11 hb_A_11.size hstep
  clear hb_A_11
  clear hstep
  have ho_h0_12 := ho_n0
  clear ho_n0
  clear ho_ktt_12
  have g14 := eqNodeS_any h0 u0 R0 R0 _ (HR0.out _ _ _ ho_h0_12) (HU0.out _ hb_A_12)
  rw [decide_eq_true rfl] at g14
  go_wp2_with fail
  refine g14.mono ?_
  rintro e w13 ⟨rfl, hstep⟩
  clear g14
  have ho_y0_13 := owns_below ho_y0_12 hstep
  clear ho_y0_12
  have ho_h0_13 := owns_below ho_h0_12 hstep
  clear ho_h0_12
  have hb_0_13 := Below.step hb_0_12 hb_0_12.size hstep
  clear hb_0_12
  have hb_A_13 := Below.step hb_A_12 hb_A_12.size hstep
  clear hb_A_12
  clear hstep
  clear ho_h0_13
  have g15 := heldNodeS_any y0 _ R0.length _ (1) (by omega) (by omega) (by omega) _ ho_y0_13
  go_wp2_with fail
  refine g15.mono ?_
  rintro e w_ ⟨rfl, rfl⟩
  clear g15
  have HB : Hid (Below w'.heap.size w' _) := hb_0_13
  clear ho_y0_13
  go_wp2_with fail
  go_ret
  exact ⟨rfl, HB.out⟩
set_option maxRecDepth 100000 in
theorem foldTerm_big0 (wide : Int) (vars : Int) (tv : Value) (t : List Nd) (ha : 0 ≤ 1048576) (hz : 1048576 < t.length) (w : World) (h_t : NodesAt w tv t) :
    Calls Tryd.prog 13 #[.int .i64 wide, .int .i64 vars, tv] w fun e w' => e = .returned (.bool true) ∧ Below w.heap.size w w' := by
  have hn_t := h_t.2.1
  have z0 : Calls Tryd.prog 41 #[tv, .int .i64 (1048576)] w fun e w' => e = .returned (.int .i64 (-1)) ∧ w' = w := by
    obtain ⟨ad, cap, hsh⟩ := h_t.shape
    have g := szNodeS_any ad t.length cap (1048576) (by omega) (by omega) (by omega) w
    rw [if_pos (by omega), ← hsh] at g
    exact g
  clear h_t
  go_enter Tryd.func13, Tryd.ntmps13
  go_wp2_with fail
  refine z0.mono ?_
  rintro e w' ⟨rfl, rfl⟩
  clear z0
  go_wp2_with fail
  go_ret
  exact ⟨rfl, Below.refl _ _⟩
theorem foldTerm_law (hI : DoesFoldTerm) (wide : Int) (vars : Int) (hwide0 : -9223372036854775808 ≤ wide) (hwide1 : wide ≤ 9223372036854775807) (hvars0 : -9223372036854775808 ≤ vars) (hvars1 : vars ≤ 9223372036854775807) (tv : Value) (t : List Nd) (w : World) (hT : Tab w) (h_t : NodesAt w tv t) :
    Calls Tryd.prog 13 #[.int .i64 wide, .int .i64 vars, tv] w fun e w' => e = .returned (.bool true) ∧ Below w.heap.size w w' := by
  by_cases htot : t.length ≤ 1048576
  · exact foldTerm_small hI wide vars hwide0 hwide1 hvars0 hvars1 tv t htot w hT h_t
  exact foldTerm_big0 wide vars tv t (by omega) (by omega) w h_t
end Go.Proofs.YtkmgcgmeibhnmaaDoor

namespace Go.Proofs.YtkmgcgmeibhnmaaDoor
open Go Go.RowKit
open M
set_option linter.unusedVariables false

theorem equal4 (a b c d : Bool) (w : World) : Sem.run Tryd.prog (Op.equalIn 10000 100 (.agg #[.bool a, .bool b, .bool c, .bool d]) (.agg #[.bool false, .bool false, .bool false, .bool false])) w = .ok (!(a || b || c || d)) w := by
  cases a <;> cases b <;> cases c <;> cases d <;> kernel_rfl
set_option maxRecDepth 100000 in
set_option maxHeartbeats 1000000 in
theorem hasVars_any (r : Tr) (wide vars : Int) (hok : r.Ok wide vars) (hp : Pos r) (hv4 : vars ≤ 4) (b : Nat) (w : World) (htr : TrAt w (Old w) r b) :
    Calls Tryd.prog 101 #[ptr b] w fun e w' => e = .returned (.bool (trVar r)) ∧ Below w.heap.size w w' := by
  have hv : ∀ x ∈ r.flat, x.1 = 2 → 0 ≤ x.2 ∧ x.2 < 4 := by
    intro x hx h2
    have h3 := ok_vars hok x hx h2
    have h4 := hp x hx
    omega
  have gN := nameVars_any r b w.heap.size (fun _ => false) (w.alloc (.cells #[.bool false, .bool false, .bool false, .bool false] 100)) (TrAt.frame (fun k hk => ⟨by simp; exact Nat.lt_succ_of_lt hk, Nat.ne_of_lt hk⟩) (fun k hk => Below.heap_alloc _ _ _ hk) htr) (by
    show (w.heap.push _)[w.heap.size]? = _
    rw [Array.getElem?_push_size]
    rfl) hv ⟨wide, vars, hok⟩
  simp only [Bool.false_or] at gN
  have HB1 : Hid (Below w.heap.size w (w.alloc (.cells #[.bool false, .bool false, .bool false, .bool false] 100))) := (Below.refl _ _).alloc (Nat.le_refl _) _
  have HV : Hid (trVar r = (decide (((2, 0) : Nd) ∈ r.flat) || decide (((2, 1) : Nd) ∈ r.flat) || decide (((2, 2) : Nd) ∈ r.flat) || decide (((2, 3) : Nd) ∈ r.flat))) := by
    show _ = _
    rw [Bool.eq_iff_iff]
    simp only [Bool.or_eq_true, decide_eq_true_eq]
    rw [trVar_iff hok]
    constructor
    · rintro ⟨⟨op, n⟩, hx, h2⟩
      simp only at h2
      subst h2
      have h4 := hv (2, n) hx rfl
      simp only at h4
      rcases (show n = 0 ∨ n = 1 ∨ n = 2 ∨ n = 3 by omega) with rfl | rfl | rfl | rfl
      · exact Or.inl (Or.inl (Or.inl hx))
      · exact Or.inl (Or.inl (Or.inr hx))
      · exact Or.inl (Or.inr hx)
      · exact Or.inr hx
    · rintro (((h | h) | h) | h) <;> exact ⟨_, h, rfl⟩
  rw [HV.out]
  generalize hF0 : (fun i : Int => decide (((2, i) : Nd) ∈ r.flat)) = F at gN
  have h0 : decide (((2, 0) : Nd) ∈ r.flat) = F 0 := by rw [← hF0]
  have h1 : decide (((2, 1) : Nd) ∈ r.flat) = F 1 := by rw [← hF0]
  have h2 : decide (((2, 2) : Nd) ∈ r.flat) = F 2 := by rw [← hF0]
  have h3 : decide (((2, 3) : Nd) ∈ r.flat) = F 3 := by rw [← hF0]
  rw [h0, h1, h2, h3]
  clear h0 h1 h2 h3 hF0 HV hv htr hok hp
  go_enter Tryd.func101, Tryd.ntmps101
  go_wp2_with fail
  refine gN.mono ?_
  rintro e w2 ⟨rfl, hh2, hbt⟩
  have HB2 : Hid (Below w.heap.size w w2) := HB1.out.trans (hbt.below (Nat.le_refl _) HB1.out.size)
  have d0 := cell_heap (o := 0) hh2
  have d1 := cell_heap (o := 1) hh2
  have d2 := cell_heap (o := 2) hh2
  have d3 := cell_heap (o := 3) hh2
  simp only [bools, List.getElem?_toArray, List.getElem?_cons_succ, List.getElem?_cons_zero] at d0 d1 d2 d3
  have eq4 := equal4 (F 0) (F 1) (F 2) (F 3) w2
  clear gN hh2 hbt
  go_wp2_with fail
  go_ret
  exact ⟨rfl, HB2.out⟩
end Go.Proofs.YtkmgcgmeibhnmaaDoor

namespace Go.Proofs.YtkmgcgmeibhnmaaDoor
open Go Go.RowKit
open M
set_option linter.unusedVariables false

/-- the tree that nodeOver made, among all that lies there -/
theorem tr_all {w w' : World} {S : Nat → Prop} {t : Tr} {b : Nat} (hS : ∀ k, S k → k < w.heap.size) (hb : Below w.heap.size w w') (h : TrAt w' (fun k => S k ∨ (w.heap.size ≤ k ∧ k < w'.heap.size)) t b) : TrAt w' (Old w') t b :=
  TrAt.frame (fun k hk => by
    rcases hk with hk | hk
    · exact Nat.lt_of_lt_of_le (hS k hk) hb.size
    · exact hk.2) (fun _ _ => rfl) h
/-- blocks of S or made since w, which lie there and are not the row's -/
abbrev Mix (S : Nat → Prop) (w wr : World) (v : Value) : Nat → Prop := fun k => (S k ∨ w.heap.size ≤ k) ∧ OldBut wr v k
theorem mix_next {S : Nat → Prop} {w w3 w7 : World} {v v0 v7 : Value} {o : Obj} {l : List Tr} {ps : List Nat} (ht : TrsAt w3 (Mix S w w3 v) l ps) (grow : (w3.alloc o).grownBy w7 v0.ownBlock) (hat : v7.ownBlock = v0.ownBlock ∨ v7.ownBlock = some (w3.heap.size + 1)) (hvb : v0.ownBlock = v.ownBlock) : TrsAt w7 (Mix S w w7 v7) l ps := by
  have hs := grow.size
  rw [show (w3.alloc o).heap.size = w3.heap.size + 1 from by simp] at hs
  refine TrsAt.frame (fun k hk => ⟨hk.1, ?_, ?_⟩) (fun k hk => ?_) ht
  · have := hk.2.1
    omega
  · rcases hat with h | h
    · rw [h, hvb]
      exact hk.2.2
    · rw [h]
      intro e
      have := Option.some.inj e
      have := hk.2.1
      omega
  · rw [grow.block k (by have := hk.2.1; simp; omega) (by rw [hvb]; exact hk.2.2)]
    exact Below.heap_alloc _ _ _ hk.2.1
/-- S or made since w -/
abbrev New (S : Nat → Prop) (w w' : World) : Nat → Prop := fun k => S k ∨ (w.heap.size ≤ k ∧ k < w'.heap.size)
theorem new_low {S : Nat → Prop} {w w1 w' : World} {t : Tr} {b : Nat} (hs : w.heap.size ≤ w1.heap.size) (h : TrAt w' (New S w1 w') t b) : TrAt w' (New S w w') t b :=
  TrAt.frame (fun k hk => hk.elim Or.inl fun h => Or.inr ⟨Nat.le_trans hs h.1, h.2⟩) (fun _ _ => rfl) h
set_option maxRecDepth 100000 in
theorem leafOf_any (S : Nat → Prop) (kind n : Int) (hk : kind = 1 ∨ kind = 2) (w : World) (hS : ∀ k, S k → k < w.heap.size) :
    Calls Tryd.prog 102 #[.int .i64 kind, .int .u64 n] w fun e w' => ∃ b, e = .returned (ptr b) ∧ TrAt w' (New S w w') (.leaf (if kind = 2 then 20 else 1, n)) b ∧ Below w.heap.size w w' := by
  have G : Hid (∀ op : Int, op = 20 ∨ op = 1 → Calls Tryd.prog 79 #[.agg #[.int .i64 op, .int .u64 n], .slice none 0 0] w fun e w' => ∃ b, e = .returned (ptr b) ∧ TrAt w' (New S w w') (.leaf (op, n)) b ∧ Below w.heap.size w w') := by
    intro op hop
    refine (nodeOver_made op n [] [] (.slice none 0 0) w S hS ⟨by simp, Or.inl ⟨rfl, none, 0, rfl⟩⟩ ⟨rfl, fun i a p ha _ => by simp at ha⟩ (by rcases hop with rfl | rfl <;> decide) (by rcases hop with rfl | rfl <;> rfl) (fun q hq => by cases hq) (by simp [sizes])).mono ?_
    rintro e w' ⟨b, he, htr, hb⟩
    exact ⟨b, he, htr, hb⟩
  rcases hk with rfl | rfl
  · have g := G.out 1 (Or.inr rfl)
    clear G
    go_enter Tryd.func102, Tryd.ntmps102
    go_wp2_with fail
    refine g.mono ?_
    rintro e w1 ⟨b, rfl, htr, hb⟩
    have HT : Hid _ := htr
    have HB : Hid _ := hb
    clear g htr hb
    go_wp2_with fail
    go_ret
    exact ⟨_, rfl, HT.out, HB.out⟩
  · have g := G.out 20 (Or.inl rfl)
    clear G
    go_enter Tryd.func102, Tryd.ntmps102
    go_wp2_with fail
    refine g.mono ?_
    rintro e w1 ⟨b, rfl, htr, hb⟩
    have HT : Hid _ := htr
    have HB : Hid _ := hb
    clear g htr hb
    go_wp2_with fail
    go_ret
    exact ⟨_, rfl, HT.out, HB.out⟩
/-- what fold does with a tree -/
def FoldP (k : Nat) (vars : Int) (r : Tr) : Prop := ∀ (S : Nat → Prop) (b : Nat) (w : World), (∀ k, S k → k < w.heap.size) → Tab w → TrAt w (Old w) r b → r.Ok k vars → Pos r → r.size ≤ 100000 →
  Calls Tryd.prog 72 #[ptr b, .int .i64 k] w fun e w' => ∃ b', e = .returned (ptr b') ∧ TrAt w' (New S w w') (trFold k r) b' ∧ Below w.heap.size w w'
set_option maxRecDepth 100000 in
set_option maxHeartbeats 4000000 in
theorem fold_step (k : Nat) (hk1 : 1 ≤ k) (hk : k ≤ 64) (vars : Int) (hv4 : vars ≤ 4) (r : Tr) (ih : ∀ q ∈ r.parts, FoldP k vars q) : FoldP k vars r := by
  intro S b w hSW hT htr hok hp hsz
  have g1 := hasVars_any r k vars hok hp hv4 b w htr
  cases hv : trVar r with
  | false =>
    rw [hv] at g1
    rw [trFold_no k r hv]
    have gV : ∀ w1, Below w.heap.size w w1 → Calls Tryd.prog 68 #[ptr b, .int .i64 k, .slice none 0 0] w1 fun e w' => e = .returned (.int .u64 (trVal k [] r)) ∧ Below w1.heap.size w1 w' :=
      fun w1 hb => value_any k hk1 hk vars [] (.slice none 0 0) (by simp) (by simp) r b w1 (hT.below hb hT.some) (htr.below hb) (Or.inl ⟨rfl, none, 0, rfl⟩) hok hp (novar_below hok hv _)
    have gL : ∀ w1, Below w.heap.size w w1 → Calls Tryd.prog 102 #[.int .i64 r.kind, .int .u64 (trVal k [] r)] w1 fun e w' => ∃ b, e = .returned (ptr b) ∧ TrAt w' (New S w1 w') (.leaf (litN r.nd.1 (trVal k [] r))) b ∧ Below w1.heap.size w1 w' :=
      fun w1 hb => leafOf_any S r.kind (trVal k [] r) (Tr.kind_pos hok) w1 (fun k hk => Nat.lt_of_lt_of_le (hSW k hk) hb.size)
    obtain ⟨ps, ⟨hb0, _, _, n2, _⟩, _⟩ := trAt_open htr
    have GV : Hid _ := gV
    have GL : Hid _ := gL
    have HN2 : Hid (∀ w1, Below w.heap.size w w1 → w1.cell? ⟨b, 2, none⟩ = some (.int .i64 r.kind)) := fun w1 hb => by
      rw [hb.cell (p := ⟨b, 2, none⟩) hb0]
      exact n2
    clear ih hT htr hok hp hv gV gL n2
    generalize trVal k [] r = vv at *
    go_enter Tryd.func72, Tryd.ntmps72
    go_wp2_with fail
    refine g1.mono ?_
    rintro e w1 ⟨rfl, hb1⟩
    clear g1
    have n2 := HN2.out w1 hb1
    have HB1 : Hid _ := hb1
    clear hb1
    go_wp2_with fail
    go_region_with (first | (go_at_call 68; refine (GV.out _ HB1.out.drew).mono ?_; rintro e w2 ⟨rfl, hb2⟩; have HB2 : Hid (Below w.heap.size w w2) := HB1.out.drew.trans (hb2.mono HB1.out.size); have n2' := HN2.out w2 HB2.out; clear hb2) | (go_at_call 102; refine (GL.out _ HB2.out).mono ?_; rintro e w3 ⟨b3, rfl, ht3, hb3⟩; have HT3 : Hid _ := new_low HB2.out.size ht3; have HB3 : Hid (Below w.heap.size w w3) := HB2.out.trans (hb3.mono HB2.out.size); clear ht3 hb3))
    all_goals
      go_wp2_with fail
      go_ret
      exact ⟨_, rfl, HT3.out, HB3.out⟩
  | true =>
    rw [hv] at g1
    rw [trFold_yes k r hv]
    obtain ⟨ps, ⟨hb0, n0, n1, _, _, pvl, n4, hpv⟩, hpt⟩ := trAt_open htr
    obtain ⟨pa, pc, hpsh⟩ := hpv.shape
    have hpl2 : ps.length ≤ 2 := by
      have h2 : r.parts.length ≤ 2 := by cases r <;> simp [Tr.parts]
      have := hpt.1
      omega
    have HN : Hid (∀ w1, Below w.heap.size w w1 → w1.cell? ⟨b, 0, none⟩ = some (.int .i64 r.nd.1) ∧ w1.cell? ⟨b, 1, none⟩ = some (.int .u64 r.nd.2) ∧ w1.cell? ⟨b, 4, none⟩ = some pvl) := fun w1 hb => by
      refine ⟨?_, ?_, ?_⟩
      · rw [hb.cell (p := ⟨b, 0, none⟩) hb0]
        exact n0
      · rw [hb.cell (p := ⟨b, 1, none⟩) hb0]
        exact n1
      · rw [hb.cell (p := ⟨b, 4, none⟩) hb0]
        exact n4
    have HIH : Hid (∀ (j q' : Nat) (q : Tr) (w1 : World), r.parts[j]? = some q → ps[j]? = some q' → Below w.heap.size w w1 → Calls Tryd.prog 72 #[ptr q', .int .i64 k] w1 fun e w' => ∃ b', e = .returned (ptr b') ∧ TrAt w' (New S w1 w') (trFold k q) b' ∧ Below w1.heap.size w1 w') := by
      intro j q' q w1 hq hq' hb1
      have hmem := List.mem_of_getElem? hq
      have hfl : ∀ x ∈ q.flat, x ∈ r.flat := by
        intro x hx
        rw [Tr.flat_eq r]
        exact List.mem_append_left _ (List.mem_flatMap.2 ⟨q, hmem, hx⟩)
      have hqs : q.size ≤ r.size := by
        rw [Tr.size_eq r]
        have := size_le_sizes hmem
        omega
      exact ih q hmem S q' w1 (fun k hk => Nat.lt_of_lt_of_le (hSW k hk) hb1.size) (hT.below hb1 hT.some) ((hpt.2 j q q' hq hq').below hb1) (Tr.ok_parts hok q hmem).2 (fun x hx => hp x (hfl x hx)) (by omega)
    have HMADE : Hid (∀ (bs : List Nat) (v : Value) (w1 : World) (S1 : Nat → Prop), (∀ k, S1 k → k < w1.heap.size) → PtrsAt w1 (Old w1) v bs → TrsAt w1 S1 (r.parts.map (trFold k)) bs → Calls Tryd.prog 79 #[.agg #[.int .i64 r.nd.1, .int .u64 r.nd.2], v] w1 fun e w' => ∃ b', e = .returned (ptr b') ∧ TrAt w' (New S1 w1 w') (Tr.over r.nd (r.parts.map (trFold k))) b' ∧ Below w1.heap.size w1 w') := by
      intro bs v w1 S1 hS1 h1 h2
      obtain ⟨m1, m2, m3⟩ := Tr.ok_nd hok
      refine nodeOver_made r.nd.1 r.nd.2 (r.parts.map (trFold k)) bs v w1 S1 hS1 h1 h2 m1 (by simpa using m3) ?_ ?_
      · intro q hq
        obtain ⟨q0, hq0, rfl⟩ := List.mem_map.1 hq
        rw [trFold_kind k q0 (Tr.ok_parts hok q0 hq0).2]
        exact (Tr.ok_parts hok q0 hq0).1
      · have h3 : ∀ l : List Tr, sizes (l.map (trFold k)) ≤ sizes l := by
          intro l
          induction l with
          | nil => simp [sizes]
          | cons a l ihl =>
            have := trFold_size k a
            simp only [List.map_cons, sizes]
            omega
        have h4 := h3 r.parts
        have h5 := Tr.size_eq r
        omega
    have HPV : Hid _ := hpv
    have HL : Hid (r.parts.length = ps.length) := hpt.1
    have HSW : Hid _ := hSW
    obtain ⟨i0, hi, hz0, hz1, hz2⟩ := info_parts infoPtr
    clear ih hT htr hok hp hv hpv hpt n0 n1 n4 hb0 hSW
    subst hpsh
    generalize hTR : Tr.over r.nd (r.parts.map (trFold k)) = TR at *
    clear hTR
    generalize r.nd.1 = op at *
    generalize r.nd.2 = n at *
    go_enter Tryd.func72, Tryd.ntmps72
    go_wp2_with fail
    refine g1.mono ?_
    rintro e w1 ⟨rfl, hb1⟩
    clear g1
    obtain ⟨_, _, n4⟩ := HN.out w1 hb1
    have HB1 : Hid (Below w.heap.size w w1) := hb1
    clear hb1
    go_wp2_with fail
    go_loopw [5, 24] (fun v i wr => ∃ (j : Nat) (bs : List Nat), j ≤ ps.length ∧ i = .int .i64 j ∧ Hid (wr.ownsRow w.heap.size 83 1 v bs.length (ptrs bs)) ∧ Hid (TrsAt wr (Mix S w wr v) ((r.parts.take j).map (trFold k)) bs) ∧ Hid (Below w.heap.size w wr)) (fun _ i _ => ps.length - (intOf i).toNat)
    case atStart => exact ⟨0, [], by omega, rfl, World.ownsRow_nil _ _ _ _, ⟨rfl, fun i a p ha _ => by simp at ha⟩, HB1⟩
    case round =>
      obtain ⟨j, bs, hj, rfl, HO, HS, HB⟩ := hrel
      have hbl : bs.length = j := by
        have h1 := HS.out.1
        have h2 := HL.out
        simp at h1
        omega
      by_cases hlt' : j < ps.length
      · obtain ⟨p, hp⟩ : ∃ p, ps[j]? = some p := ⟨ps[j], List.getElem?_eq_getElem hlt'⟩
        obtain ⟨q, hq⟩ : ∃ q, r.parts[j]? = some q := ⟨r.parts[j]'(by have := HL.out; omega), List.getElem?_eq_getElem _⟩
        obtain ⟨g, off, rfl, hg, c0⟩ := PtrsAt.at HPV.out hp
        rw [← HB.out.cell (p := ⟨g, off + j, none⟩) hg] at c0
        have gI := HIH.out j p q wr hq hp HB.out
        have HE : Hid ((r.parts.take j).map (trFold k) ++ [trFold k q] = (r.parts.take (j + 1)).map (trFold k)) := by
          show _ = _
          rw [List.take_add_one, hq]
          simp
        obtain ⟨av, cv, hsv⟩ := own_shape HO.out
        have HBL : Hid (bs.length = j) := hbl
        have hb2' : bs.length ≤ 2 := by omega
        clear hp hq hg hbl
        generalize hNL : (r.parts.take (j + 1)).map (trFold k) = NL at *
        have HNL : Hid _ := hNL
        clear hNL
        generalize trFold k q = tq at *
        subst hsv
        go_wp2_with fail
        refine gI.mono ?_
        rintro e w2 ⟨b2, rfl, ht2, hb2⟩
        have HB2 : Hid (Below w.heap.size w w2) := HB.out.trans (hb2.mono HB.out.size)
        have HS2 : Hid (TrsAt w2 (Mix S w w2 (.slice av bs.length cv)) NL (bs ++ [b2])) := by
          show TrsAt _ _ _ _
          rw [← HE.out]
          refine trs_snoc (TrsAt.frame (fun k hk => ⟨hk.1, Nat.lt_of_lt_of_le hk.2.1 hb2.size, hk.2.2⟩) (fun k hk => hb2.block k hk.2.1) HS.out) (TrAt.frame (fun k hk => ?_) (fun _ _ => rfl) ht2)
          rcases hk with hk | hk
          · have h1 := HSW.out k hk
            have h2 := HB2.out.size
            exact ⟨Or.inl hk, by omega, fun e => by have := (HO.out.lt k e.symm).1; omega⟩
          · have h2 := HB.out.size
            exact ⟨Or.inr (by omega), hk.2, fun e => by have := (HO.out.lt k e.symm).2; omega⟩
        have own2 : w2.ownsRow w.heap.size 83 1 (.slice av bs.length cv) bs.length (ptrs bs) := owns_below HO.out hb2
        have HO2 : Hid _ := own2
        have HLX : Hid (ptrs bs ++ [ptr b2] = ptrs (bs ++ [b2]) ∧ bs.length + 1 = (bs ++ [b2]).length) := by
          constructor
          · simp [ptrs]
          · simp
        have own1 := own2.alloc (.cells #[ptr b2] 83)
        generalize ptrs bs = xs0 at own1 HLX
        generalize bs ++ [b2] = NB at *
        have HBx : Hid (Below w.heap.size w (w2.alloc (.cells #[ptr b2] 83))) := HB2.out.alloc HB2.out.size _
        have cellsN := onePtr_cells w2 b2
        clear gI ht2 hb2 own2
        go_wp2_with (at_builtin; refine wpList_append_own_at _ rfl _ _ 85 rfl w.heap.size 83 i0 (.pointer none) 1 8 Tryd.underlying85 hi hz0 hz1 hz2 rfl (by decide) _ _ _ rfl own1 ⟨w2.heap.size, 0, none⟩ 1 1 [ptr b2] rfl rfl cellsN (by intro u hu; simp at hu; subst hu; rfl) (by unfold maxLen; omega) (by omega) (by have h := HB2.out.size; simp; omega) ?_)
        intro v7 w7 own7 grow7 _ hat7
        have HO7 : Hid (w7.ownsRow w.heap.size 83 1 v7 NB.length (ptrs NB)) := by
          show World.ownsRow _ _ _ _ _ _ _
          rw [← HLX.out.1, ← HLX.out.2]
          exact own7
        have HT7 : Hid (TrsAt w7 (Mix S w w7 v7) NL NB) := mix_next HS2.out grow7 hat7 rfl
        have HB7 : Hid (Below w.heap.size w w7) := HBx.out.grown grow7 HBx.out.size (fun k hk => (World.ownsRow.lt HO2.out k hk).1)
        clear own1 own7 grow7 hat7 cellsN
        go_wp2_with fail
        go_roundw
        case rel => exact ⟨j + 1, NB, by omega, by go_num, HO7, by rw [HNL.out]; exact HT7, HB7⟩
        case measure => simp [intOf]; omega
      · obtain rfl : j = ps.length := by omega
        have hall : (r.parts.take ps.length).map (trFold k) = r.parts.map (trFold k) := by
          rw [← HL.out, List.take_length]
        have hS2 := HS.out
        rw [hall] at hS2
        obtain ⟨av, cv, hsv⟩ := own_shape HO.out
        have g9 := HMADE.out bs u5 wr (Mix S w wr u5) (fun k hk => hk.2.1) (ptrs_of_own HO.out (by omega)) hS2
        obtain ⟨n0, n1, _⟩ := HN.out wr HB.out
        clear hS2 hall HS HIH HPV HMADE hbl
        subst hsv
        go_wp2_with fail
        refine g9.mono ?_
        rintro e w9 ⟨b9, rfl, ht9, hb9⟩
        have HT9 : Hid (TrAt w9 (fun k => S k ∨ (w.heap.size ≤ k ∧ k < w9.heap.size)) TR b9) := by
          refine TrAt.frame (fun k hk => ?_) (fun _ _ => rfl) ht9
          have h2 := HB.out.size
          have h3 := hb9.size
          rcases hk with hk | hk
          · rcases hk.1 with h1 | h1
            · exact Or.inl h1
            · exact Or.inr ⟨h1, Nat.lt_of_lt_of_le hk.2.1 h3⟩
          · exact Or.inr ⟨by omega, hk.2⟩
        have HB9 : Hid (Below w.heap.size w w9) := HB.out.trans (hb9.mono HB.out.size)
        clear g9 ht9 hb9
        go_wp2_with fail
        go_ret
        exact ⟨_, rfl, HT9.out, HB9.out⟩
theorem fold_any (k : Nat) (hk1 : 1 ≤ k) (hk : k ≤ 64) (vars : Int) (hv4 : vars ≤ 4) : ∀ r : Tr, FoldP k vars r := Tr.ind (fold_step k hk1 hk vars hv4)
end Go.Proofs.YtkmgcgmeibhnmaaDoor

namespace Go.Proofs.YtkmgcgmeibhnmaaDoor
open Go Go.RowKit
open M
set_option linter.unusedVariables false

set_option maxRecDepth 100000 in
set_option maxHeartbeats 1000000 in
theorem impl_FoldTerm : DoesFoldTerm := by
  intro wide vars v t w hT h hl hcap hw0 hw1 hv0 hv1
  by_cases hk : 0 < kindL wide vars t
  · obtain ⟨g1, g2, g3, g4, g5, r, hr, k1, k2, k3⟩ := root_tree hk
    have g := rootOf_yes wide vars v t w hT h r hk hr
    have hfl := foldL_tree hk hr
    rw [decide_eq_true hk, hfl]
    obtain ⟨k, rfl, hk1, hk64⟩ := wideB_true g1
    rw [Int.toNat_natCast]
    have hsz : r.size ≤ 48 := by
      have := r.flat_len
      rw [k2] at this
      omega
    have hp : Pos r := by
      intro x hx
      rw [k2] at hx
      exact (h.1 x hx).2.2.1
    have GF : Hid (∀ (b : Nat) (w1 : World), Below w.heap.size w w1 → TrAt w1 (Old w1) r b → Calls Tryd.prog 72 #[ptr b, .int .i64 k] w1 fun e w' => ∃ b', e = .returned (ptr b') ∧ TrAt w' (New (fun _ => False) w1 w') (trFold k r) b' ∧ Below w1.heap.size w1 w') :=
      fun b w1 hb htr => fold_any k hk1 hk64 vars g3 r (fun _ => False) b w1 (fun k hk => hk.elim) (hT.below hb hT.some) htr k1 hp (by omega)
    have HSZ : Hid ((trFold k r).size ≤ 48) := Nat.le_trans (trFold_size k r) hsz
    generalize trFold k r = tf at *
    clear hT h hk hr k1 k2 k3 hfl hp hsz g1 hcap
    go_enter Tryd.func26, Tryd.ntmps26
    go_wp2_with fail
    refine g.mono ?_
    rintro e w1 ⟨b, rfl, htr, hb1⟩
    have g7 := GF.out b w1 hb1 htr
    have HB1 : Hid _ := hb1
    clear g htr hb1 GF
    go_wp2_with fail
    refine g7.mono ?_
    rintro e w2 ⟨b2, rfl, ht2, hb2⟩
    have g8 := nodesOf_yes tf b2 w2 (TrAt.frame (fun k hk => by
      rcases hk with hk | hk
      · exact hk.elim
      · exact hk.2) (fun _ _ => rfl) ht2) HSZ.out
    have HB2 : Hid (Below w.heap.size w w2) := HB1.out.trans (hb2.mono HB1.out.size)
    clear g7 ht2 hb2
    go_wp2_with fail
    refine g8.mono ?_
    rintro e w3 ⟨v3, rfl, ho3, hb3⟩
    have HO3 : Hid (OwnNodes w3 w.heap.size v3 tf.flat) := ho3.low HB2.out.size
    have HB3 : Hid (Below w.heap.size w w3) := HB2.out.trans (hb3.mono HB2.out.size)
    clear g8 ho3 hb3
    go_wp2_with fail
    go_ret2
    exact ⟨_, rfl, HO3.out, HB3.out⟩
  · have g := rootOf_no wide vars v t w hT h hk
    have e1 : foldL wide vars t = [] := by
      unfold foldL
      rw [if_neg hk]
    rw [decide_eq_false hk, e1]
    clear hT h hk e1 hcap
    go_enter Tryd.func26, Tryd.ntmps26
    go_wp2_with fail
    refine g.mono ?_
    rintro e w1 ⟨rfl, hb1⟩
    have HB1 : Hid _ := hb1
    clear g hb1
    go_wp2_with fail
    go_ret2
    exact ⟨_, rfl, World.ownsRow_nil _ _ _ _, HB1.out⟩
end Go.Proofs.YtkmgcgmeibhnmaaDoor

namespace Go.Proofs.YtkmgcgmeibhnmaaDoor
open Go Go.RowKit
open M
set_option linter.unusedVariables false

theorem impl_GoodTerm : DoesGoodTerm := by
  intro wide vars v t w hT h hl
  by_cases hk : 0 < kindL wide vars t
  · obtain ⟨_, _, _, _, _, r, hr, _⟩ := root_tree hk
    have g := rootOf_yes wide vars v t w hT h r hk hr
    rw [decide_eq_true hk]
    clear hr hk hT h
    go_enter Tryd.func19, Tryd.ntmps19
    go_wp2_with fail
    refine g.mono ?_
    rintro e w' ⟨p, rfl, _, hb⟩
    have HB : Hid _ := hb
    clear g hb
    go_wp2_with fail
    go_ret
    exact ⟨rfl, HB.out⟩
  · have g := rootOf_no wide vars v t w hT h hk
    rw [decide_eq_false hk]
    clear hk hT h
    go_enter Tryd.func19, Tryd.ntmps19
    go_wp2_with fail
    refine g.mono ?_
    rintro e w' ⟨rfl, hb⟩
    have HB : Hid _ := hb
    clear g hb
    go_wp2_with fail
    go_ret
    exact ⟨rfl, HB.out⟩
theorem impl_KindOf : DoesKindOf := by
  intro wide vars v t w hT h hl
  by_cases hk : 0 < kindL wide vars t
  · obtain ⟨_, _, _, _, _, r, hr, _, _, hrk⟩ := root_tree hk
    have g := rootOf_yes wide vars v t w hT h r hk hr
    rw [decide_eq_true hk, ← hrk]
    obtain ⟨kk, hkk⟩ : ∃ kk, r.kind = kk := ⟨_, rfl⟩
    rw [hkk]
    have HKK : Hid (r.kind = kk) := hkk
    clear hr hk hT h hrk hkk
    go_enter Tryd.func29, Tryd.ntmps29
    go_wp2_with fail
    refine g.mono ?_
    rintro e w' ⟨p, rfl, htr, hb⟩
    obtain ⟨ps, ⟨_, _, _, n2, _⟩, _⟩ := trAt_open htr
    have HB : Hid _ := hb
    clear g hb htr
    rw [HKK.out] at n2
    go_wp2_with fail
    go_ret2
    exact ⟨rfl, HB.out⟩
  · have g := rootOf_no wide vars v t w hT h hk
    rw [decide_eq_false hk, kindL_zero hk]
    clear hk hT h
    go_enter Tryd.func29, Tryd.ntmps29
    go_wp2_with fail
    refine g.mono ?_
    rintro e w' ⟨rfl, hb⟩
    have HB : Hid _ := hb
    clear g hb
    go_wp2_with fail
    go_ret2
    exact ⟨rfl, HB.out⟩
end Go.Proofs.YtkmgcgmeibhnmaaDoor
