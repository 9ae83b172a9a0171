/-
  The drawing of terms (the model's number, asked, term, state): some nodes of their own memory, as many as said at most; the cursor good still, nothing else turned.
-/
import Derived.Test.YtpjllhlbdcanlaaDoorDraw
import Derived.Test.YtpjllhlbdcanlaaDoorTurn
import Derived.Test.YtpjllhlbdcanlaaDoorFold2
import Derived.Test.YtpjllhlbdcanlaaDoorILay
namespace Go.Proofs.YtpjllhlbdcanlaaDoor
open Go Go.RowKit
open M
set_option linter.unusedVariables false

/-- what is drawn: nodes that are owned since w, the cursor at b good, nothing else turned -/
def Drawn (B b m : Nat) (sv : Value) (L : Nat) (w w' : World) (v : Value) (t : List Nd) : Prop :=
  OwnNodes w' w.heap.size v t ∧ (∀ x ∈ t, NdOk x) ∧ 1 ≤ t.length ∧ t.length ≤ L ∧ Only b w w' ∧ Cur B b m sv w'
theorem own_one (w : World) (op n : Int) : OwnNodes (w.alloc (.cells #[.int .i64 op, .int .u64 n] 80)) w.heap.size (.slice (some ⟨w.heap.size, 0, none⟩) 1 1) [(op, n)] := by
  refine ⟨rfl, Or.inr ⟨w.heap.size, 1, #[.int .i64 op, .int .u64 n], rfl, Nat.le_refl _, ?_, Nat.le_refl _, by unfold maxLen; omega, rfl, rfl⟩⟩
  show (w.heap.push _)[w.heap.size]? = _
  simp
theorem one_ok {op n : Int} (h0 : 0 ≤ op) (h1 : op ≤ 1000) (h2 : 0 ≤ n) (h3 : n ≤ 18446744073709551615) : ∀ x ∈ [((op, n) : Nd)], NdOk x := by
  intro x hx
  simp at hx
  subst hx
  exact ⟨by simp only; omega, by simp only; omega, h2, h3⟩
/-- what is owned from B on is owned still where nothing but block b, below B, has turned -/
theorem own_keeps {w w' : World} {B b : Nat} {e : TypeId} {s : Nat} {v : Value} {n : Nat} {xs : List Value} (h : w.ownsRow B e s v n xs) (hb : b < B) (ho : Only b w w') : w'.ownsRow B e s v n xs := by
  obtain ⟨h1, h2⟩ := h
  refine ⟨h1, ?_⟩
  rcases h2 with h2 | ⟨g, cap, cur, hv, hg, hh, r⟩
  · exact Or.inl h2
  · have hlt : g < w.heap.size := (Array.getElem?_eq_some_iff.1 hh).1
    exact Or.inr ⟨g, cap, cur, hv, hg, by rw [ho.block g (by omega) hlt]; exact hh, r⟩
theorem Drawn.only {B b m m' L : Nat} {sv v : Value} {w w1 w2 : World} {t : List Nd} (hd : Drawn B b m sv L w w1 v t) (hb : b < w.heap.size) (ho : Only b w1 w2) (hc : Cur B b m' sv w2) : Drawn B b m' sv L w w2 v t := by
  obtain ⟨h1, h2, h3, h4, h5, h6⟩ := hd
  exact ⟨own_keeps h1 hb ho, h2, h3, h4, h5.trans ho, hc⟩
theorem Drawn.alloc {B b m L : Nat} {sv v : Value} {w w1 : World} {t : List Nd} (hd : Drawn B b m sv L w w1 v t) (o : Obj) : Drawn B b m sv L w (w1.alloc o) v t := by
  obtain ⟨h1, h2, h3, h4, h5, h6⟩ := hd
  exact ⟨World.ownsRow.alloc h1 o, h2, h3, h4, h5.alloc o, h6.alloc o⟩
theorem Drawn.append {B b m L : Nat} {sv v v7 : Value} {w w1 w7 : World} {t ys : List Nd} (hd : Drawn B b m sv L w w1 v t) (hb : b < w.heap.size) (own7 : w7.ownsRow w.heap.size 80 2 v7 (t.length + ys.length) (flat t ++ flat ys)) (grow : w1.grownBy w7 v.ownBlock) (hok : ∀ x ∈ ys, NdOk x) : Drawn B b m sv (L + ys.length) w w7 v7 (t ++ ys) := by
  obtain ⟨h1, h2, h3, h4, h5, h6⟩ := hd
  refine ⟨?_, ?_, by simp; omega, by simp; omega, ?_, ?_⟩
  · unfold OwnNodes
    rw [flat_append, List.length_append]
    exact own7
  · intro x hx
    rcases List.mem_append.1 hx with hx | hx
    · exact h2 x hx
    · exact hok x hx
  · have hs := h5.size
    exact ⟨grow.os.trans h5.os, grow.tape.trans h5.tape, grow.output.trans h5.output, Nat.le_trans h5.size grow.size, fun k hk hks => by
      rw [grow.block k (by omega) (fun e => by have := (World.ownsRow.lt h1 k e.symm).1; omega)]
      exact h5.block k hk hks⟩
  · refine h6.below ⟨grow.os, grow.tape, grow.output, grow.size, fun k hk => grow.block k ?_ (fun e => ?_)⟩
    · have := h6.lies
      omega
    · have := (World.ownsRow.lt h1 k e.symm).1
      omega
theorem Drawn.more {B b m m' L L' : Nat} {sv v : Value} {w w1 : World} {t : List Nd} (hd : Drawn B b m sv L w w1 v t) (hm : m ≤ m') (hL : L ≤ L') : Drawn B b m' sv L' w w1 v t := by
  obtain ⟨h1, h2, h3, h4, h5, h6⟩ := hd
  exact ⟨h1, h2, h3, Nat.le_trans h4 hL, h5, h6.more hm⟩
theorem Drawn.since {B b m L : Nat} {sv v : Value} {w w0 w1 : World} {t : List Nd} (hd : Drawn B b m sv L w0 w1 v t) (ho : Only b w w0) : Drawn B b m sv L w w1 v t := by
  obtain ⟨h1, h2, h3, h4, h5, h6⟩ := hd
  exact ⟨OwnNodes.low h1 ho.size, h2, h3, h4, ho.trans h5, h6⟩
theorem Drawn.cur {B b m L : Nat} {sv v : Value} {w w1 : World} {t : List Nd} (hd : Drawn B b m sv L w w1 v t) : Cur B b m sv w1 := hd.2.2.2.2.2
theorem drawn_one {B b m : Nat} {sv : Value} {w w1 : World} (op n : Int) (h0 : 0 ≤ op) (h1 : op ≤ 1000) (h2 : 0 ≤ n) (h3 : n ≤ 18446744073709551615) (ho : Only b w w1) (hc : Cur B b m sv w1) :
    Drawn B b m sv 1 w (w1.alloc (.cells #[.int .i64 op, .int .u64 n] 80)) (.slice (some ⟨w1.heap.size, 0, none⟩) 1 1) [(op, n)] :=
  ⟨OwnNodes.low (own_one w1 op n) ho.size, one_ok h0 h1 h2 h3, Nat.le_refl _, Nat.le_refl _, ho.alloc _, hc.alloc _⟩
/-- cells of a list of small numbers that is laid ahead of a choice -/
def nums (l : List Int) : Array Value := (l.map (Value.int .i64)).toArray
theorem nums_at {l : List Int} {lo hi : Int} (h : ∀ x ∈ l, lo ≤ x ∧ x ≤ hi) (w : World) : ∀ i : Nat, i < l.length → ∃ x : Int, (w.alloc (.cells (nums l) 3)).cell? ⟨w.heap.size, i, none⟩ = some (.int .i64 x) ∧ lo ≤ x ∧ x ≤ hi := by
  intro i hi'
  refine ⟨l[i], ?_, h _ (List.getElem_mem hi')⟩
  rw [World.cell?_alloc_new]
  simp [nums, hi']
end Go.Proofs.YtpjllhlbdcanlaaDoor
