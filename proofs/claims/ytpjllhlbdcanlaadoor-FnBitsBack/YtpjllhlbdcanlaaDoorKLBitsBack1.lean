/-
  The program's cone: some wires of a circuit marked, and all from which they are made.
  Results whose first part is a struct; the program's moved.
  Frames: nothing but two blocks has turned of what lay there; rows of gates that grow.
  Plain mathematics of circuits that grow: the gates of sums and comparisons, place by place.
  Circuits that grow: one gate laid behind them, by the program and by the model.
  Loops of laid gates: sums and comparisons, of the program and of the model.
  Whether two lists of wires can be reckoned with: goodSides of the program, l4Lists of the model.
  A copy behind which gates can be laid: grown of the program, l4Own of the model.
  Draws of chapter 4: a number among none, wires, bools.
  Lists of words and of nodes that a call owns, between two blocks: the laws' copies and marks of them.
  What DrawBitsOf and DrawStateFrom draw.
  Which wides can be laid out: the program's and the model's word for it.
  Plain mathematics of words out of bits. No program stands in it.
  Plain mathematics of terms that are laid out as gates: what a node lays, what a tree lays, what the pile lays; how many gates, and which wires. No program stands in it.
  One bit of a word, as the program's own shift and mask tell it.
  The program's BitsOf.
  The program's BitsOf, at any arguments.
  Bits and words, there and back. No program stands in it.
  The laws' comparisons of lists of words and of bools where both are the same.
  What an op makes of its parts' values: the program's numberOf, holdsOf and bitOf.
  The program's StateFrom.
  The model's StateFrom.
-/
import Derived.Test.YtpjllhlbdcanlaaDoorConeM
import Derived.Test.YtpjllhlbdcanlaaDoorRun
import Derived.Test.YtpjllhlbdcanlaaDoorIGood4
import Derived.Handy
import Derived.Test.YtpjllhlbdcanlaaDoorPruneM
import Derived.Deep.RegionLaw
import Derived.Test.YtpjllhlbdcanlaaDoorDraw2
import Derived.Test.YtpjllhlbdcanlaaDoorOwn3
import Derived.Test.YtpjllhlbdcanlaaDoorStrong
import Derived.Test.YtpjllhlbdcanlaaDoorU64
import Derived.Test.YtpjllhlbdcanlaaDoorTurn
import Derived.Test.YtpjllhlbdcanlaaDoorDrawS
import Derived.Test.YtpjllhlbdcanlaaDoorWords
import Derived.Test.YtpjllhlbdcanlaaDoorGood
import Derived.Test.YtpjllhlbdcanlaaDoorTree
import Derived.Test.YtpjllhlbdcanlaaDoorPut
import Derived.Test.YtpjllhlbdcanlaaDoorValueOf
import Derived.Test.YtpjllhlbdcanlaaDoorIShape
import Derived.Deep.RegionWith
import Derived.Test.YtpjllhlbdcanlaaDoorVal2
import Derived.Test.YtpjllhlbdcanlaaDoorDo
import Derived.Deep.RegionHeld3
namespace Go.Proofs.YtpjllhlbdcanlaaDoor
open Go Go.RowKit
open M
set_option linter.unusedVariables false

theorem mark_at {w : World} {B g cap n : Nat} {m : List Bool} (h : w.ownsRow B 4 1 (.slice (some ⟨g, 0, none⟩) n cap) n (cellsB m)) (i : Nat) (hi : i < n) :
    (∃ u, w.cell? ⟨g, i, none⟩ = some u) ∧ w.frozen? ⟨g, i, none⟩ = false ∧ (w.setCell ⟨g, i, none⟩ (.bool true)).ownsRow B 4 1 (.slice (some ⟨g, 0, none⟩) n cap) n (cellsB (m.set i true)) := by
  have hl := h.1
  refine ⟨?_, h.frozenAt i, ?_⟩
  · refine ⟨_, (h.cellAt i (by omega)).trans (List.getElem?_eq_getElem (by omega))⟩
  · have st := (h.stored i (.bool true)).1
    unfold cellsB at *
    rw [List.map_set]
    exact st
theorem own_read {w : World} {B g cap n : Nat} {m : List Bool} (h : w.ownsRow B 4 1 (.slice (some ⟨g, 0, none⟩) n cap) n (cellsB m)) (i : Nat) (hi : i < n) : w.cell? ⟨g, i, none⟩ = some (.bool (at' m i)) := by
  have hl : m.length = n := by
    have := h.1
    unfold cellsB at this
    simpa using this
  rw [h.cellAt i (by omega)]
  unfold cellsB at'
  rw [List.getElem?_map, List.getElem?_eq_getElem (by omega), Int.toNat_natCast, List.getD_eq_getElem?_getD, List.getElem?_eq_getElem (by omega)]
  rfl
theorem cell_other {w : World} {g b o : Nat} {p : Nat} {v : Value} (h : b ≠ g) : (w.setCell ⟨g, p, none⟩ v).cell? ⟨b, o, none⟩ = w.cell? ⟨b, o, none⟩ := by
  have e := Below.heap_setCell w ⟨g, p, none⟩ v b (by exact h)
  simp only [World.cell?, e]
theorem takenL_len (g : Gt) : (takenL g).length ≤ 2 := by
  unfold takenL
  split
  · simp
  · split <;> simp
end Go.Proofs.YtpjllhlbdcanlaaDoor

namespace Go.Proofs.YtpjllhlbdcanlaaDoor
open Go Go.RowKit
open M
set_option linter.unusedVariables false

theorem results_c1 {P : Program} {fn : Func} {p u : Tmp} {ty : TypeId} (h : fn.results = #[.cell p ty, .tmp u]) (tmps : Array Value) (w : World) (g : Nat) (t : TypeId) (cs : Array Value) (fr : Nat × Nat) (d : TypeDesc)
    (hp : tmps.getD p undef = .pointer (some ⟨g, 0, none⟩)) (hg : w.heap[g]? = some (.cells cs t fr))
    (hu : P.underlying ty = some d) (hd : (match d with | .struct _ | .array _ _ => true | _ => false) = true) (hi : (P.info? ty).map (·.size) = some cs.size) :
    (results fn tmps).run P w = .ok (.tuple #[.agg cs, tmps.getD u undef]) w := by
  have hp' : tmps[p]?.getD undef = .pointer (some ⟨g, 0, none⟩) := by simpa using hp
  simp [results, h, hp', asAddr, run_loadVar_row w g t ty cs fr d hg hu hd hi]
theorem results_c2 {P : Program} {fn : Func} {p u v : Tmp} {ty : TypeId} (h : fn.results = #[.cell p ty, .tmp u, .tmp v]) (tmps : Array Value) (w : World) (g : Nat) (t : TypeId) (cs : Array Value) (fr : Nat × Nat) (d : TypeDesc)
    (hp : tmps.getD p undef = .pointer (some ⟨g, 0, none⟩)) (hg : w.heap[g]? = some (.cells cs t fr))
    (hu : P.underlying ty = some d) (hd : (match d with | .struct _ | .array _ _ => true | _ => false) = true) (hi : (P.info? ty).map (·.size) = some cs.size) :
    (results fn tmps).run P w = .ok (.tuple #[.agg cs, tmps.getD u undef, tmps.getD v undef]) w := by
  have hp' : tmps[p]?.getD undef = .pointer (some ⟨g, 0, none⟩) := by simpa using hp
  simp [results, h, hp', asAddr, run_loadVar_row w g t ty cs fr d hg hu hd hi]
theorem IntsAt.at {w : World} {v : Value} {t : List Int} (h : IntsAt w v t) {i : Int} (h0 : 0 ≤ i) (h1 : i < t.length) : ∃ g off cap : Nat, v = .slice (some ⟨g, off, none⟩) t.length cap ∧ g < w.heap.size ∧ w.cell? ⟨g, off + i.toNat, none⟩ = some (.int .i64 (atI t i)) := by
  rcases h.2 with ⟨rfl, _⟩ | ⟨g, off, cap, rfl, hlt, hc⟩
  · simp at h1
    omega
  · refine ⟨g, off, cap, rfl, hlt, hc i.toNat _ ?_⟩
    unfold atI
    rw [List.getD_eq_getElem?_getD, List.getElem?_eq_getElem (by omega)]
    rfl
theorem heap2 (w : World) (a b : Obj) : ((w.alloc a).alloc b).heap[w.heap.size + 1]? = some b := by
  have h := heap_alloc_new (w.alloc a) b
  rw [World.size_alloc] at h
  exact h
theorem below2 (w : World) (a b : Obj) : Below w.heap.size w ((w.alloc a).alloc b) := ((Below.refl _ _).alloc (Nat.le_refl _) _).alloc (by simp) _
end Go.Proofs.YtpjllhlbdcanlaaDoor

namespace Go.Proofs.YtpjllhlbdcanlaaDoor
open Go Go.RowKit
open M
set_option linter.unusedVariables false

/-- of what lay there nothing but the blocks P and q has turned -/
structure But2 (P q : Nat) (w w' : World) : Prop where
  os : w'.os = w.os
  tape : w'.tape = w.tape
  output : w'.output = w.output
  size : w.heap.size ≤ w'.heap.size
  block : ∀ i, i < w.heap.size → i ≠ P → i ≠ q → w'.heap[i]? = w.heap[i]?
theorem But2.refl (P q : Nat) (w : World) : But2 P q w w := ⟨rfl, rfl, rfl, Nat.le_refl _, fun _ _ _ _ => rfl⟩
theorem But2.below {P q B : Nat} {u w w' : World} (h : But2 P q u w) (k : Below B w w') (hB : u.heap.size ≤ B) : But2 P q u w' :=
  ⟨k.os.trans h.os, k.tape.trans h.tape, k.output.trans h.output, Nat.le_trans h.size k.size, fun i hi h1 h2 => (k.block i (by omega)).trans (h.block i hi h1 h2)⟩
theorem But2.set {P q b o : Nat} {u w : World} {v : Value} (h : But2 P q u w) (hb : b = P ∨ b = q ∨ u.heap.size ≤ b) : But2 P q u (w.setCell ⟨b, o, none⟩ v) :=
  ⟨h.os, h.tape, h.output, by simpa [World.setCell] using h.size, fun i hi h1 h2 => (Below.heap_setCell _ _ _ _ (by show i ≠ b; omega)).trans (h.block i hi h1 h2)⟩
theorem But2.grown {P q : Nat} {u w w' : World} {row : Option Nat} (h : But2 P q u w) (g : w.grownBy w' row) (hr : ∀ k, row = some k → u.heap.size ≤ k) : But2 P q u w' :=
  ⟨g.os.trans h.os, g.tape.trans h.tape, g.output.trans h.output, Nat.le_trans h.size g.size, fun i hi h1 h2 => (g.block i (Nat.lt_of_lt_of_le hi h.size) (fun e => by have := hr i e.symm; omega)).trans (h.block i hi h1 h2)⟩
theorem But2.alloc {P q : Nat} {u w : World} (h : But2 P q u w) (o : Obj) : But2 P q u (w.alloc o) := h.below ((Below.refl w.heap.size w).alloc (Nat.le_refl _) o) h.size
theorem But2.out {P q B : Nat} {v u w : World} (h : But2 P q u w) (hb : Below B v u) (hP : B ≤ P) (hq : B ≤ q) (hB : B ≤ u.heap.size) : Below B v w :=
  ⟨h.os.trans hb.os, h.tape.trans hb.tape, h.output.trans hb.output, Nat.le_trans hb.size h.size, fun i hi => (h.block i (by omega) (by omega) (by omega)).trans (hb.block i hi)⟩
theorem Box3.but {P q b : Nat} {u w : World} {e : TypeId} {x y z : Value} (h : Box3 u b e x y z) (k : But2 P q u w) (h1 : b ≠ P) (h2 : b ≠ q) : Box3 w b e x y z := ⟨by rw [k.block b h.lt h1 h2]; exact h.heap⟩
/-- a row whose block stays -/
theorem own_keep {w w' : World} {B : Nat} {e : TypeId} {s : Nat} {v : Value} {n : Nat} {xs : List Value} (h : w.ownsRow B e s v n xs) (hb : ∀ g, v.ownBlock = some g → w'.heap[g]? = w.heap[g]?) : w'.ownsRow B e s v n xs := by
  obtain ⟨h1, h2⟩ := h
  refine ⟨h1, ?_⟩
  rcases h2 with h2 | ⟨g, cap, cur, hv, hB, hh, r⟩
  · exact Or.inl h2
  · refine Or.inr ⟨g, cap, cur, hv, hB, ?_, r⟩
    rw [hb g (by rw [hv]; rfl)]
    exact hh
theorem own_set {w : World} {B b o : Nat} {e : TypeId} {s : Nat} {v u : Value} {n : Nat} {xs : List Value} (h : w.ownsRow B e s v n xs) (hb : b < B) : (w.setCell ⟨b, o, none⟩ u).ownsRow B e s v n xs :=
  own_keep h (fun g hg => Below.heap_setCell _ _ _ _ (by show g ≠ b; have := (own_block h hg).1; omega))
theorem own_set' {w : World} {B b o g cap : Nat} {e : TypeId} {s : Nat} {u : Value} {n : Nat} {xs : List Value} (h : w.ownsRow B e s (.slice (some ⟨g, 0, none⟩) n cap) n xs) (hb : b ≠ g) : (w.setCell ⟨b, o, none⟩ u).ownsRow B e s (.slice (some ⟨g, 0, none⟩) n cap) n xs :=
  own_keep h (fun g' hg => Below.heap_setCell _ _ _ _ (by show g' ≠ b; have e : g = g' := Option.some.inj hg; omega))
theorem own_grown {w w' : World} {B g cap : Nat} {e : TypeId} {s : Nat} {n : Nat} {xs : List Value} {row : Option Nat} (h : w.ownsRow B e s (.slice (some ⟨g, 0, none⟩) n cap) n xs) (k : w.grownBy w' row) (hr : row ≠ some g) : w'.ownsRow B e s (.slice (some ⟨g, 0, none⟩) n cap) n xs :=
  own_keep h (fun g' hg => by
    have e : g = g' := Option.some.inj hg
    subst e
    exact k.block g (own_block h rfl).2 (fun e => hr e.symm))
theorem own_but {u w : World} {P q B : Nat} {e : TypeId} {s : Nat} {v : Value} {n : Nat} {xs : List Value} (h : u.ownsRow B e s v n xs) (k : But2 P q u w) (hP : P < B) (hq : q < B) : w.ownsRow B e s v n xs :=
  own_keep h (fun g hg => by
    have := own_block h hg
    exact k.block g this.2 (by omega) (by omega))
/-- one gate in a new block, to be appended -/
theorem oneG_cells (w : World) (k a b : Int) : ∀ (j : Nat) (u : Value), ([.int .i64 k, .int .i64 a, .int .i64 b] : List Value)[j]? = some u → (w.alloc (.cells #[.int .i64 k, .int .i64 a, .int .i64 b] 107)).cell? ((⟨w.heap.size, 0, none⟩ : Addr).add j) = some u := by
  intro j u hu
  match j, hu with
  | 0, hu => simp at hu; subst hu; simp [Addr.add]
  | 1, hu => simp at hu; subst hu; simp [Addr.add]
  | 2, hu => simp at hu; subst hu; simp [Addr.add]
theorem flat3_one : ∀ t : List Gt, ∀ u ∈ flat3 t, u.oneCell' = true
  | [], u, h => by simp [flat3] at h
  | x :: t, u, h => by
    simp only [flat3, List.mem_cons] at h
    rcases h with rfl | rfl | rfl | h
    · rfl
    · rfl
    · rfl
    · exact flat3_one t u h
theorem grow_row {w w' : World} {B n : Nat} {e : TypeId} {s : Nat} {v : Value} {xs : List Value} (ho : w.ownsRow B e s v n xs) : ∀ k, v.ownBlock = some k → B ≤ k := fun k hk => (own_block ho hk).1
/-- append to a row of the call's own, as one step of a region that draws -/
theorem step_append_own {P : Program} {ops : Array Oper} {o : Oper} {a : Act} {w : World} {K : Act → World → Prop} {Q : Exit → Act → World → Prop} {E : Prop} (hgd : o.guard = none) (s x : Operand) (t : TypeId)
    (ho : o.op = .call { callee := .builtin .append, args := #[s, x], argTypes := #[t, t] })
    (base : Nat) (e : TypeId) (i : TypeInfo) (z : Value) (size bytes : Nat) (ht : P.underlying t = some (.slice e)) (hi : P.info? e = some i) (hz : i.zero = some z)
    (hsize : i.size = size) (hby : i.bytes = bytes) (hzs : z.cells.size = size) (hsz : 0 < size)
    (v : Value) (n : Nat) (xs : List Value) (hs : a.eval s = v) (hown : w.ownsRow base e size v n xs)
    (ad : Addr) (m c : Nat) (news : List Value) (hx : a.eval x = .slice (some ad) m c) (hl : news.length = m * size) (hnews : ∀ j u, news[j]? = some u → w.cell? (ad.add j) = some u) (h1 : ∀ u ∈ news, u.oneCell' = true)
    (h63 : n + m ≤ maxLen) (hbytes : (n + m) * bytes ≤ 140737488355328) (hbase : base ≤ w.heap.size)
    (h : ∀ v' w', w'.ownsRow base e size v' (n + m) (xs ++ news) → w.grownBy w' v.ownBlock → K (a.put o.dst v') w') :
    if Region.wanted o (yielded ops a.tmps) = true then Oper.wp P o a w K Q else E := by
  have hw : Region.wanted o (yielded ops a.tmps) = true := by simp [Region.wanted, hgd]
  rw [if_pos hw]
  exact wp_append_own w s x t ho base e i z size bytes ht hi hz hsize hby hzs hsz v n xs hs hown ad m c news hx hl hnews h1 h63 hbytes hbase (fun v' w' h2 h3 _ => h v' w' h2 h3)
/-- a row of numbers of which one is set -/
theorem put_at {w : World} {B g cap n : Nat} {m : List Int} (h : w.ownsRow B 3 1 (.slice (some ⟨g, 0, none⟩) n cap) n (cellsI m)) (i : Nat) (hi : i < n) (v : Int) :
    (∃ u, w.cell? ⟨g, i, none⟩ = some u) ∧ w.frozen? ⟨g, i, none⟩ = false ∧ (w.setCell ⟨g, i, none⟩ (.int .i64 v)).ownsRow B 3 1 (.slice (some ⟨g, 0, none⟩) n cap) n (cellsI (m.set i v)) := by
  have hl := h.1
  refine ⟨?_, h.frozenAt i, ?_⟩
  · refine ⟨_, (h.cellAt i (by omega)).trans (List.getElem?_eq_getElem (by omega))⟩
  · have st := (h.stored i (.int .i64 v)).1
    unfold cellsI at *
    rw [List.map_set]
    exact st
theorem ints_read {w : World} {B g cap n : Nat} {m : List Int} (h : w.ownsRow B 3 1 (.slice (some ⟨g, 0, none⟩) n cap) n (cellsI m)) (i : Nat) (hi : i < n) : w.cell? ⟨g, i, none⟩ = some (.int .i64 (atI m i)) := by
  have hl : m.length = n := by
    have := h.1
    unfold cellsI at this
    simpa using this
  rw [h.cellAt i (by omega)]
  unfold cellsI atI
  rw [List.getElem?_map, List.getElem?_eq_getElem (by omega), Int.toNat_natCast, List.getD_eq_getElem?_getD, List.getElem?_eq_getElem (by omega)]
  rfl
end Go.Proofs.YtpjllhlbdcanlaaDoor

namespace Go.Proofs.YtpjllhlbdcanlaaDoor
open Go
open M
set_option linter.unusedVariables false
set_option linter.unusedSimpArgs false

/-- the wire that carries on, k places behind the first, each of s gates the last of which is d behind its first -/
def onW (c n s d : Int) : Nat → Int
  | 0 => c
  | k + 1 => n + s * k + d
theorem onW_next (c n s d : Int) (k : Nat) : onW (n + d) (n + s) s d k = onW c n s d (k + 1) := by
  cases k with
  | zero => simp [onW]
  | succ k =>
    simp only [onW]
    rw [show ((k + 1 : Nat) : Int) = (k : Int) + 1 from by omega, Int.mul_add]
    omega
theorem addG_snoc : ∀ (xs ys : List Int) (x y c n : Int), xs.length = ys.length → addG (xs ++ [x]) (ys ++ [y]) c n = ((addG xs ys c n).1 ++ addOne x y (onW c n 5 4 xs.length) (n + 5 * xs.length), (addG xs ys c n).2 ++ [n + 5 * xs.length + 1])
  | [], [], x, y, c, n, _ => by simp [addG, onW]
  | x0 :: xs, y0 :: ys, x, y, c, n, h => by
    have ih := addG_snoc xs ys x y (n + 4) (n + 5) (by simpa using h)
    simp only [List.cons_append, addG, ih, List.length_cons]
    rw [onW_next c n 5 4 xs.length]
    have e : n + 5 + 5 * (xs.length : Int) = n + 5 * ((xs.length + 1 : Nat) : Int) := by omega
    rw [e]
    simp only [List.append_assoc]
  | [], _ :: _, _, _, _, _, h => by simp at h
  | _ :: _, [], _, _, _, _, h => by simp at h
theorem lessG_snoc : ∀ (xs ys : List Int) (x y c n : Int), xs.length = ys.length → (lessG (xs ++ [x]) (ys ++ [y]) c n).1 = (lessG xs ys c n).1 ++ lessOne x y (onW c n 6 5 xs.length) (n + 6 * xs.length)
  | [], [], x, y, c, n, _ => by simp [lessG, onW]
  | x0 :: xs, y0 :: ys, x, y, c, n, h => by
    have ih := lessG_snoc xs ys x y (n + 5) (n + 6) (by simpa using h)
    simp only [List.cons_append, lessG, ih, List.length_cons]
    rw [onW_next c n 6 5 xs.length]
    have e : n + 6 + 6 * (xs.length : Int) = n + 6 * ((xs.length + 1 : Nat) : Int) := by omega
    rw [e]
    simp only [List.append_assoc]
  | [], _ :: _, _, _, _, _, h => by simp at h
  | _ :: _, [], _, _, _, _, h => by simp at h
theorem eqG_snoc : ∀ (xs ys : List Int) (x y c n : Int), xs.length = ys.length → (eqG (xs ++ [x]) (ys ++ [y]) c n).1 = (eqG xs ys c n).1 ++ eqOne x y (onW c n 3 2 xs.length) (n + 3 * xs.length)
  | [], [], x, y, c, n, _ => by simp [eqG, onW]
  | x0 :: xs, y0 :: ys, x, y, c, n, h => by
    have ih := eqG_snoc xs ys x y (n + 2) (n + 3) (by simpa using h)
    simp only [List.cons_append, eqG, ih, List.length_cons]
    rw [onW_next c n 3 2 xs.length]
    have e : n + 3 + 3 * (xs.length : Int) = n + 3 * ((xs.length + 1 : Nat) : Int) := by omega
    rw [e]
    simp only [List.append_assoc]
  | [], _ :: _, _, _, _, _, h => by simp at h
  | _ :: _, [], _, _, _, _, h => by simp at h
theorem lessG_wire : ∀ (xs ys : List Int) (c n : Int), xs.length = ys.length → (lessG xs ys c n).2 = onW c n 6 5 xs.length
  | [], [], c, n, _ => rfl
  | x0 :: xs, y0 :: ys, c, n, h => by
    simp only [lessG, List.length_cons]
    rw [lessG_wire xs ys (n + 5) (n + 6) (by simpa using h), onW_next]
  | [], _ :: _, _, _, h => by simp at h
  | _ :: _, [], _, _, h => by simp at h
theorem eqG_wire : ∀ (xs ys : List Int) (c n : Int), xs.length = ys.length → (eqG xs ys c n).2 = onW c n 3 2 xs.length
  | [], [], c, n, _ => rfl
  | x0 :: xs, y0 :: ys, c, n, h => by
    simp only [eqG, List.length_cons]
    rw [eqG_wire xs ys (n + 2) (n + 3) (by simpa using h), onW_next]
  | [], _ :: _, _, _, h => by simp at h
  | _ :: _, [], _, _, h => by simp at h
theorem addG_len : ∀ (xs ys : List Int) (c n : Int), xs.length = ys.length → (addG xs ys c n).1.length = 5 * xs.length ∧ (addG xs ys c n).2.length = xs.length
  | [], [], c, n, _ => ⟨rfl, rfl⟩
  | x0 :: xs, y0 :: ys, c, n, h => by
    have := addG_len xs ys (n + 4) (n + 5) (by simpa using h)
    simp only [addG, addOne, List.length_append, List.length_cons, List.length_nil]
    omega
  | [], _ :: _, _, _, h => by simp at h
  | _ :: _, [], _, _, h => by simp at h
theorem lessG_len : ∀ (xs ys : List Int) (c n : Int), xs.length = ys.length → (lessG xs ys c n).1.length = 6 * xs.length
  | [], [], c, n, _ => rfl
  | x0 :: xs, y0 :: ys, c, n, h => by
    have := lessG_len xs ys (n + 5) (n + 6) (by simpa using h)
    simp only [lessG, lessOne, List.length_append, List.length_cons, List.length_nil]
    omega
  | [], _ :: _, _, _, h => by simp at h
  | _ :: _, [], _, _, h => by simp at h
theorem eqG_len : ∀ (xs ys : List Int) (c n : Int), xs.length = ys.length → (eqG xs ys c n).1.length = 3 * xs.length
  | [], [], c, n, _ => rfl
  | x0 :: xs, y0 :: ys, c, n, h => by
    have := eqG_len xs ys (n + 2) (n + 3) (by simpa using h)
    simp only [eqG, eqOne, List.length_append, List.length_cons, List.length_nil]
    omega
  | [], _ :: _, _, _, h => by simp at h
  | _ :: _, [], _, _, h => by simp at h
/-- gates whose numbers are small -/
def smG (m : Int) (g : Gt) : Prop := (0 ≤ g.1 ∧ g.1 ≤ 5) ∧ (0 ≤ g.2.1 ∧ g.2.1 ≤ m) ∧ (0 ≤ g.2.2 ∧ g.2.2 ≤ m)
theorem smG_ok {m : Int} {g : Gt} (h : smG m g) (hm : m ≤ 100000) : GtOk g := by
  unfold smG at h
  unfold GtOk Fit
  omega
theorem gateB_sm {own : Int} {g : Gt} (h : gateB own g = true) {m : Int} (hm : own ≤ m) (h1 : 1 ≤ m) : smG m g := by
  unfold smG
  rcases gateB_kind h with ⟨h1, _⟩ | ⟨h1, h2, _⟩ | ⟨h1, h2, h3⟩ <;> omega
theorem addG_sm (m : Int) : ∀ (xs ys : List Int) (c n : Int), (∀ x ∈ xs, 0 ≤ x ∧ x ≤ m) → (∀ x ∈ ys, 0 ≤ x ∧ x ≤ m) → 0 ≤ c → c ≤ m → 0 ≤ n → n + 5 * xs.length ≤ m → ∀ g ∈ (addG xs ys c n).1, smG m g
  | [], ys, c, n, _, _, _, _, _, _, g, hg => by simp [addG] at hg
  | _ :: _, [], c, n, _, _, _, _, _, _, g, hg => by simp [addG] at hg
  | x :: xs, y :: ys, c, n, hx, hy, hc0, hc, hn, hm, g, hg => by
    have h1 := hx x (by simp)
    have h2 := hy y (by simp)
    simp only [List.length_cons] at hm
    simp only [addG, addOne, List.mem_append, List.mem_cons, List.not_mem_nil, or_false] at hg
    rcases hg with (rfl | rfl | rfl | rfl | rfl) | hg
    · unfold smG; simp only; omega
    · unfold smG; simp only; omega
    · unfold smG; simp only; omega
    · unfold smG; simp only; omega
    · unfold smG; simp only; omega
    · exact addG_sm m xs ys (n + 4) (n + 5) (fun z hz => hx z (by simp [hz])) (fun z hz => hy z (by simp [hz])) (by omega) (by omega) (by omega) (by omega) g hg
theorem lessG_sm (m : Int) : ∀ (xs ys : List Int) (c n : Int), (∀ x ∈ xs, 0 ≤ x ∧ x ≤ m) → (∀ x ∈ ys, 0 ≤ x ∧ x ≤ m) → 0 ≤ c → c ≤ m → 0 ≤ n → n + 6 * xs.length ≤ m → ∀ g ∈ (lessG xs ys c n).1, smG m g
  | [], ys, c, n, _, _, _, _, _, _, g, hg => by simp [lessG] at hg
  | _ :: _, [], c, n, _, _, _, _, _, _, g, hg => by simp [lessG] at hg
  | x :: xs, y :: ys, c, n, hx, hy, hc0, hc, hn, hm, g, hg => by
    have h1 := hx x (by simp)
    have h2 := hy y (by simp)
    simp only [List.length_cons] at hm
    simp only [lessG, lessOne, List.mem_append, List.mem_cons, List.not_mem_nil, or_false] at hg
    rcases hg with (rfl | rfl | rfl | rfl | rfl | rfl) | hg
    · unfold smG; simp only; omega
    · unfold smG; simp only; omega
    · unfold smG; simp only; omega
    · unfold smG; simp only; omega
    · unfold smG; simp only; omega
    · unfold smG; simp only; omega
    · exact lessG_sm m xs ys (n + 5) (n + 6) (fun z hz => hx z (by simp [hz])) (fun z hz => hy z (by simp [hz])) (by omega) (by omega) (by omega) (by omega) g hg
theorem eqG_sm (m : Int) : ∀ (xs ys : List Int) (c n : Int), (∀ x ∈ xs, 0 ≤ x ∧ x ≤ m) → (∀ x ∈ ys, 0 ≤ x ∧ x ≤ m) → 0 ≤ c → c ≤ m → 0 ≤ n → n + 3 * xs.length ≤ m → ∀ g ∈ (eqG xs ys c n).1, smG m g
  | [], ys, c, n, _, _, _, _, _, _, g, hg => by simp [eqG] at hg
  | _ :: _, [], c, n, _, _, _, _, _, _, g, hg => by simp [eqG] at hg
  | x :: xs, y :: ys, c, n, hx, hy, hc0, hc, hn, hm, g, hg => by
    have h1 := hx x (by simp)
    have h2 := hy y (by simp)
    simp only [List.length_cons] at hm
    simp only [eqG, eqOne, List.mem_append, List.mem_cons, List.not_mem_nil, or_false] at hg
    rcases hg with (rfl | rfl | rfl) | hg
    · unfold smG; simp only; omega
    · unfold smG; simp only; omega
    · unfold smG; simp only; omega
    · exact eqG_sm m xs ys (n + 2) (n + 3) (fun z hz => hx z (by simp [hz])) (fun z hz => hy z (by simp [hz])) (by omega) (by omega) (by omega) (by omega) g hg
end Go.Proofs.YtpjllhlbdcanlaaDoor

namespace Go.Proofs.YtpjllhlbdcanlaaDoor
open Go Go.RowKit
open M
set_option linter.unusedVariables false
set_option linter.unusedSimpArgs false

/-- blocks of cells of type t stay as they are -/
structure KeepT (t : TypeId) (w w' : World) : Prop where
  block : ∀ (i : Nat) (cs : Array Value) (fr : Nat × Nat), w.heap[i]? = some (.cells cs t fr) → w'.heap[i]? = some (.cells cs t fr)
theorem KeepT.refl (t : TypeId) (w : World) : KeepT t w w := ⟨fun _ _ _ h => h⟩
theorem KeepT.trans {t : TypeId} {u v w : World} (h : KeepT t u v) (k : KeepT t v w) : KeepT t u w := ⟨fun i cs fr e => k.block i cs fr (h.block i cs fr e)⟩
theorem heap_lt {w : World} {i : Nat} {o : Obj} (h : w.heap[i]? = some o) : i < w.heap.size := by
  by_cases hb : i < w.heap.size
  · exact hb
  · rw [Array.getElem?_eq_none (by omega)] at h
    cases h
theorem KeepT.below {t : TypeId} {w w' : World} (h : Below w.heap.size w w') : KeepT t w w' := ⟨fun i cs fr e => by rw [h.block i (heap_lt e)]; exact e⟩
theorem KeepT.alloc (t : TypeId) (w : World) (o : Obj) : KeepT t w (w.alloc o) := KeepT.below ((Below.refl _ _).alloc (Nat.le_refl _) o)
theorem KeepT.set {t : TypeId} {w : World} {b o : Nat} {e : TypeId} {x y z v : Value} (h : Box3 w b e x y z) (he : e ≠ t) : KeepT t w (w.setCell ⟨b, o, none⟩ v) := ⟨fun i cs fr hi => by
  rw [Below.heap_setCell _ _ _ _ (show i ≠ b from fun e1 => by
    rw [e1, h.heap] at hi
    simp only [Option.some.injEq] at hi
    injection hi with _ h8
    exact he h8)]
  exact hi⟩
theorem KeepT.grown {t : TypeId} {w w' : World} {B n : Nat} {e : TypeId} {s : Nat} {v : Value} {xs : List Value} (h : w.ownsRow B e s v n xs) (k : w.grownBy w' v.ownBlock) (he : e ≠ t) : KeepT t w w' := ⟨fun i cs fr hi => by
  rw [k.block i (heap_lt hi) (fun e1 => by
    rcases h.2 with ⟨hv, _⟩ | ⟨g, cap, cur, hv, _, hh, _⟩
    · rw [hv] at e1
      cases e1
    · rw [hv] at e1
      have e2 : i = g := Option.some.inj e1
      rw [e2, hh] at hi
      simp only [Option.some.injEq] at hi
      injection hi with _ h8
      exact he h8)]
  exact hi⟩
theorem own_keepT {t : TypeId} {w w' : World} {B n : Nat} {s : Nat} {v : Value} {xs : List Value} (h : w.ownsRow B t s v n xs) (k : KeepT t w w') : w'.ownsRow B t s v n xs := by
  obtain ⟨h1, h2⟩ := h
  refine ⟨h1, ?_⟩
  rcases h2 with h2 | ⟨g, cap, cur, hv, hB, hh, r⟩
  · exact Or.inl h2
  · exact Or.inr ⟨g, cap, cur, hv, hB, k.block g _ _ hh, r⟩
theorem own_not {w : World} {B n b : Nat} {t e : TypeId} {s : Nat} {v x y z : Value} {xs : List Value} (h : w.ownsRow B t s v n xs) (k : Box3 w b e x y z) (he : e ≠ t) : v.ownBlock ≠ some b := by
  intro e1
  rcases h.2 with ⟨hv, _⟩ | ⟨g, cap, cur, hv, _, hh, _⟩
  · rw [hv] at e1
    cases e1
  · rw [hv] at e1
    have e2 : g = b := Option.some.inj e1
    rw [e2, k.heap] at hh
    simp only [Option.some.injEq] at hh
    injection hh with _ h8
    exact he h8
/-- a circuit that is being built, at block b, its rows from lo on, its outs below hi -/
def Bld (w : World) (lo hi b : Nat) (e : TypeId) (c : Ci) : Prop := lo ≤ b ∧ ∃ gsl osl, Box3 w b e (.int .i64 c.1) gsl osl ∧ w.ownsRow lo 107 3 gsl c.2.1.length (flat3 c.2.1) ∧ w.ownsRow lo 3 1 osl c.2.2.length (cellsI c.2.2) ∧ ∀ k, osl.ownBlock = some k → k < hi
theorem Bld.drew {w : World} {lo hi b : Nat} {e : TypeId} {c : Ci} (h : Bld w lo hi b e c) : Bld w.drew lo hi b e c := by
  obtain ⟨h0, gsl, osl, h1, h2, h3, h4⟩ := h
  exact ⟨h0, gsl, osl, ⟨h1.heap⟩, h2, h3, h4⟩
theorem KeepT.drew {t : TypeId} {u w : World} (h : KeepT t u w) : KeepT t u w.drew := ⟨h.block⟩
theorem Bld.size {w : World} {lo hi b : Nat} {e : TypeId} {c : Ci} (h : Bld w lo hi b e c) : lo ≤ w.heap.size := by
  obtain ⟨h0, _, _, h1, _⟩ := h
  have := h1.lt
  omega
/-- a list of numbers that has grown leaves what is being built -/
theorem Bld.sum {w w' : World} {lo hi b B n : Nat} {e : TypeId} {c : Ci} {v : Value} {xs : List Value} (h : Bld w lo hi b e c) (ho : w.ownsRow B 3 1 v n xs) (hB : hi ≤ B) (he : e ≠ 3) (g : w.grownBy w' v.ownBlock) : Bld w' lo hi b e c := by
  obtain ⟨h0, gsl, osl, h1, h2, h3, h4⟩ := h
  refine ⟨h0, gsl, osl, h1.grown g (own_not ho h1 he), own_keepT h2 (KeepT.grown ho g (by decide)), own_keep h3 (fun k hk => g.block k (own_block h3 hk).2 (fun e1 => ?_)), h4⟩
  have i1 := h4 k hk
  have i2 := (own_block ho e1.symm).1
  omega
/-- what a gate that is laid does to what is being built -/
theorem bld_grown {w w8 : World} {lo hi b : Nat} {e : TypeId} {c : Ci} {gsl osl v8 : Value} {k x y : Int} (heg : e ≠ 107) (hei : e ≠ 3) (hlo : lo ≤ b) (hx : Box3 w b e (.int .i64 c.1) gsl osl) (hg : w.ownsRow lo 107 3 gsl c.2.1.length (flat3 c.2.1)) (ho : w.ownsRow lo 3 1 osl c.2.2.length (cellsI c.2.2)) (hos : ∀ k, osl.ownBlock = some k → k < hi)
    (own8 : w8.ownsRow lo 107 3 v8 (c.2.1.length + 1) (flat3 c.2.1 ++ [.int .i64 k, .int .i64 x, .int .i64 y])) (grow8 : (w.alloc (.cells #[.int .i64 k, .int .i64 x, .int .i64 y] 107)).grownBy w8 gsl.ownBlock) :
    Box3 w8 b e (.int .i64 c.1) gsl osl ∧ Bld (w8.setCell ⟨b, 1, none⟩ v8) lo hi b e (c.1, c.2.1 ++ [(k, x, y)], c.2.2) ∧ Below lo w (w8.setCell ⟨b, 1, none⟩ v8) ∧ KeepT 3 w (w8.setCell ⟨b, 1, none⟩ v8) := by
  have hxa := hx.alloc (.cells #[.int .i64 k, .int .i64 x, .int .i64 y] 107)
  have hga := hg.alloc (.cells #[.int .i64 k, .int .i64 x, .int .i64 y] 107)
  have hoa := ho.alloc (.cells #[.int .i64 k, .int .i64 x, .int .i64 y] 107)
  have hx8 := hxa.grown grow8 (own_not hga hxa heg)
  have ho8 : w8.ownsRow lo 3 1 osl c.2.2.length (cellsI c.2.2) := own_keepT hoa (KeepT.grown hga grow8 (by decide))
  have hlt := hx.lt
  have hb : Below lo w (w.alloc (.cells #[.int .i64 k, .int .i64 x, .int .i64 y] 107)) := (Below.refl _ _).alloc (by omega) _
  have hb8 : Below lo w w8 := hb.grown grow8 (by simp; omega) (fun kk hk => (own_block hga hk).1)
  refine ⟨hx8, ⟨hlo, v8, osl, hx8.set1 v8, ?_, ?_, hos⟩, hb8.setCell hlo _, ?_⟩
  · have h1 := own_keep (w' := w8.setCell ⟨b, 1, none⟩ v8) own8 (fun g hg' => Below.heap_setCell _ _ _ _ (by show g ≠ b; intro e1; exact own_not own8 hx8 heg (e1 ▸ hg')))
    rw [List.length_append, flat3_append]
    exact h1
  · exact own_keepT ho8 (KeepT.set hx8 hei)
  · exact ((KeepT.alloc _ _ _).trans (KeepT.grown hga grow8 (by decide))).trans (KeepT.set hx8 hei)
set_option maxRecDepth 100000 in
set_option maxHeartbeats 4000000 in
theorem lay_any (lo hi b : Nat) (c : Ci) (k x y : Int) (hI0 : 0 ≤ c.1) (hI1 : c.1 ≤ 16) (hn : c.2.1.length ≤ 1000) (w : World) (h : Bld w lo hi b 41 c) :
    Calls Tryd.prog 117 #[.pointer (some ⟨b, 0, none⟩), .int .i64 k, .int .i64 x, .int .i64 y] w fun e w' => e = .returned (.int .i64 (c.1 + c.2.1.length)) ∧ Bld w' lo hi b 41 (c.1, c.2.1 ++ [(k, x, y)], c.2.2) ∧ Below lo w w' ∧ KeepT 3 w w' := by
  obtain ⟨hlo, gsl, osl, hx, hg, ho, hob⟩ := h
  obtain ⟨i0, hif, hz0, hz1, hz2⟩ := info_parts infoGate
  obtain ⟨ga, gcap, hgs⟩ := own_shape hg
  obtain ⟨oa, ocap, hos⟩ := own_shape ho
  subst hgs hos
  obtain ⟨ins, gs, os⟩ := c
  simp only at *
  have hlt := hx.lt
  obtain ⟨c0, c1, c2⟩ := hx.cells
  have hh := hx.heap
  have hE := fun v8 w8 => bld_grown (k := k) (x := x) (y := y) (c := (ins, gs, os)) (v8 := v8) (w8 := w8) (e := 41) (by decide) (by decide) hlo hx hg ho hob
  have HE : Hid _ := hE
  have hga := hg.alloc (.cells #[.int .i64 k, .int .i64 x, .int .i64 y] 107)
  have hsa : lo ≤ (w.alloc (.cells #[.int .i64 k, .int .i64 x, .int .i64 y] 107)).heap.size := by rw [World.size_alloc]; omega
  clear hE hx hg ho hob
  go_enter Tryd.func117, Tryd.ntmps117
  go_wp2_with (at_builtin; refine wpList_append_own _ rfl _ _ 38 rfl lo 107 i0 (.agg #[.int .i64 0, .int .i64 0, .int .i64 0]) 3 24 Tryd.underlying38 hif hz0 hz1 hz2 rfl (by decide) _ _ _ rfl hga ⟨w.heap.size, 0, none⟩ 1 1 [.int .i64 k, .int .i64 x, .int .i64 y] rfl rfl (oneG_cells w k x y) (flat3_one [(k, x, y)]) (by unfold maxLen; omega) (by omega) hsa ?_)
  intro v8 w8 own8 grow8 _
  obtain ⟨hx8, hB, hBl, hK⟩ := HE.out v8 w8 own8 grow8
  obtain ⟨va, vcap, hv8⟩ := own_shape own8
  subst hv8
  clear c0 c1 c2 hh hlt
  have hlt := hx8.lt
  obtain ⟨c0, c1, c2⟩ := hx8.cells
  have hh := hx8.heap
  have hf1 := hx8.frozen 1
  have y8 := hx8.set1 (.slice va (gs.length + 1) vcap)
  have hlt9 := y8.lt
  obtain ⟨d0, d1, d2⟩ := y8.cells
  have hh9 := y8.heap
  have g2 := size_raw ins va (gs.length + 1) vcap (.slice oa os.length ocap) (by omega) (by omega) (by omega) (w8.setCell ⟨b, 1, none⟩ (.slice va (gs.length + 1) vcap))
  obtain ⟨V, hV⟩ : ∃ V : Int, ins + ((gs.length + 1 : Nat) : Int) = V := ⟨_, rfl⟩
  rw [hV] at g2
  have hV0 : 0 ≤ V := by omega
  have hV1 : V ≤ 10000 := by omega
  have HV2 : Hid (V - 1 = ins + gs.length) := by
    show V - 1 = ins + gs.length
    omega
  have HB : Hid _ := hB
  have HBl : Hid _ := hBl
  have HK : Hid _ := hK
  clear hB hBl hK own8 grow8 hga hx8 y8 HE hV
  go_wp2_with fail
  refine g2.mono ?_
  rintro e w9 ⟨rfl, hw9⟩
  have HB9 : Hid (Bld w9 lo hi b 41 (ins, gs ++ [(k, x, y)], os)) := by
    obtain ⟨h0, gsl, osl, h1, h2, h3, h4⟩ := HB.out
    show Bld w9 lo hi b 41 (ins, gs ++ [(k, x, y)], os)
    rw [hw9]
    exact ⟨h0, gsl, osl, h1.alloc _, h2.alloc _, h3.alloc _, h4⟩
  have HBl9 : Hid (Below lo w w9) := by
    show Below lo w w9
    rw [hw9]
    exact HBl.out.alloc (by have := HBl.out.size; have := hlt9; omega) _
  have HK9 : Hid (KeepT 3 w w9) := by
    show KeepT 3 w w9
    rw [hw9]
    exact HK.out.trans (KeepT.alloc _ _ _)
  clear g2 hw9 HB HBl HK
  go_wp2_with fail
  go_ret
  exact ⟨ret_int HV2.out, HB9.out, HBl9.out, HK9.out⟩
set_option maxRecDepth 100000 in
set_option maxHeartbeats 4000000 in
theorem gate_any (lo hi b : Nat) (c : Ci) (k x y : Int) (hI0 : 0 ≤ c.1) (hI1 : c.1 ≤ 16) (hn : c.2.1.length ≤ 1000) (w : World) (h : Bld w lo hi b 99 c) :
    Calls Tryd.prog 95 #[.pointer (some ⟨b, 0, none⟩), .int .i64 k, .int .i64 x, .int .i64 y] w fun e w' => e = .returned (.int .i64 (c.1 + c.2.1.length)) ∧ Bld w' lo hi b 99 (c.1, c.2.1 ++ [(k, x, y)], c.2.2) ∧ Below lo w w' ∧ KeepT 3 w w' := by
  obtain ⟨hlo, gsl, osl, hx, hg, ho, hob⟩ := h
  obtain ⟨i0, hif, hz0, hz1, hz2⟩ := info_parts infoGate
  obtain ⟨ga, gcap, hgs⟩ := own_shape hg
  obtain ⟨oa, ocap, hos⟩ := own_shape ho
  subst hgs hos
  obtain ⟨ins, gs, os⟩ := c
  simp only at *
  have hlt := hx.lt
  obtain ⟨c0, c1, c2⟩ := hx.cells
  have hh := hx.heap
  have hE := fun v8 w8 => bld_grown (k := k) (x := x) (y := y) (c := (ins, gs, os)) (v8 := v8) (w8 := w8) (e := 99) (by decide) (by decide) hlo hx hg ho hob
  have HE : Hid _ := hE
  have hga := hg.alloc (.cells #[.int .i64 k, .int .i64 x, .int .i64 y] 107)
  have hsa : lo ≤ (w.alloc (.cells #[.int .i64 k, .int .i64 x, .int .i64 y] 107)).heap.size := by rw [World.size_alloc]; omega
  clear hE hx hg ho hob
  go_enter Tryd.func95, Tryd.ntmps95
  go_wp2_with (at_builtin; refine wpList_append_own _ rfl _ _ 38 rfl lo 107 i0 (.agg #[.int .i64 0, .int .i64 0, .int .i64 0]) 3 24 Tryd.underlying38 hif hz0 hz1 hz2 rfl (by decide) _ _ _ rfl hga ⟨w.heap.size, 0, none⟩ 1 1 [.int .i64 k, .int .i64 x, .int .i64 y] rfl rfl (oneG_cells w k x y) (flat3_one [(k, x, y)]) (by unfold maxLen; omega) (by omega) hsa ?_)
  intro v8 w8 own8 grow8 _
  obtain ⟨hx8, hB, hBl, hK⟩ := HE.out v8 w8 own8 grow8
  obtain ⟨va, vcap, hv8⟩ := own_shape own8
  subst hv8
  clear c0 c1 c2 hh hlt
  have hlt := hx8.lt
  obtain ⟨c0, c1, c2⟩ := hx8.cells
  have hh := hx8.heap
  have hf1 := hx8.frozen 1
  have y8 := hx8.set1 (.slice va (gs.length + 1) vcap)
  have hlt9 := y8.lt
  obtain ⟨d0, d1, d2⟩ := y8.cells
  have hh9 := y8.heap
  have g2 := l4Wires_raw ins va (gs.length + 1) vcap (.slice oa os.length ocap) (by omega) (by omega) (by omega) (w8.setCell ⟨b, 1, none⟩ (.slice va (gs.length + 1) vcap))
  obtain ⟨V, hV⟩ : ∃ V : Int, ins + ((gs.length + 1 : Nat) : Int) = V := ⟨_, rfl⟩
  rw [hV] at g2
  have hV0 : 0 ≤ V := by omega
  have hV1 : V ≤ 10000 := by omega
  have HV2 : Hid (V - 1 = ins + gs.length) := by
    show V - 1 = ins + gs.length
    omega
  have HB : Hid _ := hB
  have HBl : Hid _ := hBl
  have HK : Hid _ := hK
  clear hB hBl hK own8 grow8 hga hx8 y8 HE hV
  go_wp2_with fail
  refine g2.mono ?_
  rintro e w9 ⟨rfl, hw9⟩
  have HB9 : Hid (Bld w9 lo hi b 99 (ins, gs ++ [(k, x, y)], os)) := by
    obtain ⟨h0, gsl, osl, h1, h2, h3, h4⟩ := HB.out
    show Bld w9 lo hi b 99 (ins, gs ++ [(k, x, y)], os)
    rw [hw9]
    exact ⟨h0, gsl, osl, h1.alloc _, h2.alloc _, h3.alloc _, h4⟩
  have HBl9 : Hid (Below lo w w9) := by
    show Below lo w w9
    rw [hw9]
    exact HBl.out.alloc (by have := HBl.out.size; have := hlt9; omega) _
  have HK9 : Hid (KeepT 3 w w9) := by
    show KeepT 3 w w9
    rw [hw9]
    exact HK.out.trans (KeepT.alloc _ _ _)
  clear g2 hw9 HB HBl HK
  go_wp2_with fail
  go_ret
  exact ⟨ret_int HV2.out, HB9.out, HBl9.out, HK9.out⟩
end Go.Proofs.YtpjllhlbdcanlaaDoor

namespace Go.Proofs.YtpjllhlbdcanlaaDoor
open Go Go.RowKit
open M
set_option linter.unusedVariables false
set_option linter.unusedSimpArgs false

theorem lay_at (lo hi b : Nat) (ins : Int) (G : List Gt) (os : List Int) (S k x y : Int) (hS : ins + G.length = S) (hI0 : 0 ≤ ins) (hI1 : ins ≤ 16) (hn : G.length ≤ 1000) (w : World) (h : Bld w lo hi b 41 (ins, G, os)) :
    Calls Tryd.prog 117 #[.pointer (some ⟨b, 0, none⟩), .int .i64 k, .int .i64 x, .int .i64 y] w fun e w' => e = .returned (.int .i64 S) ∧ Bld w' lo hi b 41 (ins, G ++ [(k, x, y)], os) ∧ Below lo w w' ∧ KeepT 3 w w' := by
  have g := lay_any lo hi b (ins, G, os) k x y hI0 hI1 hn w h
  simp only at g
  rw [hS] at g
  exact g
theorem gate_at (lo hi b : Nat) (ins : Int) (G : List Gt) (os : List Int) (S k x y : Int) (hS : ins + G.length = S) (hI0 : 0 ≤ ins) (hI1 : ins ≤ 16) (hn : G.length ≤ 1000) (w : World) (h : Bld w lo hi b 99 (ins, G, os)) :
    Calls Tryd.prog 95 #[.pointer (some ⟨b, 0, none⟩), .int .i64 k, .int .i64 x, .int .i64 y] w fun e w' => e = .returned (.int .i64 S) ∧ Bld w' lo hi b 99 (ins, G ++ [(k, x, y)], os) ∧ Below lo w w' ∧ KeepT 3 w w' := by
  have g := gate_any lo hi b (ins, G, os) k x y hI0 hI1 hn w h
  simp only at g
  rw [hS] at g
  exact g
set_option maxRecDepth 100000 in
set_option maxHeartbeats 8000000 in
theorem iEq_any (lo hi b : Nat) (ins : Int) (gs : List Gt) (os : List Int) (av bv : Value) (a bb : List Int) (N : Int) (hN : ins + gs.length = N) (hI0 : 0 ≤ ins) (hI1 : ins ≤ 16) (hn : gs.length ≤ 300) (hl : a.length = bb.length) (hl16 : a.length ≤ 16) (w : World) (h : Bld w lo hi b 41 (ins, gs, os)) (hhi : hi ≤ w.heap.size)
    (ha : ∀ w', Below lo w w' → IntsAt w' av a) (hb : ∀ w', Below lo w w' → IntsAt w' bv bb) :
    Calls Tryd.prog 110 #[.pointer (some ⟨b, 0, none⟩), av, bv] w fun e w' => e = .returned (.int .i64 (onW N (N + 1) 3 2 a.length)) ∧ Bld w' lo hi b 41 (ins, gs ++ [(1, 1, 0)] ++ (eqG a bb N (N + 1)).1, os) ∧ Below lo w w' := by
  obtain ⟨aa, acap, hav, _⟩ := (ha w (Below.refl _ _)).opened
  obtain ⟨ba, bcap, hbv, _⟩ := (hb w (Below.refl _ _)).opened
  subst hav hbv
  have HA : Hid (∀ w', Below lo w w' → ∀ (i : Nat) (x : Int), a[i]? = some x → ∃ g off : Nat, aa = some ⟨g, off, none⟩ ∧ g < w'.heap.size ∧ w'.cell? ⟨g, off + i, none⟩ = some (.int .i64 x)) := fun w' hw i x hx => by
    obtain ⟨_, _, e, hc⟩ := (ha w' hw).opened
    injection e with e1 e2 e3
    subst e1
    exact hc i x hx
  have HBB : Hid (∀ w', Below lo w w' → ∀ (i : Nat) (x : Int), bb[i]? = some x → ∃ g off : Nat, ba = some ⟨g, off, none⟩ ∧ g < w'.heap.size ∧ w'.cell? ⟨g, off + i, none⟩ = some (.int .i64 x)) := fun w' hw i x hx => by
    obtain ⟨_, _, e, hc⟩ := (hb w' hw).opened
    injection e with e1 e2 e3
    subst e1
    exact hc i x hx
  have hlo := h.size
  have g1 := lay_at lo hi b ins gs os N 1 1 0 hN hI0 hI1 (by omega) w h
  clear ha hb h
  generalize hal : a.length = an at *
  rw [← hl]
  have HAL : Hid (a.length = an) := hal
  have HBL : Hid (bb.length = an) := hl.symm
  clear hal hl
  go_enter Tryd.func110, Tryd.ntmps110
  go_wp2_with fail
  refine g1.mono ?_
  rintro e w1 ⟨rfl, hB1, hb1, _⟩
  have HB1 : Hid _ := hB1
  have Hb1 : Hid _ := hb1
  clear g1 hB1 hb1
  go_wp2_with fail
  go_loopw [7, 15] (fun vn i wr => ∃ j : Nat, j ≤ an ∧ i = .int .i64 j ∧ vn = .int .i64 (onW N (N + 1) 3 2 j) ∧ Hid (Bld wr lo hi b 41 (ins, gs ++ [(1, 1, 0)] ++ (eqG (a.take j) (bb.take j) N (N + 1)).1, os)) ∧ Hid (Below lo w wr)) (fun _ i _ => an - (intOf i).toNat)
  case atStart =>
    refine ⟨0, by omega, rfl, rfl, ?_, Hb1⟩
    show Bld w1 lo hi b 41 (ins, gs ++ [(1, 1, 0)] ++ [], os)
    rw [List.append_nil]
    exact HB1.out
  case round =>
    obtain ⟨j, hj, rfl, rfl, HB, HBl⟩ := hrel
    clear HB1 Hb1
    by_cases hlt : j < an
    · have hal := HAL.out
      have hbl := HBL.out
      obtain ⟨x, hx⟩ : ∃ x, a[j]? = some x := ⟨a[j], List.getElem?_eq_getElem (by omega)⟩
      obtain ⟨y, hy⟩ : ∃ y, bb[j]? = some y := ⟨bb[j], List.getElem?_eq_getElem (by omega)⟩
      have hl1 : (a.take j).length = j := List.length_take_of_le (by omega)
      have hl2 : (bb.take j).length = j := List.length_take_of_le (by omega)
      have hsn := eqG_snoc (a.take j) (bb.take j) x y N (N + 1) (by rw [hl1, hl2])
      have hln := eqG_len (a.take j) (bb.take j) N (N + 1) (by rw [hl1, hl2])
      rw [hl1] at hsn hln
      have hta : a.take (j + 1) = a.take j ++ [x] := by rw [List.take_add_one, hx]; rfl
      have htb : bb.take (j + 1) = bb.take j ++ [y] := by rw [List.take_add_one, hy]; rfl
      rw [← hta, ← htb] at hsn
      obtain ⟨S0, hS⟩ : ∃ S0 : Int, N + 1 + 3 * (j : Int) = S0 := ⟨_, rfl⟩
      rw [hS] at hsn
      obtain ⟨C, hC⟩ : ∃ C : Int, onW N (N + 1) 3 2 j = C := ⟨_, rfl⟩
      rw [hC] at hsn ⊢
      obtain ⟨G, hG⟩ : ∃ G, gs ++ [(1, 1, 0)] ++ (eqG (a.take j) (bb.take j) N (N + 1)).1 = G := ⟨_, rfl⟩
      have hGl : ins + (G.length : Int) = S0 := by
        rw [← hG]
        simp only [List.length_append, hln, List.length_singleton]
        omega
      have hGn : G.length ≤ 900 := by omega
      obtain ⟨S1, hS1⟩ : ∃ S1 : Int, S0 + 1 = S1 := ⟨_, rfl⟩
      obtain ⟨S2, hS2⟩ : ∃ S2 : Int, S0 + 2 = S2 := ⟨_, rfl⟩
      have HNEW : Hid (gs ++ [(1, 1, 0)] ++ (eqG (a.take (j + 1)) (bb.take (j + 1)) N (N + 1)).1 = G ++ [(5, x, y)] ++ [(2, S0, 0)] ++ [(3, S1, C)]) := by
        show gs ++ [(1, 1, 0)] ++ (eqG (a.take (j + 1)) (bb.take (j + 1)) N (N + 1)).1 = _
        rw [hsn, ← hG]
        simp [eqOne, ← hS, ← hS1, ← hS2]
        try omega
      have HON : Hid (onW N (N + 1) 3 2 (j + 1) = S2) := by
        show (N + 1) + 3 * (j : Int) + 2 = S2
        omega
      rw [hG] at HB
      clear hsn hln hta htb hG hC hl1 hl2
      obtain ⟨ag, aoff, rfl, _, _⟩ := HA.out wr HBl.out j x hx
      obtain ⟨bg, boff, rfl, _, _⟩ := HBB.out wr HBl.out j y hy
      have HAC : Hid (∀ w', Below lo w w' → ag < w'.heap.size ∧ w'.cell? ⟨ag, aoff + j, none⟩ = some (.int .i64 x)) := fun w' hw => by
        obtain ⟨g, off, e, h1, h2⟩ := HA.out w' hw j x hx
        injection e with e1
        injection e1 with e2 e3
        subst e2 e3
        exact ⟨h1, h2⟩
      have HBC : Hid (∀ w', Below lo w w' → bg < w'.heap.size ∧ w'.cell? ⟨bg, boff + j, none⟩ = some (.int .i64 y)) := fun w' hw => by
        obtain ⟨g, off, e, h1, h2⟩ := HBB.out w' hw j y hy
        injection e with e1
        injection e1 with e2 e3
        subst e2 e3
        exact ⟨h1, h2⟩
      have hjA : (j : Int) < (an : Int) := by omega
      clear hx hy HA HBB
      obtain ⟨ax0, ac0⟩ := HAC.out _ HBl.out
      obtain ⟨bx0, bc0⟩ := HBC.out _ HBl.out
      go_wp2_with fail
      go_region_with (go_at_call 117; refine (lay_at lo hi b ins (G) os S0 5 x y (by first | omega | (simp only [List.length_append, List.length_singleton]; omega)) hI0 hI1 (by first | omega | (simp only [List.length_append, List.length_singleton]; omega)) _ ?_).mono ?_; (first | exact HB.out | exact HB.out.drew); rintro e w11 ⟨rfl, hB, hbl', hk'⟩; have HBw11 : Hid (Bld w11 lo hi b 41 (ins, G ++ [(5, x, y)], os)) := hB; have HBlw11 : Hid (Below lo w w11) := (by first | exact HBl.out.trans hbl' | exact HBl.out.drew.trans hbl'); clear hB hbl' hk')
      all_goals
        clear HB HBl
        go_wp2_with fail
        refine (lay_at lo hi b ins (G ++ [(5, x, y)]) os S1 2 S0 0 (by first | omega | (simp only [List.length_append, List.length_singleton]; omega)) hI0 hI1 (by first | omega | (simp only [List.length_append, List.length_singleton]; omega)) _ ?_).mono ?_
        · exact HBw11.out
        rintro e w12 ⟨rfl, hB, hbl', hk'⟩
        have HBw12 : Hid (Bld w12 lo hi b 41 (ins, G ++ [(5, x, y)] ++ [(2, S0, 0)], os)) := hB
        have HBlw12 : Hid (Below lo w w12) := HBlw11.out.trans hbl'
        clear hB hbl' hk' HBw11 HBlw11
        go_wp2_with fail
        refine (lay_at lo hi b ins (G ++ [(5, x, y)] ++ [(2, S0, 0)]) os S2 3 S1 C (by first | omega | (simp only [List.length_append, List.length_singleton]; omega)) hI0 hI1 (by first | omega | (simp only [List.length_append, List.length_singleton]; omega)) _ ?_).mono ?_
        · exact HBw12.out
        rintro e w13 ⟨rfl, hB, hbl', hk'⟩
        have HBw13 : Hid (Bld w13 lo hi b 41 (ins, G ++ [(5, x, y)] ++ [(2, S0, 0)] ++ [(3, S1, C)], os)) := hB
        have HBlw13 : Hid (Below lo w w13) := HBlw12.out.trans hbl'
        clear hB hbl' hk' HBw12 HBlw12
        have HBF : Hid (Bld _ lo hi b 41 (ins, gs ++ [(1, 1, 0)] ++ (eqG (a.take (j + 1)) (bb.take (j + 1)) N (N + 1)).1, os)) := (by have h1 := HBw13.out; rw [← HNEW.out] at h1; exact h1)
        clear HNEW HAC HBC HBw13
        go_wp2_with fail
        go_roundw
        case rel => exact ⟨j + 1, by omega, by go_num, by rw [HON.out], HBF, HBlw13⟩
        case measure => simp [intOf]; omega
    · obtain rfl : j = an := by omega
      have ha1 : a.take j = a := List.take_of_length_le (by have := HAL.out; omega)
      have hb1 : bb.take j = bb := List.take_of_length_le (by have := HBL.out; omega)
      rw [ha1, hb1] at HB
      clear HA HBB ha1 hb1
      go_wp2_with fail
      go_ret
      exact ⟨rfl, HB.out, HBl.out⟩
set_option maxRecDepth 100000 in
set_option maxHeartbeats 8000000 in
theorem iLess_any (lo hi b : Nat) (ins : Int) (gs : List Gt) (os : List Int) (av bv : Value) (a bb : List Int) (N : Int) (hN : ins + gs.length = N) (hI0 : 0 ≤ ins) (hI1 : ins ≤ 16) (hn : gs.length ≤ 300) (hl : a.length = bb.length) (hl16 : a.length ≤ 16) (w : World) (h : Bld w lo hi b 41 (ins, gs, os)) (hhi : hi ≤ w.heap.size)
    (ha : ∀ w', Below lo w w' → IntsAt w' av a) (hb : ∀ w', Below lo w w' → IntsAt w' bv bb) :
    Calls Tryd.prog 111 #[.pointer (some ⟨b, 0, none⟩), av, bv] w fun e w' => e = .returned (.int .i64 (onW N (N + 1) 6 5 a.length)) ∧ Bld w' lo hi b 41 (ins, gs ++ [(1, 0, 0)] ++ (lessG a bb N (N + 1)).1, os) ∧ Below lo w w' := by
  obtain ⟨aa, acap, hav, _⟩ := (ha w (Below.refl _ _)).opened
  obtain ⟨ba, bcap, hbv, _⟩ := (hb w (Below.refl _ _)).opened
  subst hav hbv
  have HA : Hid (∀ w', Below lo w w' → ∀ (i : Nat) (x : Int), a[i]? = some x → ∃ g off : Nat, aa = some ⟨g, off, none⟩ ∧ g < w'.heap.size ∧ w'.cell? ⟨g, off + i, none⟩ = some (.int .i64 x)) := fun w' hw i x hx => by
    obtain ⟨_, _, e, hc⟩ := (ha w' hw).opened
    injection e with e1 e2 e3
    subst e1
    exact hc i x hx
  have HBB : Hid (∀ w', Below lo w w' → ∀ (i : Nat) (x : Int), bb[i]? = some x → ∃ g off : Nat, ba = some ⟨g, off, none⟩ ∧ g < w'.heap.size ∧ w'.cell? ⟨g, off + i, none⟩ = some (.int .i64 x)) := fun w' hw i x hx => by
    obtain ⟨_, _, e, hc⟩ := (hb w' hw).opened
    injection e with e1 e2 e3
    subst e1
    exact hc i x hx
  have hlo := h.size
  have g1 := lay_at lo hi b ins gs os N 1 0 0 hN hI0 hI1 (by omega) w h
  clear ha hb h
  generalize hal : a.length = an at *
  rw [← hl]
  have HAL : Hid (a.length = an) := hal
  have HBL : Hid (bb.length = an) := hl.symm
  clear hal hl
  go_enter Tryd.func111, Tryd.ntmps111
  go_wp2_with fail
  refine g1.mono ?_
  rintro e w1 ⟨rfl, hB1, hb1, _⟩
  have HB1 : Hid _ := hB1
  have Hb1 : Hid _ := hb1
  clear g1 hB1 hb1
  go_wp2_with fail
  go_loopw [7, 18] (fun vn i wr => ∃ j : Nat, j ≤ an ∧ i = .int .i64 j ∧ vn = .int .i64 (onW N (N + 1) 6 5 j) ∧ Hid (Bld wr lo hi b 41 (ins, gs ++ [(1, 0, 0)] ++ (lessG (a.take j) (bb.take j) N (N + 1)).1, os)) ∧ Hid (Below lo w wr)) (fun _ i _ => an - (intOf i).toNat)
  case atStart =>
    refine ⟨0, by omega, rfl, rfl, ?_, Hb1⟩
    show Bld w1 lo hi b 41 (ins, gs ++ [(1, 0, 0)] ++ [], os)
    rw [List.append_nil]
    exact HB1.out
  case round =>
    obtain ⟨j, hj, rfl, rfl, HB, HBl⟩ := hrel
    clear HB1 Hb1
    by_cases hlt : j < an
    · have hal := HAL.out
      have hbl := HBL.out
      obtain ⟨x, hx⟩ : ∃ x, a[j]? = some x := ⟨a[j], List.getElem?_eq_getElem (by omega)⟩
      obtain ⟨y, hy⟩ : ∃ y, bb[j]? = some y := ⟨bb[j], List.getElem?_eq_getElem (by omega)⟩
      have hl1 : (a.take j).length = j := List.length_take_of_le (by omega)
      have hl2 : (bb.take j).length = j := List.length_take_of_le (by omega)
      have hsn := lessG_snoc (a.take j) (bb.take j) x y N (N + 1) (by rw [hl1, hl2])
      have hln := lessG_len (a.take j) (bb.take j) N (N + 1) (by rw [hl1, hl2])
      rw [hl1] at hsn hln
      have hta : a.take (j + 1) = a.take j ++ [x] := by rw [List.take_add_one, hx]; rfl
      have htb : bb.take (j + 1) = bb.take j ++ [y] := by rw [List.take_add_one, hy]; rfl
      rw [← hta, ← htb] at hsn
      obtain ⟨S0, hS⟩ : ∃ S0 : Int, N + 1 + 6 * (j : Int) = S0 := ⟨_, rfl⟩
      rw [hS] at hsn
      obtain ⟨C, hC⟩ : ∃ C : Int, onW N (N + 1) 6 5 j = C := ⟨_, rfl⟩
      rw [hC] at hsn ⊢
      obtain ⟨G, hG⟩ : ∃ G, gs ++ [(1, 0, 0)] ++ (lessG (a.take j) (bb.take j) N (N + 1)).1 = G := ⟨_, rfl⟩
      have hGl : ins + (G.length : Int) = S0 := by
        rw [← hG]
        simp only [List.length_append, hln, List.length_singleton]
        omega
      have hGn : G.length ≤ 900 := by omega
      obtain ⟨S1, hS1⟩ : ∃ S1 : Int, S0 + 1 = S1 := ⟨_, rfl⟩
      obtain ⟨S2, hS2⟩ : ∃ S2 : Int, S0 + 2 = S2 := ⟨_, rfl⟩
      obtain ⟨S3, hS3⟩ : ∃ S3 : Int, S0 + 3 = S3 := ⟨_, rfl⟩
      obtain ⟨S4, hS4⟩ : ∃ S4 : Int, S0 + 4 = S4 := ⟨_, rfl⟩
      obtain ⟨S5, hS5⟩ : ∃ S5 : Int, S0 + 5 = S5 := ⟨_, rfl⟩
      have HNEW : Hid (gs ++ [(1, 0, 0)] ++ (lessG (a.take (j + 1)) (bb.take (j + 1)) N (N + 1)).1 = G ++ [(5, x, y)] ++ [(2, S0, 0)] ++ [(3, S1, C)] ++ [(2, x, 0)] ++ [(3, S3, y)] ++ [(4, S2, S4)]) := by
        show gs ++ [(1, 0, 0)] ++ (lessG (a.take (j + 1)) (bb.take (j + 1)) N (N + 1)).1 = _
        rw [hsn, ← hG]
        simp [lessOne, ← hS, ← hS1, ← hS2, ← hS3, ← hS4, ← hS5]
        try omega
      have HON : Hid (onW N (N + 1) 6 5 (j + 1) = S5) := by
        show (N + 1) + 6 * (j : Int) + 5 = S5
        omega
      rw [hG] at HB
      clear hsn hln hta htb hG hC hl1 hl2
      obtain ⟨ag, aoff, rfl, _, _⟩ := HA.out wr HBl.out j x hx
      obtain ⟨bg, boff, rfl, _, _⟩ := HBB.out wr HBl.out j y hy
      have HAC : Hid (∀ w', Below lo w w' → ag < w'.heap.size ∧ w'.cell? ⟨ag, aoff + j, none⟩ = some (.int .i64 x)) := fun w' hw => by
        obtain ⟨g, off, e, h1, h2⟩ := HA.out w' hw j x hx
        injection e with e1
        injection e1 with e2 e3
        subst e2 e3
        exact ⟨h1, h2⟩
      have HBC : Hid (∀ w', Below lo w w' → bg < w'.heap.size ∧ w'.cell? ⟨bg, boff + j, none⟩ = some (.int .i64 y)) := fun w' hw => by
        obtain ⟨g, off, e, h1, h2⟩ := HBB.out w' hw j y hy
        injection e with e1
        injection e1 with e2 e3
        subst e2 e3
        exact ⟨h1, h2⟩
      have hjA : (j : Int) < (an : Int) := by omega
      clear hx hy HA HBB
      obtain ⟨ax0, ac0⟩ := HAC.out _ HBl.out
      obtain ⟨bx0, bc0⟩ := HBC.out _ HBl.out
      go_wp2_with fail
      go_region_with (go_at_call 117; refine (lay_at lo hi b ins (G) os S0 5 x y (by first | omega | (simp only [List.length_append, List.length_singleton]; omega)) hI0 hI1 (by first | omega | (simp only [List.length_append, List.length_singleton]; omega)) _ ?_).mono ?_; (first | exact HB.out | exact HB.out.drew); rintro e w11 ⟨rfl, hB, hbl', hk'⟩; have HBw11 : Hid (Bld w11 lo hi b 41 (ins, G ++ [(5, x, y)], os)) := hB; have HBlw11 : Hid (Below lo w w11) := (by first | exact HBl.out.trans hbl' | exact HBl.out.drew.trans hbl'); clear hB hbl' hk')
      all_goals
        clear HB HBl
        go_wp2_with fail
        refine (lay_at lo hi b ins (G ++ [(5, x, y)]) os S1 2 S0 0 (by first | omega | (simp only [List.length_append, List.length_singleton]; omega)) hI0 hI1 (by first | omega | (simp only [List.length_append, List.length_singleton]; omega)) _ ?_).mono ?_
        · exact HBw11.out
        rintro e w12 ⟨rfl, hB, hbl', hk'⟩
        have HBw12 : Hid (Bld w12 lo hi b 41 (ins, G ++ [(5, x, y)] ++ [(2, S0, 0)], os)) := hB
        have HBlw12 : Hid (Below lo w w12) := HBlw11.out.trans hbl'
        clear hB hbl' hk' HBw11 HBlw11
        go_wp2_with fail
        refine (lay_at lo hi b ins (G ++ [(5, x, y)] ++ [(2, S0, 0)]) os S2 3 S1 C (by first | omega | (simp only [List.length_append, List.length_singleton]; omega)) hI0 hI1 (by first | omega | (simp only [List.length_append, List.length_singleton]; omega)) _ ?_).mono ?_
        · exact HBw12.out
        rintro e w13 ⟨rfl, hB, hbl', hk'⟩
        have HBw13 : Hid (Bld w13 lo hi b 41 (ins, G ++ [(5, x, y)] ++ [(2, S0, 0)] ++ [(3, S1, C)], os)) := hB
        have HBlw13 : Hid (Below lo w w13) := HBlw12.out.trans hbl'
        clear hB hbl' hk' HBw12 HBlw12
        obtain ⟨ax3, ac3⟩ := HAC.out _ HBlw13.out
        go_wp2_with fail
        refine (lay_at lo hi b ins (G ++ [(5, x, y)] ++ [(2, S0, 0)] ++ [(3, S1, C)]) os S3 2 x 0 (by first | omega | (simp only [List.length_append, List.length_singleton]; omega)) hI0 hI1 (by first | omega | (simp only [List.length_append, List.length_singleton]; omega)) _ ?_).mono ?_
        · exact HBw13.out
        rintro e w14 ⟨rfl, hB, hbl', hk'⟩
        have HBw14 : Hid (Bld w14 lo hi b 41 (ins, G ++ [(5, x, y)] ++ [(2, S0, 0)] ++ [(3, S1, C)] ++ [(2, x, 0)], os)) := hB
        have HBlw14 : Hid (Below lo w w14) := HBlw13.out.trans hbl'
        clear hB hbl' hk' HBw13 HBlw13
        obtain ⟨bx4, bc4⟩ := HBC.out _ HBlw14.out
        go_wp2_with fail
        refine (lay_at lo hi b ins (G ++ [(5, x, y)] ++ [(2, S0, 0)] ++ [(3, S1, C)] ++ [(2, x, 0)]) os S4 3 S3 y (by first | omega | (simp only [List.length_append, List.length_singleton]; omega)) hI0 hI1 (by first | omega | (simp only [List.length_append, List.length_singleton]; omega)) _ ?_).mono ?_
        · exact HBw14.out
        rintro e w15 ⟨rfl, hB, hbl', hk'⟩
        have HBw15 : Hid (Bld w15 lo hi b 41 (ins, G ++ [(5, x, y)] ++ [(2, S0, 0)] ++ [(3, S1, C)] ++ [(2, x, 0)] ++ [(3, S3, y)], os)) := hB
        have HBlw15 : Hid (Below lo w w15) := HBlw14.out.trans hbl'
        clear hB hbl' hk' HBw14 HBlw14
        go_wp2_with fail
        refine (lay_at lo hi b ins (G ++ [(5, x, y)] ++ [(2, S0, 0)] ++ [(3, S1, C)] ++ [(2, x, 0)] ++ [(3, S3, y)]) os S5 4 S2 S4 (by first | omega | (simp only [List.length_append, List.length_singleton]; omega)) hI0 hI1 (by first | omega | (simp only [List.length_append, List.length_singleton]; omega)) _ ?_).mono ?_
        · exact HBw15.out
        rintro e w16 ⟨rfl, hB, hbl', hk'⟩
        have HBw16 : Hid (Bld w16 lo hi b 41 (ins, G ++ [(5, x, y)] ++ [(2, S0, 0)] ++ [(3, S1, C)] ++ [(2, x, 0)] ++ [(3, S3, y)] ++ [(4, S2, S4)], os)) := hB
        have HBlw16 : Hid (Below lo w w16) := HBlw15.out.trans hbl'
        clear hB hbl' hk' HBw15 HBlw15
        have HBF : Hid (Bld _ lo hi b 41 (ins, gs ++ [(1, 0, 0)] ++ (lessG (a.take (j + 1)) (bb.take (j + 1)) N (N + 1)).1, os)) := (by have h1 := HBw16.out; rw [← HNEW.out] at h1; exact h1)
        clear HNEW HAC HBC HBw16
        go_wp2_with fail
        go_roundw
        case rel => exact ⟨j + 1, by omega, by go_num, by rw [HON.out], HBF, HBlw16⟩
        case measure => simp [intOf]; omega
    · obtain rfl : j = an := by omega
      have ha1 : a.take j = a := List.take_of_length_le (by have := HAL.out; omega)
      have hb1 : bb.take j = bb := List.take_of_length_le (by have := HBL.out; omega)
      rw [ha1, hb1] at HB
      clear HA HBB ha1 hb1
      go_wp2_with fail
      go_ret
      exact ⟨rfl, HB.out, HBl.out⟩
set_option maxRecDepth 100000 in
set_option maxHeartbeats 8000000 in
theorem iAdd_any (lo hi b : Nat) (ins : Int) (gs : List Gt) (os : List Int) (av bv : Value) (a bb : List Int) (carry : Int) (N : Int) (hN : ins + gs.length = N) (hI0 : 0 ≤ ins) (hI1 : ins ≤ 16) (hn : gs.length ≤ 300) (hl : a.length = bb.length) (hl16 : a.length ≤ 16) (w : World) (h : Bld w lo hi b 41 (ins, gs, os)) (hhi : hi ≤ w.heap.size)
    (ha : ∀ w', Below lo w w' → IntsAt w' av a) (hb : ∀ w', Below lo w w' → IntsAt w' bv bb) :
    Calls Tryd.prog 109 #[.pointer (some ⟨b, 0, none⟩), av, bv, .int .i64 carry] w fun e w' => ∃ r, e = .returned r ∧ w'.ownsRow w.heap.size 3 1 r (addG a bb carry N).2.length (cellsI (addG a bb carry N).2) ∧ Bld w' lo hi b 41 (ins, gs ++ (addG a bb carry N).1, os) ∧ Below lo w w' := by
  obtain ⟨aa, acap, hav, _⟩ := (ha w (Below.refl _ _)).opened
  obtain ⟨ba, bcap, hbv, _⟩ := (hb w (Below.refl _ _)).opened
  subst hav hbv
  have HA : Hid (∀ w', Below lo w w' → ∀ (i : Nat) (x : Int), a[i]? = some x → ∃ g off : Nat, aa = some ⟨g, off, none⟩ ∧ g < w'.heap.size ∧ w'.cell? ⟨g, off + i, none⟩ = some (.int .i64 x)) := fun w' hw i x hx => by
    obtain ⟨_, _, e, hc⟩ := (ha w' hw).opened
    injection e with e1 e2 e3
    subst e1
    exact hc i x hx
  have HBB : Hid (∀ w', Below lo w w' → ∀ (i : Nat) (x : Int), bb[i]? = some x → ∃ g off : Nat, ba = some ⟨g, off, none⟩ ∧ g < w'.heap.size ∧ w'.cell? ⟨g, off + i, none⟩ = some (.int .i64 x)) := fun w' hw i x hx => by
    obtain ⟨_, _, e, hc⟩ := (hb w' hw).opened
    injection e with e1 e2 e3
    subst e1
    exact hc i x hx
  have hlo := h.size
  have HB1 : Hid _ := h
  obtain ⟨i0, hif, hz0, hz1, hz2⟩ := info_parts infoInt
  clear ha hb h
  generalize hal : a.length = an at *
  rw [← hl]
  have HAL : Hid (a.length = an) := hal
  have HBL : Hid (bb.length = an) := hl.symm
  clear hal hl
  go_enter Tryd.func109, Tryd.ntmps109
  go_wp2_with fail
  go_loopw [3, 9, 16] (fun vn vs i wr => ∃ j : Nat, j ≤ an ∧ i = .int .i64 j ∧ vn = .int .i64 (onW carry N 5 4 j) ∧ Hid (wr.ownsRow w.heap.size 3 1 vs (addG (a.take j) (bb.take j) carry N).2.length (cellsI (addG (a.take j) (bb.take j) carry N).2)) ∧ Hid (Bld wr lo hi b 41 (ins, gs ++ (addG (a.take j) (bb.take j) carry N).1, os)) ∧ Hid (Below lo w wr)) (fun _ _ i _ => an - (intOf i).toNat)
  case atStart =>
    refine ⟨0, by omega, rfl, rfl, World.ownsRow_nil _ _ _ _, ?_, Below.refl _ _⟩
    show Bld w lo hi b 41 (ins, gs ++ [], os)
    rw [List.append_nil]
    exact HB1.out
  case round =>
    obtain ⟨j, hj, rfl, rfl, HSU, HB, HBl⟩ := hrel
    clear HB1
    by_cases hlt : j < an
    · have hal := HAL.out
      have hbl := HBL.out
      obtain ⟨x, hx⟩ : ∃ x, a[j]? = some x := ⟨a[j], List.getElem?_eq_getElem (by omega)⟩
      obtain ⟨y, hy⟩ : ∃ y, bb[j]? = some y := ⟨bb[j], List.getElem?_eq_getElem (by omega)⟩
      have hl1 : (a.take j).length = j := List.length_take_of_le (by omega)
      have hl2 : (bb.take j).length = j := List.length_take_of_le (by omega)
      have hsn := addG_snoc (a.take j) (bb.take j) x y carry N (by rw [hl1, hl2])
      have hln := addG_len (a.take j) (bb.take j) carry N (by rw [hl1, hl2])
      rw [hl1] at hsn hln
      have hta : a.take (j + 1) = a.take j ++ [x] := by rw [List.take_add_one, hx]; rfl
      have htb : bb.take (j + 1) = bb.take j ++ [y] := by rw [List.take_add_one, hy]; rfl
      rw [← hta, ← htb] at hsn
      obtain ⟨S0, hS⟩ : ∃ S0 : Int, N + 5 * (j : Int) = S0 := ⟨_, rfl⟩
      rw [hS] at hsn
      obtain ⟨C, hC⟩ : ∃ C : Int, onW carry N 5 4 j = C := ⟨_, rfl⟩
      rw [hC] at hsn ⊢
      obtain ⟨G, hG⟩ : ∃ G, gs ++ (addG (a.take j) (bb.take j) carry N).1 = G := ⟨_, rfl⟩
      have hGl : ins + (G.length : Int) = S0 := by
        rw [← hG]
        simp only [List.length_append, hln.1, List.length_singleton]
        omega
      have hGn : G.length ≤ 900 := by omega
      obtain ⟨S1, hS1⟩ : ∃ S1 : Int, S0 + 1 = S1 := ⟨_, rfl⟩
      obtain ⟨S2, hS2⟩ : ∃ S2 : Int, S0 + 2 = S2 := ⟨_, rfl⟩
      obtain ⟨S3, hS3⟩ : ∃ S3 : Int, S0 + 3 = S3 := ⟨_, rfl⟩
      obtain ⟨S4, hS4⟩ : ∃ S4 : Int, S0 + 4 = S4 := ⟨_, rfl⟩
      have HNEW : Hid (gs ++ (addG (a.take (j + 1)) (bb.take (j + 1)) carry N).1 = G ++ [(5, x, y)] ++ [(5, S0, C)] ++ [(3, x, y)] ++ [(3, S0, C)] ++ [(4, S2, S3)]) := by
        show gs ++ (addG (a.take (j + 1)) (bb.take (j + 1)) carry N).1 = _
        rw [hsn, ← hG]
        simp [addOne, ← hS, ← hS1, ← hS2, ← hS3, ← hS4]
        try omega
      have HON : Hid (onW carry N 5 4 (j + 1) = S4) := by
        show N + 5 * (j : Int) + 4 = S4
        omega
      have HNS : Hid ((addG (a.take (j + 1)) (bb.take (j + 1)) carry N).2 = (addG (a.take j) (bb.take j) carry N).2 ++ [S1]) := by
        show (addG (a.take (j + 1)) (bb.take (j + 1)) carry N).2 = _
        rw [hsn, ← hS1]
      have hsl : (addG (a.take j) (bb.take j) carry N).2.length = j := hln.2
      obtain ⟨SL, hSL⟩ : ∃ SL, (addG (a.take j) (bb.take j) carry N).2 = SL := ⟨_, rfl⟩
      rw [hSL] at HSU HNS hsl
      rw [hsl] at HSU
      clear hSL
      obtain ⟨va0, vc0, hv0⟩ := own_shape HSU.out
      subst hv0
      rw [hG] at HB
      clear hsn hln hta htb hG hC hl1 hl2
      obtain ⟨ag, aoff, rfl, _, _⟩ := HA.out wr HBl.out j x hx
      obtain ⟨bg, boff, rfl, _, _⟩ := HBB.out wr HBl.out j y hy
      have HAC : Hid (∀ w', Below lo w w' → ag < w'.heap.size ∧ w'.cell? ⟨ag, aoff + j, none⟩ = some (.int .i64 x)) := fun w' hw => by
        obtain ⟨g, off, e, h1, h2⟩ := HA.out w' hw j x hx
        injection e with e1
        injection e1 with e2 e3
        subst e2 e3
        exact ⟨h1, h2⟩
      have HBC : Hid (∀ w', Below lo w w' → bg < w'.heap.size ∧ w'.cell? ⟨bg, boff + j, none⟩ = some (.int .i64 y)) := fun w' hw => by
        obtain ⟨g, off, e, h1, h2⟩ := HBB.out w' hw j y hy
        injection e with e1
        injection e1 with e2 e3
        subst e2 e3
        exact ⟨h1, h2⟩
      have hjA : (j : Int) < (an : Int) := by omega
      clear hx hy HA HBB
      obtain ⟨ax0, ac0⟩ := HAC.out _ HBl.out
      obtain ⟨bx0, bc0⟩ := HBC.out _ HBl.out
      go_wp2_with fail
      go_region_with (go_at_call 117; refine (lay_at lo hi b ins (G) os S0 5 x y (by first | omega | (simp only [List.length_append, List.length_singleton]; omega)) hI0 hI1 (by first | omega | (simp only [List.length_append, List.length_singleton]; omega)) _ ?_).mono ?_; (first | exact HB.out | exact HB.out.drew); rintro e w11 ⟨rfl, hB, hbl', hk'⟩; have HBw11 : Hid (Bld w11 lo hi b 41 (ins, G ++ [(5, x, y)], os)) := hB; have HBlw11 : Hid (Below lo w w11) := (by first | exact HBl.out.trans hbl' | exact HBl.out.drew.trans hbl'); have HSw11 : Hid (w11.ownsRow w.heap.size 3 1 (.slice va0 j vc0) j (cellsI SL)) := own_keepT HSU.out (by first | exact hk' | exact ⟨hk'.block⟩); clear hB hbl' hk')
      all_goals
        clear HB HBl HSU
        go_wp2_with fail
        refine (lay_at lo hi b ins (G ++ [(5, x, y)]) os S1 5 S0 C (by first | omega | (simp only [List.length_append, List.length_singleton]; omega)) hI0 hI1 (by first | omega | (simp only [List.length_append, List.length_singleton]; omega)) _ ?_).mono ?_
        · exact HBw11.out
        rintro e w12 ⟨rfl, hB, hbl', hk'⟩
        have HBw12 : Hid (Bld w12 lo hi b 41 (ins, G ++ [(5, x, y)] ++ [(5, S0, C)], os)) := hB
        have HBlw12 : Hid (Below lo w w12) := HBlw11.out.trans hbl'
        have HSw12 : Hid (w12.ownsRow w.heap.size 3 1 (.slice va0 j vc0) j (cellsI SL)) := own_keepT HSw11.out hk'
        clear hB hbl' hk' HBw11 HBlw11 HSw11
        have own6 := World.ownsRow.alloc HSw12.out (.cells #[.int .i64 S1] 3)
        have hb6 : Hid (Below lo w (w12.alloc (.cells #[.int .i64 S1] 3))) := HBlw12.out.alloc (by have := HBlw12.out.size; omega) _
        have hB6 : Hid (Bld (w12.alloc (.cells #[.int .i64 S1] 3)) lo hi b 41 (ins, G ++ [(5, x, y)] ++ [(5, S0, C)], os)) := by
          obtain ⟨q0, q1, q2, q3, q4, q5, q6⟩ := HBw12.out
          exact ⟨q0, q1, q2, q3.alloc _, q4.alloc _, q5.alloc _, q6⟩
        have hs6 : w.heap.size ≤ (w12.alloc (.cells #[.int .i64 S1] 3)).heap.size := hb6.out.size
        go_wp2_with (at_builtin; refine wpList_append_own _ rfl _ _ 39 rfl w.heap.size 3 i0 (.int .i64 0) 1 8 Tryd.underlying39 hif hz0 hz1 hz2 rfl (by decide) _ _ _ rfl own6 ⟨w12.heap.size, 0, none⟩ 1 1 [.int .i64 S1] rfl rfl (oneI_cells w12 S1) (ints_one [S1]) (by unfold maxLen; omega) (by omega) hs6 ?_)
        intro v7 w7 own7 grow7 _
        have HB7 : Hid (Bld w7 lo hi b 41 (ins, G ++ [(5, x, y)] ++ [(5, S0, C)], os)) := hB6.out.sum own6 hhi (by decide) grow7
        have HBl7 : Hid (Below lo w w7) := hb6.out.grown grow7 (by have := hb6.out.size; omega) (fun kk hk => Nat.le_trans hlo (own_block own6 hk).1)
        have HS7 : Hid (w7.ownsRow w.heap.size 3 1 v7 (j + 1) (cellsI (SL ++ [S1]))) := by
          show w7.ownsRow w.heap.size 3 1 v7 (j + 1) (cellsI (SL ++ [S1]))
          unfold cellsI
          rw [List.map_append]
          exact own7
        obtain ⟨va7, vc7, hv7⟩ := own_shape own7
        subst hv7
        clear own6 hb6 hB6 own7 grow7 HBw12 HBlw12 HSw12
        obtain ⟨ax2, ac2⟩ := HAC.out _ HBl7.out
        obtain ⟨bx2, bc2⟩ := HBC.out _ HBl7.out
        go_wp2_with fail
        go_region_with (go_at_call 117; refine (lay_at lo hi b ins (G ++ [(5, x, y)] ++ [(5, S0, C)]) os S2 3 x y (by first | omega | (simp only [List.length_append, List.length_singleton]; omega)) hI0 hI1 (by first | omega | (simp only [List.length_append, List.length_singleton]; omega)) _ ?_).mono ?_; (first | exact HB7.out | exact HB7.out.drew); rintro e w13 ⟨rfl, hB, hbl', hk'⟩; have HBw13 : Hid (Bld w13 lo hi b 41 (ins, G ++ [(5, x, y)] ++ [(5, S0, C)] ++ [(3, x, y)], os)) := hB; have HBlw13 : Hid (Below lo w w13) := (by first | exact HBl7.out.trans hbl' | exact HBl7.out.drew.trans hbl'); have HSw13 : Hid (w13.ownsRow w.heap.size 3 1 (.slice va7 (j + 1) vc7) (j + 1) (cellsI (SL ++ [S1]))) := own_keepT HS7.out (by first | exact hk' | exact ⟨hk'.block⟩); clear hB hbl' hk')
        all_goals
          clear HB7 HBl7 HS7
          go_wp2_with fail
          refine (lay_at lo hi b ins (G ++ [(5, x, y)] ++ [(5, S0, C)] ++ [(3, x, y)]) os S3 3 S0 C (by first | omega | (simp only [List.length_append, List.length_singleton]; omega)) hI0 hI1 (by first | omega | (simp only [List.length_append, List.length_singleton]; omega)) _ ?_).mono ?_
          · exact HBw13.out
          rintro e w14 ⟨rfl, hB, hbl', hk'⟩
          have HBw14 : Hid (Bld w14 lo hi b 41 (ins, G ++ [(5, x, y)] ++ [(5, S0, C)] ++ [(3, x, y)] ++ [(3, S0, C)], os)) := hB
          have HBlw14 : Hid (Below lo w w14) := HBlw13.out.trans hbl'
          have HSw14 : Hid (w14.ownsRow w.heap.size 3 1 (.slice va7 (j + 1) vc7) (j + 1) (cellsI (SL ++ [S1]))) := own_keepT HSw13.out hk'
          clear hB hbl' hk' HBw13 HBlw13 HSw13
          go_wp2_with fail
          refine (lay_at lo hi b ins (G ++ [(5, x, y)] ++ [(5, S0, C)] ++ [(3, x, y)] ++ [(3, S0, C)]) os S4 4 S2 S3 (by first | omega | (simp only [List.length_append, List.length_singleton]; omega)) hI0 hI1 (by first | omega | (simp only [List.length_append, List.length_singleton]; omega)) _ ?_).mono ?_
          · exact HBw14.out
          rintro e w15 ⟨rfl, hB, hbl', hk'⟩
          have HBw15 : Hid (Bld w15 lo hi b 41 (ins, G ++ [(5, x, y)] ++ [(5, S0, C)] ++ [(3, x, y)] ++ [(3, S0, C)] ++ [(4, S2, S3)], os)) := hB
          have HBlw15 : Hid (Below lo w w15) := HBlw14.out.trans hbl'
          have HSw15 : Hid (w15.ownsRow w.heap.size 3 1 (.slice va7 (j + 1) vc7) (j + 1) (cellsI (SL ++ [S1]))) := own_keepT HSw14.out hk'
          clear hB hbl' hk' HBw14 HBlw14 HSw14
          have HBF : Hid (Bld _ lo hi b 41 (ins, gs ++ (addG (a.take (j + 1)) (bb.take (j + 1)) carry N).1, os)) := (by have h1 := HBw15.out; rw [← HNEW.out] at h1; exact h1)
          have HSF : Hid (World.ownsRow _ w.heap.size 3 1 (.slice va7 (j + 1) vc7) (addG (a.take (j + 1)) (bb.take (j + 1)) carry N).2.length (cellsI (addG (a.take (j + 1)) (bb.take (j + 1)) carry N).2)) := (by have h1 := HSw15.out; rw [← HNS.out] at h1; rw [show (addG (a.take (j + 1)) (bb.take (j + 1)) carry N).2.length = j + 1 from by rw [HNS.out, List.length_append, hsl]; rfl]; exact h1)
          clear HNEW HNS HAC HBC HBw15 HSw15
          go_wp2_with fail
          go_roundw
          case rel => exact ⟨j + 1, by omega, by go_num, by rw [HON.out], HSF, HBF, HBlw15⟩
          case measure => simp [intOf]; omega
    · obtain rfl : j = an := by omega
      have ha1 : a.take j = a := List.take_of_length_le (by have := HAL.out; omega)
      have hb1 : bb.take j = bb := List.take_of_length_le (by have := HBL.out; omega)
      rw [ha1, hb1] at HB HSU
      clear HA HBB ha1 hb1
      go_wp2_with fail
      go_ret
      exact ⟨_, rfl, HSU.out, HB.out, HBl.out⟩
set_option maxRecDepth 100000 in
set_option maxHeartbeats 8000000 in
theorem sEq_any (lo hi b : Nat) (ins : Int) (gs : List Gt) (os : List Int) (av bv : Value) (a bb : List Int) (N : Int) (hN : ins + gs.length = N) (hI0 : 0 ≤ ins) (hI1 : ins ≤ 16) (hn : gs.length ≤ 300) (hl : a.length = bb.length) (hl16 : a.length ≤ 16) (w : World) (h : Bld w lo hi b 99 (ins, gs, os)) (hhi : hi ≤ w.heap.size)
    (ha : ∀ w', Below lo w w' → IntsAt w' av a) (hb : ∀ w', Below lo w w' → IntsAt w' bv bb) :
    Calls Tryd.prog 99 #[.pointer (some ⟨b, 0, none⟩), av, bv] w fun e w' => e = .returned (.int .i64 (onW N (N + 1) 3 2 a.length)) ∧ Bld w' lo hi b 99 (ins, gs ++ [(1, 1, 0)] ++ (eqG a bb N (N + 1)).1, os) ∧ Below lo w w' := by
  obtain ⟨aa, acap, hav, _⟩ := (ha w (Below.refl _ _)).opened
  obtain ⟨ba, bcap, hbv, _⟩ := (hb w (Below.refl _ _)).opened
  subst hav hbv
  have HA : Hid (∀ w', Below lo w w' → ∀ (i : Nat) (x : Int), a[i]? = some x → ∃ g off : Nat, aa = some ⟨g, off, none⟩ ∧ g < w'.heap.size ∧ w'.cell? ⟨g, off + i, none⟩ = some (.int .i64 x)) := fun w' hw i x hx => by
    obtain ⟨_, _, e, hc⟩ := (ha w' hw).opened
    injection e with e1 e2 e3
    subst e1
    exact hc i x hx
  have HBB : Hid (∀ w', Below lo w w' → ∀ (i : Nat) (x : Int), bb[i]? = some x → ∃ g off : Nat, ba = some ⟨g, off, none⟩ ∧ g < w'.heap.size ∧ w'.cell? ⟨g, off + i, none⟩ = some (.int .i64 x)) := fun w' hw i x hx => by
    obtain ⟨_, _, e, hc⟩ := (hb w' hw).opened
    injection e with e1 e2 e3
    subst e1
    exact hc i x hx
  have hlo := h.size
  have g1 := gate_at lo hi b ins gs os N 1 1 0 hN hI0 hI1 (by omega) w h
  clear ha hb h
  generalize hal : a.length = an at *
  rw [← hl]
  have HAL : Hid (a.length = an) := hal
  have HBL : Hid (bb.length = an) := hl.symm
  clear hal hl
  go_enter Tryd.func99, Tryd.ntmps99
  go_wp2_with fail
  refine g1.mono ?_
  rintro e w1 ⟨rfl, hB1, hb1, _⟩
  have HB1 : Hid _ := hB1
  have Hb1 : Hid _ := hb1
  clear g1 hB1 hb1
  go_wp2_with fail
  go_loopw [7, 15] (fun vn i wr => ∃ j : Nat, j ≤ an ∧ i = .int .i64 j ∧ vn = .int .i64 (onW N (N + 1) 3 2 j) ∧ Hid (Bld wr lo hi b 99 (ins, gs ++ [(1, 1, 0)] ++ (eqG (a.take j) (bb.take j) N (N + 1)).1, os)) ∧ Hid (Below lo w wr)) (fun _ i _ => an - (intOf i).toNat)
  case atStart =>
    refine ⟨0, by omega, rfl, rfl, ?_, Hb1⟩
    show Bld w1 lo hi b 99 (ins, gs ++ [(1, 1, 0)] ++ [], os)
    rw [List.append_nil]
    exact HB1.out
  case round =>
    obtain ⟨j, hj, rfl, rfl, HB, HBl⟩ := hrel
    clear HB1 Hb1
    by_cases hlt : j < an
    · have hal := HAL.out
      have hbl := HBL.out
      obtain ⟨x, hx⟩ : ∃ x, a[j]? = some x := ⟨a[j], List.getElem?_eq_getElem (by omega)⟩
      obtain ⟨y, hy⟩ : ∃ y, bb[j]? = some y := ⟨bb[j], List.getElem?_eq_getElem (by omega)⟩
      have hl1 : (a.take j).length = j := List.length_take_of_le (by omega)
      have hl2 : (bb.take j).length = j := List.length_take_of_le (by omega)
      have hsn := eqG_snoc (a.take j) (bb.take j) x y N (N + 1) (by rw [hl1, hl2])
      have hln := eqG_len (a.take j) (bb.take j) N (N + 1) (by rw [hl1, hl2])
      rw [hl1] at hsn hln
      have hta : a.take (j + 1) = a.take j ++ [x] := by rw [List.take_add_one, hx]; rfl
      have htb : bb.take (j + 1) = bb.take j ++ [y] := by rw [List.take_add_one, hy]; rfl
      rw [← hta, ← htb] at hsn
      obtain ⟨S0, hS⟩ : ∃ S0 : Int, N + 1 + 3 * (j : Int) = S0 := ⟨_, rfl⟩
      rw [hS] at hsn
      obtain ⟨C, hC⟩ : ∃ C : Int, onW N (N + 1) 3 2 j = C := ⟨_, rfl⟩
      rw [hC] at hsn ⊢
      obtain ⟨G, hG⟩ : ∃ G, gs ++ [(1, 1, 0)] ++ (eqG (a.take j) (bb.take j) N (N + 1)).1 = G := ⟨_, rfl⟩
      have hGl : ins + (G.length : Int) = S0 := by
        rw [← hG]
        simp only [List.length_append, hln, List.length_singleton]
        omega
      have hGn : G.length ≤ 900 := by omega
      obtain ⟨S1, hS1⟩ : ∃ S1 : Int, S0 + 1 = S1 := ⟨_, rfl⟩
      obtain ⟨S2, hS2⟩ : ∃ S2 : Int, S0 + 2 = S2 := ⟨_, rfl⟩
      have HNEW : Hid (gs ++ [(1, 1, 0)] ++ (eqG (a.take (j + 1)) (bb.take (j + 1)) N (N + 1)).1 = G ++ [(5, x, y)] ++ [(2, S0, 0)] ++ [(3, S1, C)]) := by
        show gs ++ [(1, 1, 0)] ++ (eqG (a.take (j + 1)) (bb.take (j + 1)) N (N + 1)).1 = _
        rw [hsn, ← hG]
        simp [eqOne, ← hS, ← hS1, ← hS2]
        try omega
      have HON : Hid (onW N (N + 1) 3 2 (j + 1) = S2) := by
        show (N + 1) + 3 * (j : Int) + 2 = S2
        omega
      rw [hG] at HB
      clear hsn hln hta htb hG hC hl1 hl2
      obtain ⟨ag, aoff, rfl, _, _⟩ := HA.out wr HBl.out j x hx
      obtain ⟨bg, boff, rfl, _, _⟩ := HBB.out wr HBl.out j y hy
      have HAC : Hid (∀ w', Below lo w w' → ag < w'.heap.size ∧ w'.cell? ⟨ag, aoff + j, none⟩ = some (.int .i64 x)) := fun w' hw => by
        obtain ⟨g, off, e, h1, h2⟩ := HA.out w' hw j x hx
        injection e with e1
        injection e1 with e2 e3
        subst e2 e3
        exact ⟨h1, h2⟩
      have HBC : Hid (∀ w', Below lo w w' → bg < w'.heap.size ∧ w'.cell? ⟨bg, boff + j, none⟩ = some (.int .i64 y)) := fun w' hw => by
        obtain ⟨g, off, e, h1, h2⟩ := HBB.out w' hw j y hy
        injection e with e1
        injection e1 with e2 e3
        subst e2 e3
        exact ⟨h1, h2⟩
      have hjA : (j : Int) < (an : Int) := by omega
      clear hx hy HA HBB
      obtain ⟨ax0, ac0⟩ := HAC.out _ HBl.out
      obtain ⟨bx0, bc0⟩ := HBC.out _ HBl.out
      go_wp2_with fail
      go_region_with (go_at_call 95; refine (gate_at lo hi b ins (G) os S0 5 x y (by first | omega | (simp only [List.length_append, List.length_singleton]; omega)) hI0 hI1 (by first | omega | (simp only [List.length_append, List.length_singleton]; omega)) _ ?_).mono ?_; (first | exact HB.out | exact HB.out.drew); rintro e w11 ⟨rfl, hB, hbl', hk'⟩; have HBw11 : Hid (Bld w11 lo hi b 99 (ins, G ++ [(5, x, y)], os)) := hB; have HBlw11 : Hid (Below lo w w11) := (by first | exact HBl.out.trans hbl' | exact HBl.out.drew.trans hbl'); clear hB hbl' hk')
      all_goals
        clear HB HBl
        go_wp2_with fail
        refine (gate_at lo hi b ins (G ++ [(5, x, y)]) os S1 2 S0 0 (by first | omega | (simp only [List.length_append, List.length_singleton]; omega)) hI0 hI1 (by first | omega | (simp only [List.length_append, List.length_singleton]; omega)) _ ?_).mono ?_
        · exact HBw11.out
        rintro e w12 ⟨rfl, hB, hbl', hk'⟩
        have HBw12 : Hid (Bld w12 lo hi b 99 (ins, G ++ [(5, x, y)] ++ [(2, S0, 0)], os)) := hB
        have HBlw12 : Hid (Below lo w w12) := HBlw11.out.trans hbl'
        clear hB hbl' hk' HBw11 HBlw11
        go_wp2_with fail
        refine (gate_at lo hi b ins (G ++ [(5, x, y)] ++ [(2, S0, 0)]) os S2 3 S1 C (by first | omega | (simp only [List.length_append, List.length_singleton]; omega)) hI0 hI1 (by first | omega | (simp only [List.length_append, List.length_singleton]; omega)) _ ?_).mono ?_
        · exact HBw12.out
        rintro e w13 ⟨rfl, hB, hbl', hk'⟩
        have HBw13 : Hid (Bld w13 lo hi b 99 (ins, G ++ [(5, x, y)] ++ [(2, S0, 0)] ++ [(3, S1, C)], os)) := hB
        have HBlw13 : Hid (Below lo w w13) := HBlw12.out.trans hbl'
        clear hB hbl' hk' HBw12 HBlw12
        have HBF : Hid (Bld _ lo hi b 99 (ins, gs ++ [(1, 1, 0)] ++ (eqG (a.take (j + 1)) (bb.take (j + 1)) N (N + 1)).1, os)) := (by have h1 := HBw13.out; rw [← HNEW.out] at h1; exact h1)
        clear HNEW HAC HBC HBw13
        go_wp2_with fail
        go_roundw
        case rel => exact ⟨j + 1, by omega, by go_num, by rw [HON.out], HBF, HBlw13⟩
        case measure => simp [intOf]; omega
    · obtain rfl : j = an := by omega
      have ha1 : a.take j = a := List.take_of_length_le (by have := HAL.out; omega)
      have hb1 : bb.take j = bb := List.take_of_length_le (by have := HBL.out; omega)
      rw [ha1, hb1] at HB
      clear HA HBB ha1 hb1
      go_wp2_with fail
      go_ret
      exact ⟨rfl, HB.out, HBl.out⟩
set_option maxRecDepth 100000 in
set_option maxHeartbeats 8000000 in
theorem sLess_any (lo hi b : Nat) (ins : Int) (gs : List Gt) (os : List Int) (av bv : Value) (a bb : List Int) (N : Int) (hN : ins + gs.length = N) (hI0 : 0 ≤ ins) (hI1 : ins ≤ 16) (hn : gs.length ≤ 300) (hl : a.length = bb.length) (hl16 : a.length ≤ 16) (w : World) (h : Bld w lo hi b 99 (ins, gs, os)) (hhi : hi ≤ w.heap.size)
    (ha : ∀ w', Below lo w w' → IntsAt w' av a) (hb : ∀ w', Below lo w w' → IntsAt w' bv bb) :
    Calls Tryd.prog 100 #[.pointer (some ⟨b, 0, none⟩), av, bv] w fun e w' => e = .returned (.int .i64 (onW N (N + 1) 6 5 a.length)) ∧ Bld w' lo hi b 99 (ins, gs ++ [(1, 0, 0)] ++ (lessG a bb N (N + 1)).1, os) ∧ Below lo w w' := by
  obtain ⟨aa, acap, hav, _⟩ := (ha w (Below.refl _ _)).opened
  obtain ⟨ba, bcap, hbv, _⟩ := (hb w (Below.refl _ _)).opened
  subst hav hbv
  have HA : Hid (∀ w', Below lo w w' → ∀ (i : Nat) (x : Int), a[i]? = some x → ∃ g off : Nat, aa = some ⟨g, off, none⟩ ∧ g < w'.heap.size ∧ w'.cell? ⟨g, off + i, none⟩ = some (.int .i64 x)) := fun w' hw i x hx => by
    obtain ⟨_, _, e, hc⟩ := (ha w' hw).opened
    injection e with e1 e2 e3
    subst e1
    exact hc i x hx
  have HBB : Hid (∀ w', Below lo w w' → ∀ (i : Nat) (x : Int), bb[i]? = some x → ∃ g off : Nat, ba = some ⟨g, off, none⟩ ∧ g < w'.heap.size ∧ w'.cell? ⟨g, off + i, none⟩ = some (.int .i64 x)) := fun w' hw i x hx => by
    obtain ⟨_, _, e, hc⟩ := (hb w' hw).opened
    injection e with e1 e2 e3
    subst e1
    exact hc i x hx
  have hlo := h.size
  have g1 := gate_at lo hi b ins gs os N 1 0 0 hN hI0 hI1 (by omega) w h
  clear ha hb h
  generalize hal : a.length = an at *
  rw [← hl]
  have HAL : Hid (a.length = an) := hal
  have HBL : Hid (bb.length = an) := hl.symm
  clear hal hl
  go_enter Tryd.func100, Tryd.ntmps100
  go_wp2_with fail
  refine g1.mono ?_
  rintro e w1 ⟨rfl, hB1, hb1, _⟩
  have HB1 : Hid _ := hB1
  have Hb1 : Hid _ := hb1
  clear g1 hB1 hb1
  go_wp2_with fail
  go_loopw [7, 18] (fun vn i wr => ∃ j : Nat, j ≤ an ∧ i = .int .i64 j ∧ vn = .int .i64 (onW N (N + 1) 6 5 j) ∧ Hid (Bld wr lo hi b 99 (ins, gs ++ [(1, 0, 0)] ++ (lessG (a.take j) (bb.take j) N (N + 1)).1, os)) ∧ Hid (Below lo w wr)) (fun _ i _ => an - (intOf i).toNat)
  case atStart =>
    refine ⟨0, by omega, rfl, rfl, ?_, Hb1⟩
    show Bld w1 lo hi b 99 (ins, gs ++ [(1, 0, 0)] ++ [], os)
    rw [List.append_nil]
    exact HB1.out
  case round =>
    obtain ⟨j, hj, rfl, rfl, HB, HBl⟩ := hrel
    clear HB1 Hb1
    by_cases hlt : j < an
    · have hal := HAL.out
      have hbl := HBL.out
      obtain ⟨x, hx⟩ : ∃ x, a[j]? = some x := ⟨a[j], List.getElem?_eq_getElem (by omega)⟩
      obtain ⟨y, hy⟩ : ∃ y, bb[j]? = some y := ⟨bb[j], List.getElem?_eq_getElem (by omega)⟩
      have hl1 : (a.take j).length = j := List.length_take_of_le (by omega)
      have hl2 : (bb.take j).length = j := List.length_take_of_le (by omega)
      have hsn := lessG_snoc (a.take j) (bb.take j) x y N (N + 1) (by rw [hl1, hl2])
      have hln := lessG_len (a.take j) (bb.take j) N (N + 1) (by rw [hl1, hl2])
      rw [hl1] at hsn hln
      have hta : a.take (j + 1) = a.take j ++ [x] := by rw [List.take_add_one, hx]; rfl
      have htb : bb.take (j + 1) = bb.take j ++ [y] := by rw [List.take_add_one, hy]; rfl
      rw [← hta, ← htb] at hsn
      obtain ⟨S0, hS⟩ : ∃ S0 : Int, N + 1 + 6 * (j : Int) = S0 := ⟨_, rfl⟩
      rw [hS] at hsn
      obtain ⟨C, hC⟩ : ∃ C : Int, onW N (N + 1) 6 5 j = C := ⟨_, rfl⟩
      rw [hC] at hsn ⊢
      obtain ⟨G, hG⟩ : ∃ G, gs ++ [(1, 0, 0)] ++ (lessG (a.take j) (bb.take j) N (N + 1)).1 = G := ⟨_, rfl⟩
      have hGl : ins + (G.length : Int) = S0 := by
        rw [← hG]
        simp only [List.length_append, hln, List.length_singleton]
        omega
      have hGn : G.length ≤ 900 := by omega
      obtain ⟨S1, hS1⟩ : ∃ S1 : Int, S0 + 1 = S1 := ⟨_, rfl⟩
      obtain ⟨S2, hS2⟩ : ∃ S2 : Int, S0 + 2 = S2 := ⟨_, rfl⟩
      obtain ⟨S3, hS3⟩ : ∃ S3 : Int, S0 + 3 = S3 := ⟨_, rfl⟩
      obtain ⟨S4, hS4⟩ : ∃ S4 : Int, S0 + 4 = S4 := ⟨_, rfl⟩
      obtain ⟨S5, hS5⟩ : ∃ S5 : Int, S0 + 5 = S5 := ⟨_, rfl⟩
      have HNEW : Hid (gs ++ [(1, 0, 0)] ++ (lessG (a.take (j + 1)) (bb.take (j + 1)) N (N + 1)).1 = G ++ [(5, x, y)] ++ [(2, S0, 0)] ++ [(3, S1, C)] ++ [(2, x, 0)] ++ [(3, S3, y)] ++ [(4, S2, S4)]) := by
        show gs ++ [(1, 0, 0)] ++ (lessG (a.take (j + 1)) (bb.take (j + 1)) N (N + 1)).1 = _
        rw [hsn, ← hG]
        simp [lessOne, ← hS, ← hS1, ← hS2, ← hS3, ← hS4, ← hS5]
        try omega
      have HON : Hid (onW N (N + 1) 6 5 (j + 1) = S5) := by
        show (N + 1) + 6 * (j : Int) + 5 = S5
        omega
      rw [hG] at HB
      clear hsn hln hta htb hG hC hl1 hl2
      obtain ⟨ag, aoff, rfl, _, _⟩ := HA.out wr HBl.out j x hx
      obtain ⟨bg, boff, rfl, _, _⟩ := HBB.out wr HBl.out j y hy
      have HAC : Hid (∀ w', Below lo w w' → ag < w'.heap.size ∧ w'.cell? ⟨ag, aoff + j, none⟩ = some (.int .i64 x)) := fun w' hw => by
        obtain ⟨g, off, e, h1, h2⟩ := HA.out w' hw j x hx
        injection e with e1
        injection e1 with e2 e3
        subst e2 e3
        exact ⟨h1, h2⟩
      have HBC : Hid (∀ w', Below lo w w' → bg < w'.heap.size ∧ w'.cell? ⟨bg, boff + j, none⟩ = some (.int .i64 y)) := fun w' hw => by
        obtain ⟨g, off, e, h1, h2⟩ := HBB.out w' hw j y hy
        injection e with e1
        injection e1 with e2 e3
        subst e2 e3
        exact ⟨h1, h2⟩
      have hjA : (j : Int) < (an : Int) := by omega
      clear hx hy HA HBB
      obtain ⟨ax0, ac0⟩ := HAC.out _ HBl.out
      obtain ⟨bx0, bc0⟩ := HBC.out _ HBl.out
      go_wp2_with fail
      go_region_with (go_at_call 95; refine (gate_at lo hi b ins (G) os S0 5 x y (by first | omega | (simp only [List.length_append, List.length_singleton]; omega)) hI0 hI1 (by first | omega | (simp only [List.length_append, List.length_singleton]; omega)) _ ?_).mono ?_; (first | exact HB.out | exact HB.out.drew); rintro e w11 ⟨rfl, hB, hbl', hk'⟩; have HBw11 : Hid (Bld w11 lo hi b 99 (ins, G ++ [(5, x, y)], os)) := hB; have HBlw11 : Hid (Below lo w w11) := (by first | exact HBl.out.trans hbl' | exact HBl.out.drew.trans hbl'); clear hB hbl' hk')
      all_goals
        clear HB HBl
        go_wp2_with fail
        refine (gate_at lo hi b ins (G ++ [(5, x, y)]) os S1 2 S0 0 (by first | omega | (simp only [List.length_append, List.length_singleton]; omega)) hI0 hI1 (by first | omega | (simp only [List.length_append, List.length_singleton]; omega)) _ ?_).mono ?_
        · exact HBw11.out
        rintro e w12 ⟨rfl, hB, hbl', hk'⟩
        have HBw12 : Hid (Bld w12 lo hi b 99 (ins, G ++ [(5, x, y)] ++ [(2, S0, 0)], os)) := hB
        have HBlw12 : Hid (Below lo w w12) := HBlw11.out.trans hbl'
        clear hB hbl' hk' HBw11 HBlw11
        go_wp2_with fail
        refine (gate_at lo hi b ins (G ++ [(5, x, y)] ++ [(2, S0, 0)]) os S2 3 S1 C (by first | omega | (simp only [List.length_append, List.length_singleton]; omega)) hI0 hI1 (by first | omega | (simp only [List.length_append, List.length_singleton]; omega)) _ ?_).mono ?_
        · exact HBw12.out
        rintro e w13 ⟨rfl, hB, hbl', hk'⟩
        have HBw13 : Hid (Bld w13 lo hi b 99 (ins, G ++ [(5, x, y)] ++ [(2, S0, 0)] ++ [(3, S1, C)], os)) := hB
        have HBlw13 : Hid (Below lo w w13) := HBlw12.out.trans hbl'
        clear hB hbl' hk' HBw12 HBlw12
        obtain ⟨ax3, ac3⟩ := HAC.out _ HBlw13.out
        go_wp2_with fail
        refine (gate_at lo hi b ins (G ++ [(5, x, y)] ++ [(2, S0, 0)] ++ [(3, S1, C)]) os S3 2 x 0 (by first | omega | (simp only [List.length_append, List.length_singleton]; omega)) hI0 hI1 (by first | omega | (simp only [List.length_append, List.length_singleton]; omega)) _ ?_).mono ?_
        · exact HBw13.out
        rintro e w14 ⟨rfl, hB, hbl', hk'⟩
        have HBw14 : Hid (Bld w14 lo hi b 99 (ins, G ++ [(5, x, y)] ++ [(2, S0, 0)] ++ [(3, S1, C)] ++ [(2, x, 0)], os)) := hB
        have HBlw14 : Hid (Below lo w w14) := HBlw13.out.trans hbl'
        clear hB hbl' hk' HBw13 HBlw13
        obtain ⟨bx4, bc4⟩ := HBC.out _ HBlw14.out
        go_wp2_with fail
        refine (gate_at lo hi b ins (G ++ [(5, x, y)] ++ [(2, S0, 0)] ++ [(3, S1, C)] ++ [(2, x, 0)]) os S4 3 S3 y (by first | omega | (simp only [List.length_append, List.length_singleton]; omega)) hI0 hI1 (by first | omega | (simp only [List.length_append, List.length_singleton]; omega)) _ ?_).mono ?_
        · exact HBw14.out
        rintro e w15 ⟨rfl, hB, hbl', hk'⟩
        have HBw15 : Hid (Bld w15 lo hi b 99 (ins, G ++ [(5, x, y)] ++ [(2, S0, 0)] ++ [(3, S1, C)] ++ [(2, x, 0)] ++ [(3, S3, y)], os)) := hB
        have HBlw15 : Hid (Below lo w w15) := HBlw14.out.trans hbl'
        clear hB hbl' hk' HBw14 HBlw14
        go_wp2_with fail
        refine (gate_at lo hi b ins (G ++ [(5, x, y)] ++ [(2, S0, 0)] ++ [(3, S1, C)] ++ [(2, x, 0)] ++ [(3, S3, y)]) os S5 4 S2 S4 (by first | omega | (simp only [List.length_append, List.length_singleton]; omega)) hI0 hI1 (by first | omega | (simp only [List.length_append, List.length_singleton]; omega)) _ ?_).mono ?_
        · exact HBw15.out
        rintro e w16 ⟨rfl, hB, hbl', hk'⟩
        have HBw16 : Hid (Bld w16 lo hi b 99 (ins, G ++ [(5, x, y)] ++ [(2, S0, 0)] ++ [(3, S1, C)] ++ [(2, x, 0)] ++ [(3, S3, y)] ++ [(4, S2, S4)], os)) := hB
        have HBlw16 : Hid (Below lo w w16) := HBlw15.out.trans hbl'
        clear hB hbl' hk' HBw15 HBlw15
        have HBF : Hid (Bld _ lo hi b 99 (ins, gs ++ [(1, 0, 0)] ++ (lessG (a.take (j + 1)) (bb.take (j + 1)) N (N + 1)).1, os)) := (by have h1 := HBw16.out; rw [← HNEW.out] at h1; exact h1)
        clear HNEW HAC HBC HBw16
        go_wp2_with fail
        go_roundw
        case rel => exact ⟨j + 1, by omega, by go_num, by rw [HON.out], HBF, HBlw16⟩
        case measure => simp [intOf]; omega
    · obtain rfl : j = an := by omega
      have ha1 : a.take j = a := List.take_of_length_le (by have := HAL.out; omega)
      have hb1 : bb.take j = bb := List.take_of_length_le (by have := HBL.out; omega)
      rw [ha1, hb1] at HB
      clear HA HBB ha1 hb1
      go_wp2_with fail
      go_ret
      exact ⟨rfl, HB.out, HBl.out⟩
set_option maxRecDepth 100000 in
set_option maxHeartbeats 8000000 in
theorem sAdd_any (lo hi b : Nat) (ins : Int) (gs : List Gt) (os : List Int) (av bv : Value) (a bb : List Int) (carry : Int) (N : Int) (hN : ins + gs.length = N) (hI0 : 0 ≤ ins) (hI1 : ins ≤ 16) (hn : gs.length ≤ 300) (hl : a.length = bb.length) (hl16 : a.length ≤ 16) (w : World) (h : Bld w lo hi b 99 (ins, gs, os)) (hhi : hi ≤ w.heap.size)
    (ha : ∀ w', Below lo w w' → IntsAt w' av a) (hb : ∀ w', Below lo w w' → IntsAt w' bv bb) :
    Calls Tryd.prog 96 #[.pointer (some ⟨b, 0, none⟩), av, bv, .int .i64 carry] w fun e w' => ∃ r, e = .returned r ∧ w'.ownsRow w.heap.size 3 1 r (addG a bb carry N).2.length (cellsI (addG a bb carry N).2) ∧ Bld w' lo hi b 99 (ins, gs ++ (addG a bb carry N).1, os) ∧ Below lo w w' := by
  obtain ⟨aa, acap, hav, _⟩ := (ha w (Below.refl _ _)).opened
  obtain ⟨ba, bcap, hbv, _⟩ := (hb w (Below.refl _ _)).opened
  subst hav hbv
  have HA : Hid (∀ w', Below lo w w' → ∀ (i : Nat) (x : Int), a[i]? = some x → ∃ g off : Nat, aa = some ⟨g, off, none⟩ ∧ g < w'.heap.size ∧ w'.cell? ⟨g, off + i, none⟩ = some (.int .i64 x)) := fun w' hw i x hx => by
    obtain ⟨_, _, e, hc⟩ := (ha w' hw).opened
    injection e with e1 e2 e3
    subst e1
    exact hc i x hx
  have HBB : Hid (∀ w', Below lo w w' → ∀ (i : Nat) (x : Int), bb[i]? = some x → ∃ g off : Nat, ba = some ⟨g, off, none⟩ ∧ g < w'.heap.size ∧ w'.cell? ⟨g, off + i, none⟩ = some (.int .i64 x)) := fun w' hw i x hx => by
    obtain ⟨_, _, e, hc⟩ := (hb w' hw).opened
    injection e with e1 e2 e3
    subst e1
    exact hc i x hx
  have hlo := h.size
  have HB1 : Hid _ := h
  obtain ⟨i0, hif, hz0, hz1, hz2⟩ := info_parts infoInt
  clear ha hb h
  generalize hal : a.length = an at *
  rw [← hl]
  have HAL : Hid (a.length = an) := hal
  have HBL : Hid (bb.length = an) := hl.symm
  clear hal hl
  go_enter Tryd.func96, Tryd.ntmps96
  go_wp2_with fail
  go_loopw [3, 9, 17] (fun vn vs i wr => ∃ j : Nat, j ≤ an ∧ i = .int .i64 j ∧ vn = .int .i64 (onW carry N 5 4 j) ∧ Hid (wr.ownsRow w.heap.size 3 1 vs (addG (a.take j) (bb.take j) carry N).2.length (cellsI (addG (a.take j) (bb.take j) carry N).2)) ∧ Hid (Bld wr lo hi b 99 (ins, gs ++ (addG (a.take j) (bb.take j) carry N).1, os)) ∧ Hid (Below lo w wr)) (fun _ _ i _ => an - (intOf i).toNat)
  case atStart =>
    refine ⟨0, by omega, rfl, rfl, World.ownsRow_nil _ _ _ _, ?_, Below.refl _ _⟩
    show Bld w lo hi b 99 (ins, gs ++ [], os)
    rw [List.append_nil]
    exact HB1.out
  case round =>
    obtain ⟨j, hj, rfl, rfl, HSU, HB, HBl⟩ := hrel
    clear HB1
    by_cases hlt : j < an
    · have hal := HAL.out
      have hbl := HBL.out
      obtain ⟨x, hx⟩ : ∃ x, a[j]? = some x := ⟨a[j], List.getElem?_eq_getElem (by omega)⟩
      obtain ⟨y, hy⟩ : ∃ y, bb[j]? = some y := ⟨bb[j], List.getElem?_eq_getElem (by omega)⟩
      have hl1 : (a.take j).length = j := List.length_take_of_le (by omega)
      have hl2 : (bb.take j).length = j := List.length_take_of_le (by omega)
      have hsn := addG_snoc (a.take j) (bb.take j) x y carry N (by rw [hl1, hl2])
      have hln := addG_len (a.take j) (bb.take j) carry N (by rw [hl1, hl2])
      rw [hl1] at hsn hln
      have hta : a.take (j + 1) = a.take j ++ [x] := by rw [List.take_add_one, hx]; rfl
      have htb : bb.take (j + 1) = bb.take j ++ [y] := by rw [List.take_add_one, hy]; rfl
      rw [← hta, ← htb] at hsn
      obtain ⟨S0, hS⟩ : ∃ S0 : Int, N + 5 * (j : Int) = S0 := ⟨_, rfl⟩
      rw [hS] at hsn
      obtain ⟨C, hC⟩ : ∃ C : Int, onW carry N 5 4 j = C := ⟨_, rfl⟩
      rw [hC] at hsn ⊢
      obtain ⟨G, hG⟩ : ∃ G, gs ++ (addG (a.take j) (bb.take j) carry N).1 = G := ⟨_, rfl⟩
      have hGl : ins + (G.length : Int) = S0 := by
        rw [← hG]
        simp only [List.length_append, hln.1, List.length_singleton]
        omega
      have hGn : G.length ≤ 900 := by omega
      obtain ⟨S1, hS1⟩ : ∃ S1 : Int, S0 + 1 = S1 := ⟨_, rfl⟩
      obtain ⟨S2, hS2⟩ : ∃ S2 : Int, S0 + 2 = S2 := ⟨_, rfl⟩
      obtain ⟨S3, hS3⟩ : ∃ S3 : Int, S0 + 3 = S3 := ⟨_, rfl⟩
      obtain ⟨S4, hS4⟩ : ∃ S4 : Int, S0 + 4 = S4 := ⟨_, rfl⟩
      have HNEW : Hid (gs ++ (addG (a.take (j + 1)) (bb.take (j + 1)) carry N).1 = G ++ [(5, x, y)] ++ [(5, S0, C)] ++ [(3, x, y)] ++ [(3, S0, C)] ++ [(4, S2, S3)]) := by
        show gs ++ (addG (a.take (j + 1)) (bb.take (j + 1)) carry N).1 = _
        rw [hsn, ← hG]
        simp [addOne, ← hS, ← hS1, ← hS2, ← hS3, ← hS4]
        try omega
      have HON : Hid (onW carry N 5 4 (j + 1) = S4) := by
        show N + 5 * (j : Int) + 4 = S4
        omega
      have HNS : Hid ((addG (a.take (j + 1)) (bb.take (j + 1)) carry N).2 = (addG (a.take j) (bb.take j) carry N).2 ++ [S1]) := by
        show (addG (a.take (j + 1)) (bb.take (j + 1)) carry N).2 = _
        rw [hsn, ← hS1]
      have hsl : (addG (a.take j) (bb.take j) carry N).2.length = j := hln.2
      obtain ⟨SL, hSL⟩ : ∃ SL, (addG (a.take j) (bb.take j) carry N).2 = SL := ⟨_, rfl⟩
      rw [hSL] at HSU HNS hsl
      rw [hsl] at HSU
      clear hSL
      obtain ⟨va0, vc0, hv0⟩ := own_shape HSU.out
      subst hv0
      rw [hG] at HB
      clear hsn hln hta htb hG hC hl1 hl2
      obtain ⟨ag, aoff, rfl, _, _⟩ := HA.out wr HBl.out j x hx
      obtain ⟨bg, boff, rfl, _, _⟩ := HBB.out wr HBl.out j y hy
      have HAC : Hid (∀ w', Below lo w w' → ag < w'.heap.size ∧ w'.cell? ⟨ag, aoff + j, none⟩ = some (.int .i64 x)) := fun w' hw => by
        obtain ⟨g, off, e, h1, h2⟩ := HA.out w' hw j x hx
        injection e with e1
        injection e1 with e2 e3
        subst e2 e3
        exact ⟨h1, h2⟩
      have HBC : Hid (∀ w', Below lo w w' → bg < w'.heap.size ∧ w'.cell? ⟨bg, boff + j, none⟩ = some (.int .i64 y)) := fun w' hw => by
        obtain ⟨g, off, e, h1, h2⟩ := HBB.out w' hw j y hy
        injection e with e1
        injection e1 with e2 e3
        subst e2 e3
        exact ⟨h1, h2⟩
      have hjA : (j : Int) < (an : Int) := by omega
      clear hx hy HA HBB
      obtain ⟨ax0, ac0⟩ := HAC.out _ HBl.out
      obtain ⟨bx0, bc0⟩ := HBC.out _ HBl.out
      go_wp2_with fail
      go_region_with (go_at_call 95; refine (gate_at lo hi b ins (G) os S0 5 x y (by first | omega | (simp only [List.length_append, List.length_singleton]; omega)) hI0 hI1 (by first | omega | (simp only [List.length_append, List.length_singleton]; omega)) _ ?_).mono ?_; (first | exact HB.out | exact HB.out.drew); rintro e w11 ⟨rfl, hB, hbl', hk'⟩; have HBw11 : Hid (Bld w11 lo hi b 99 (ins, G ++ [(5, x, y)], os)) := hB; have HBlw11 : Hid (Below lo w w11) := (by first | exact HBl.out.trans hbl' | exact HBl.out.drew.trans hbl'); have HSw11 : Hid (w11.ownsRow w.heap.size 3 1 (.slice va0 j vc0) j (cellsI SL)) := own_keepT HSU.out (by first | exact hk' | exact ⟨hk'.block⟩); clear hB hbl' hk')
      all_goals
        clear HB HBl HSU
        go_wp2_with fail
        refine (gate_at lo hi b ins (G ++ [(5, x, y)]) os S1 5 S0 C (by first | omega | (simp only [List.length_append, List.length_singleton]; omega)) hI0 hI1 (by first | omega | (simp only [List.length_append, List.length_singleton]; omega)) _ ?_).mono ?_
        · exact HBw11.out
        rintro e w12 ⟨rfl, hB, hbl', hk'⟩
        have HBw12 : Hid (Bld w12 lo hi b 99 (ins, G ++ [(5, x, y)] ++ [(5, S0, C)], os)) := hB
        have HBlw12 : Hid (Below lo w w12) := HBlw11.out.trans hbl'
        have HSw12 : Hid (w12.ownsRow w.heap.size 3 1 (.slice va0 j vc0) j (cellsI SL)) := own_keepT HSw11.out hk'
        clear hB hbl' hk' HBw11 HBlw11 HSw11
        obtain ⟨ax2, ac2⟩ := HAC.out _ HBlw12.out
        obtain ⟨bx2, bc2⟩ := HBC.out _ HBlw12.out
        go_wp2_with fail
        go_region_with (go_at_call 95; refine (gate_at lo hi b ins (G ++ [(5, x, y)] ++ [(5, S0, C)]) os S2 3 x y (by first | omega | (simp only [List.length_append, List.length_singleton]; omega)) hI0 hI1 (by first | omega | (simp only [List.length_append, List.length_singleton]; omega)) _ ?_).mono ?_; (first | exact HBw12.out | exact HBw12.out.drew); rintro e w13 ⟨rfl, hB, hbl', hk'⟩; have HBw13 : Hid (Bld w13 lo hi b 99 (ins, G ++ [(5, x, y)] ++ [(5, S0, C)] ++ [(3, x, y)], os)) := hB; have HBlw13 : Hid (Below lo w w13) := (by first | exact HBlw12.out.trans hbl' | exact HBlw12.out.drew.trans hbl'); have HSw13 : Hid (w13.ownsRow w.heap.size 3 1 (.slice va0 j vc0) j (cellsI SL)) := own_keepT HSw12.out (by first | exact hk' | exact ⟨hk'.block⟩); clear hB hbl' hk')
        all_goals
          clear HBw12 HBlw12 HSw12
          go_wp2_with fail
          refine (gate_at lo hi b ins (G ++ [(5, x, y)] ++ [(5, S0, C)] ++ [(3, x, y)]) os S3 3 S0 C (by first | omega | (simp only [List.length_append, List.length_singleton]; omega)) hI0 hI1 (by first | omega | (simp only [List.length_append, List.length_singleton]; omega)) _ ?_).mono ?_
          · exact HBw13.out
          rintro e w14 ⟨rfl, hB, hbl', hk'⟩
          have HBw14 : Hid (Bld w14 lo hi b 99 (ins, G ++ [(5, x, y)] ++ [(5, S0, C)] ++ [(3, x, y)] ++ [(3, S0, C)], os)) := hB
          have HBlw14 : Hid (Below lo w w14) := HBlw13.out.trans hbl'
          have HSw14 : Hid (w14.ownsRow w.heap.size 3 1 (.slice va0 j vc0) j (cellsI SL)) := own_keepT HSw13.out hk'
          clear hB hbl' hk' HBw13 HBlw13 HSw13
          go_wp2_with fail
          refine (gate_at lo hi b ins (G ++ [(5, x, y)] ++ [(5, S0, C)] ++ [(3, x, y)] ++ [(3, S0, C)]) os S4 4 S2 S3 (by first | omega | (simp only [List.length_append, List.length_singleton]; omega)) hI0 hI1 (by first | omega | (simp only [List.length_append, List.length_singleton]; omega)) _ ?_).mono ?_
          · exact HBw14.out
          rintro e w15 ⟨rfl, hB, hbl', hk'⟩
          have HBw15 : Hid (Bld w15 lo hi b 99 (ins, G ++ [(5, x, y)] ++ [(5, S0, C)] ++ [(3, x, y)] ++ [(3, S0, C)] ++ [(4, S2, S3)], os)) := hB
          have HBlw15 : Hid (Below lo w w15) := HBlw14.out.trans hbl'
          have HSw15 : Hid (w15.ownsRow w.heap.size 3 1 (.slice va0 j vc0) j (cellsI SL)) := own_keepT HSw14.out hk'
          clear hB hbl' hk' HBw14 HBlw14 HSw14
          have own6 := World.ownsRow.alloc HSw15.out (.cells #[.int .i64 S1] 3)
          have hb6 : Hid (Below lo w (w15.alloc (.cells #[.int .i64 S1] 3))) := HBlw15.out.alloc (by have := HBlw15.out.size; omega) _
          have hB6 : Hid (Bld (w15.alloc (.cells #[.int .i64 S1] 3)) lo hi b 99 (ins, G ++ [(5, x, y)] ++ [(5, S0, C)] ++ [(3, x, y)] ++ [(3, S0, C)] ++ [(4, S2, S3)], os)) := by
            obtain ⟨q0, q1, q2, q3, q4, q5, q6⟩ := HBw15.out
            exact ⟨q0, q1, q2, q3.alloc _, q4.alloc _, q5.alloc _, q6⟩
          have hs6 : w.heap.size ≤ (w15.alloc (.cells #[.int .i64 S1] 3)).heap.size := hb6.out.size
          go_wp2_with (at_builtin; refine wpList_append_own _ rfl _ _ 39 rfl w.heap.size 3 i0 (.int .i64 0) 1 8 Tryd.underlying39 hif hz0 hz1 hz2 rfl (by decide) _ _ _ rfl own6 ⟨w15.heap.size, 0, none⟩ 1 1 [.int .i64 S1] rfl rfl (oneI_cells w15 S1) (ints_one [S1]) (by unfold maxLen; omega) (by omega) hs6 ?_)
          intro v7 w7 own7 grow7 _
          have HB7 : Hid (Bld w7 lo hi b 99 (ins, G ++ [(5, x, y)] ++ [(5, S0, C)] ++ [(3, x, y)] ++ [(3, S0, C)] ++ [(4, S2, S3)], os)) := hB6.out.sum own6 hhi (by decide) grow7
          have HBl7 : Hid (Below lo w w7) := hb6.out.grown grow7 (by have := hb6.out.size; omega) (fun kk hk => Nat.le_trans hlo (own_block own6 hk).1)
          have HS7 : Hid (w7.ownsRow w.heap.size 3 1 v7 (j + 1) (cellsI (SL ++ [S1]))) := by
            show w7.ownsRow w.heap.size 3 1 v7 (j + 1) (cellsI (SL ++ [S1]))
            unfold cellsI
            rw [List.map_append]
            exact own7
          obtain ⟨va7, vc7, hv7⟩ := own_shape own7
          subst hv7
          clear own6 hb6 hB6 own7 grow7 HBw15 HBlw15 HSw15
          have HBF : Hid (Bld _ lo hi b 99 (ins, gs ++ (addG (a.take (j + 1)) (bb.take (j + 1)) carry N).1, os)) := (by have h1 := HB7.out; rw [← HNEW.out] at h1; exact h1)
          have HSF : Hid (World.ownsRow _ w.heap.size 3 1 (.slice va7 (j + 1) vc7) (addG (a.take (j + 1)) (bb.take (j + 1)) carry N).2.length (cellsI (addG (a.take (j + 1)) (bb.take (j + 1)) carry N).2)) := (by have h1 := HS7.out; rw [← HNS.out] at h1; rw [show (addG (a.take (j + 1)) (bb.take (j + 1)) carry N).2.length = j + 1 from by rw [HNS.out, List.length_append, hsl]; rfl]; exact h1)
          clear HNEW HNS HAC HBC HB7 HS7
          go_wp2_with fail
          go_roundw
          case rel => exact ⟨j + 1, by omega, by go_num, by rw [HON.out], HSF, HBF, HBl7⟩
          case measure => simp [intOf]; omega
    · obtain rfl : j = an := by omega
      have ha1 : a.take j = a := List.take_of_length_le (by have := HAL.out; omega)
      have hb1 : bb.take j = bb := List.take_of_length_le (by have := HBL.out; omega)
      rw [ha1, hb1] at HB HSU
      clear HA HBB ha1 hb1
      go_wp2_with fail
      go_ret
      exact ⟨_, rfl, HSU.out, HB.out, HBl.out⟩
end Go.Proofs.YtpjllhlbdcanlaaDoor

namespace Go.Proofs.YtpjllhlbdcanlaaDoor
open Go Go.RowKit
open M
set_option linter.unusedVariables false
set_option linter.unusedSimpArgs false

/-- how many wires a circuit has -/
def wiresN (c : Ci) : Int := c.1 + c.2.1.length
def sidesB (c : Ci) (a b : List Int) : Bool := goodC c && (decide (a.length = b.length) && (decide (a.length ≤ 16) && (a.all (inB (wiresN c)) && b.all (inB (wiresN c)))))
end Go.Proofs.YtpjllhlbdcanlaaDoor

namespace Go.Proofs.YtpjllhlbdcanlaaDoor
open Go Go.RowKit
open M
set_option linter.unusedVariables false
set_option linter.unusedSimpArgs false

theorem gates_from {w : World} {g : Nat} {t : List Gt} (hc : ∀ (i : Nat) (x : Gt), t[i]? = some x → GateAt w g (0 + i * 3) x) : ∀ (j : Nat) (u : Value), (flat3 t)[j]? = some u → w.cell? ((⟨g, 0, none⟩ : Addr).add j) = some u := by
  intro j u hu
  have hj : j < (flat3 t).length := (List.getElem?_eq_some_iff.1 hu).1
  rw [flat3_len] at hj
  have hi : j / 3 < t.length := by omega
  obtain ⟨x, hx⟩ : ∃ x, t[j / 3]? = some x := ⟨t[j / 3], List.getElem?_eq_getElem hi⟩
  obtain ⟨e0, e1, e2⟩ := flat3_at t (j / 3) x hx
  obtain ⟨d0, d1, d2⟩ := hc (j / 3) x hx
  have ea : (⟨g, 0, none⟩ : Addr).add j = ⟨g, j, none⟩ := by
    unfold Addr.add
    by_cases h0 : j = 0
    · subst h0
      simp
    · simp [h0]
  rw [ea]
  rw [Nat.zero_add] at d0 d1 d2
  have hr : j % 3 = 0 ∨ j % 3 = 1 ∨ j % 3 = 2 := by omega
  rcases hr with h | h | h
  · rw [show j / 3 * 3 = j from by omega] at e0 d0
    rw [hu] at e0
    rw [d0, e0]
  · rw [show j / 3 * 3 + 1 = j from by omega] at e1 d1
    rw [hu] at e1
    rw [d1, e1]
  · rw [show j / 3 * 3 + 2 = j from by omega] at e2 d2
    rw [hu] at e2
    rw [d2, e2]
/-- what is appended to a list of one's own: nothing, or a row -/
def Src (w : World) (v : Value) (n : Nat) (xs : List Value) : Prop := (n = 0 ∧ xs = [] ∧ v = .slice none 0 0) ∨ ∃ g cap : Nat, v = .slice (some ⟨g, 0, none⟩) n cap ∧ g < w.heap.size ∧ ∀ (j : Nat) (u : Value), xs[j]? = some u → w.cell? ((⟨g, 0, none⟩ : Addr).add j) = some u
theorem src_gates {w : World} {v : Value} {t : List Gt} (h1 : GatesAt w v t) (h2 : Strong w v t.length) : Src w v t.length (flat3 t) := by
  rcases strong_gates h1 h2 with ⟨e, hv⟩ | ⟨g, cap, hv, hg, _, hc⟩
  · subst e
    exact Or.inl ⟨rfl, rfl, hv⟩
  · exact Or.inr ⟨g, cap, hv, hg, gates_from hc⟩
theorem src_ints {w : World} {v : Value} {t : List Int} (h1 : IntsAt w v t) (h2 : Strong w v t.length) : Src w v t.length (cellsI t) := by
  rcases strong_ints h1 h2 with ⟨e, hv⟩ | ⟨g, cap, hv, hg, _, hc⟩
  · subst e
    exact Or.inl ⟨rfl, rfl, hv⟩
  · exact Or.inr ⟨g, cap, hv, hg, ints_from hc⟩
theorem Src.below {w w' : World} {v : Value} {n : Nat} {xs : List Value} (h : Src w v n xs) (hb : Below w.heap.size w w') : Src w' v n xs := by
  rcases h with h | ⟨g, cap, hv, hg, hc⟩
  · exact Or.inl h
  · refine Or.inr ⟨g, cap, hv, Nat.lt_of_lt_of_le hg hb.size, fun j u hu => ?_⟩
    have h1 := hc j u hu
    have hsp : ((⟨g, 0, none⟩ : Addr).add j).block = g := by unfold Addr.add; split <;> rfl
    rw [hb.cell (p := (⟨g, 0, none⟩ : Addr).add j) (by rw [hsp]; exact hg)]
    exact h1
theorem wp_append_src {P : Program} {o : Oper} {a : Act} {w : World} {K : Act → World → Prop} {Q : Exit → Act → World → Prop} (s x : Operand) (t : TypeId)
    (ho : o.op = .call { callee := .builtin .append, args := #[s, x], argTypes := #[t, t] })
    (base : Nat) (e : TypeId) (i : TypeInfo) (z : Value) (size bytes : Nat) (ht : P.underlying t = some (.slice e)) (hi : P.info? e = some i) (hz : i.zero = some z)
    (hsize : i.size = size) (hby : i.bytes = bytes) (hzs : z.cells.size = size) (hsz : 0 < size)
    (v : Value) (n : Nat) (xs : List Value) (hs : a.eval s = v) (hown : w.ownsRow base e size v n xs)
    (u : Value) (m : Nat) (news : List Value) (hx : a.eval x = u) (hsrc : Src w u m news) (hl : news.length = m * size) (h1 : ∀ u ∈ news, u.oneCell' = true)
    (h63 : n + m ≤ maxLen) (hbytes : (n + m) * bytes ≤ 140737488355328) (hbase : base ≤ w.heap.size)
    (h : ∀ v' w', w'.ownsRow base e size v' (n + m) (xs ++ news) → w.grownBy w' v.ownBlock → K (a.put o.dst v') w') : o.wp P a w K Q := by
  rcases hsrc with ⟨rfl, rfl, rfl⟩ | ⟨g, cap, rfl, _, hc⟩
  · have hrun := run_append_owned_none (P := P) (w := w) base t o.type e i size ht hi v n xs hown
    unfold Oper.wp
    simp [execOp, ho, resolve, invoke, builtin, hs, hx, hrun, Result.andThen]
    refine h v w ?_ (grown_refl _ _)
    rw [List.append_nil]
    exact hown
  · exact wp_append_own w s x t ho base e i z size bytes ht hi hz hsize hby hzs hsz v n xs hs hown ⟨g, 0, none⟩ m cap news hx hl hc h1 h63 hbytes hbase (fun v' w' h2 h3 _ => h v' w' h2 h3)
theorem step_append_src {P : Program} {ops : Array Oper} {o : Oper} {a : Act} {w : World} {K : Act → World → Prop} {Q : Exit → Act → World → Prop} {E : Prop} (hgd : o.guard = none) (s x : Operand) (t : TypeId)
    (ho : o.op = .call { callee := .builtin .append, args := #[s, x], argTypes := #[t, t] })
    (base : Nat) (e : TypeId) (i : TypeInfo) (z : Value) (size bytes : Nat) (ht : P.underlying t = some (.slice e)) (hi : P.info? e = some i) (hz : i.zero = some z)
    (hsize : i.size = size) (hby : i.bytes = bytes) (hzs : z.cells.size = size) (hsz : 0 < size)
    (v : Value) (n : Nat) (xs : List Value) (hs : a.eval s = v) (hown : w.ownsRow base e size v n xs)
    (u : Value) (m : Nat) (news : List Value) (hx : a.eval x = u) (hsrc : Src w u m news) (hl : news.length = m * size) (h1 : ∀ u ∈ news, u.oneCell' = true)
    (h63 : n + m ≤ maxLen) (hbytes : (n + m) * bytes ≤ 140737488355328) (hbase : base ≤ w.heap.size)
    (h : ∀ v' w', w'.ownsRow base e size v' (n + m) (xs ++ news) → w.grownBy w' v.ownBlock → K (a.put o.dst v') w') :
    if Region.wanted o (yielded ops a.tmps) = true then Oper.wp P o a w K Q else E := by
  have hw : Region.wanted o (yielded ops a.tmps) = true := by simp [Region.wanted, hgd]
  rw [if_pos hw]
  exact wp_append_src s x t ho base e i z size bytes ht hi hz hsize hby hzs hsz v n xs hs hown u m news hx hsrc hl h1 h63 hbytes hbase h
theorem wpList_append_src {P : Program} {ops : Array Oper} {rest : List Oper} {o : Oper} {a : Act} {w : World} {Q : Exit → Act → World → Prop} (hgd : o.guard = none) (s x : Operand) (t : TypeId)
    (ho : o.op = .call { callee := .builtin .append, args := #[s, x], argTypes := #[t, t] })
    (base : Nat) (e : TypeId) (i : TypeInfo) (z : Value) (size bytes : Nat) (ht : P.underlying t = some (.slice e)) (hi : P.info? e = some i) (hz : i.zero = some z)
    (hsize : i.size = size) (hby : i.bytes = bytes) (hzs : z.cells.size = size) (hsz : 0 < size)
    (v : Value) (n : Nat) (xs : List Value) (hs : a.eval s = v) (hown : w.ownsRow base e size v n xs)
    (u : Value) (m : Nat) (news : List Value) (hx : a.eval x = u) (hsrc : Src w u m news) (hl : news.length = m * size) (h1 : ∀ u ∈ news, u.oneCell' = true)
    (h63 : n + m ≤ maxLen) (hbytes : (n + m) * bytes ≤ 140737488355328) (hbase : base ≤ w.heap.size)
    (h : ∀ v' w', w'.ownsRow base e size v' (n + m) (xs ++ news) → w.grownBy w' v.ownBlock → wpList P ops Q rest (a.put o.dst v') w') : wpList P ops Q (o :: rest) a w :=
  wpList_plain hgd fun _ hK => wp_append_src s x t ho base e i z size bytes ht hi hz hsize hby hzs hsz v n xs hs hown u m news hx hsrc hl h1 h63 hbytes hbase (fun v' w' h2 h3 => hK _ _ (h v' w' h2 h3))
theorem Src.grown {w w' : World} {v : Value} {n : Nat} {xs : List Value} (h : Src w v n xs) (g : w.grownBy w' none) : Src w' v n xs := h.below ((Below.refl _ _).grown g (Nat.le_refl _) (fun k hk => by cases hk))
theorem Src.drew {w : World} {v : Value} {n : Nat} {xs : List Value} (h : Src w v n xs) : Src w.drew v n xs := h
end Go.Proofs.YtpjllhlbdcanlaaDoor

namespace Go.Proofs.YtpjllhlbdcanlaaDoor
open Go Go.RowKit
open M
set_option linter.unusedVariables false
set_option linter.unusedSimpArgs false

theorem pick_low (b : Nat) (n : Int) (hn : n ≤ 1) (w : World) :
    Calls Tryd.prog 38 #[.pointer (some ⟨b, 0, none⟩), .int .i64 n] w fun e w' => e = .returned (.int .i64 0) ∧ w' = w := by
  go_enter Tryd.func38, Tryd.ntmps38
  go_wp2_with fail
  go_ret
  exact ⟨rfl, rfl⟩
/-- a number from nought on, below n or nought -/
theorem pick_all (B b m : Nat) (sv : Value) (n : Int) (hn1 : n ≤ 4611686018427387904) (w : World) (h : Cur B b m sv w) (hm : m ≤ 4611686018427387900) :
    Calls Tryd.prog 38 #[.pointer (some ⟨b, 0, none⟩), .int .i64 n] w fun e w' => ∃ x : Int, (0 ≤ x ∧ (x < n ∨ x = 0)) ∧ e = .returned (.int .i64 x) ∧ Only b w w' ∧ Cur B b (m + 2) sv w' := by
  by_cases hn : 1 ≤ n
  · refine (pick_any B b m sv n hn hn1 w h hm).mono ?_
    rintro e w' ⟨x, ⟨h0, h1⟩, he, ho, hc⟩
    exact ⟨x, ⟨h0, Or.inl h1⟩, he, ho, hc⟩
  · refine (pick_low b n (by omega) w).mono ?_
    rintro e w' ⟨he, rfl⟩
    exact ⟨0, ⟨by omega, Or.inr rfl⟩, he, Only.refl _ _, h.more (by omega)⟩
theorem Only.keeps {b : Nat} {w w' : World} (h : Only b w w') {B n : Nat} {e : TypeId} {s : Nat} {v : Value} {xs : List Value} (ho : w.ownsRow B e s v n xs) (hb : b < B) : w'.ownsRow B e s v n xs :=
  own_keep ho (fun g hg => h.block g (by have := (own_block ho hg).1; omega) (own_block ho hg).2)
theorem Only.box {b c : Nat} {w w' : World} (h : Only b w w') {e : TypeId} {x y z : Value} (hx : Box3 w c e x y z) (hb : c ≠ b) : Box3 w' c e x y z := ⟨by rw [h.block c hb hx.lt]; exact hx.heap⟩
theorem Only.grown {b : Nat} {u w w' : World} {row : Option Nat} (h : Only b u w) (g : w.grownBy w' row) (hr : ∀ k, row = some k → u.heap.size ≤ k) : Only b u w' :=
  ⟨g.os.trans h.os, g.tape.trans h.tape, g.output.trans h.output, Nat.le_trans h.size g.size, fun i hi hs => (g.block i (Nat.lt_of_lt_of_le hs h.size) (fun e => by have := hr i e.symm; omega)).trans (h.block i hi hs)⟩
theorem Only.step {b : Nat} {u w w' : World} (h : Only b u w) (k : Below w.heap.size w w') : Only b u w' := h.trans ⟨k.os, k.tape, k.output, k.size, fun i _ hs => k.block i hs⟩
theorem Cur.grown {B b m : Nat} {sv : Value} {w w' : World} {row : Option Nat} (h : Cur B b m sv w) (g : w.grownBy w' row) (hr : ∀ k, row = some k → b < k) : Cur B b m sv w' :=
  h.below ((Below.refl _ _).grown g h.lies (fun k hk => hr k hk))
end Go.Proofs.YtpjllhlbdcanlaaDoor

namespace Go.Proofs.YtpjllhlbdcanlaaDoor
open Go Go.RowKit
open M
set_option linter.unusedVariables false

def marksU (k : Int) (n : Nat) : List Value := (List.range n).map fun i : Nat => Value.int .u64 (k + (i : Int))
theorem marksU_len (k : Int) (n : Nat) : (marksU k n).length = n := by simp [marksU]
theorem marksU_at (k : Int) (n i : Nat) (h : i < n) : (marksU k n)[i]? = some (.int .u64 (k + i)) := by simp [marksU, h]
theorem marksU_set (k : Int) (n j : Nat) (xs : List Value) (hx : xs.length = n) (hj : j < n) : (marksU k j ++ xs.drop j).set j (.int .u64 (k + j)) = marksU k (j + 1) ++ xs.drop (j + 1) := by
  rw [List.set_append_right _ _ (by rw [marksU_len]; omega), marksU_len, Nat.sub_self]
  have e1 : marksU k (j + 1) = marksU k j ++ [.int .u64 (k + j)] := by simp [marksU, List.range_succ]
  rw [e1, List.append_assoc]
  congr 1
  rw [List.drop_eq_getElem_cons (by omega)]
  rfl
set_option maxRecDepth 100000 in
set_option maxHeartbeats 1000000 in
theorem markUint64S_own (g cap base n : Nat) (e : TypeId) (xs : List Value) (k : Int) (hn : n ≤ 1000000000000) (hk0 : 0 ≤ k) (hk : k ≤ 1000000000000) (w : World) (hown : w.ownsRow base e 1 (.slice (some ⟨g, 0, none⟩) n cap) n xs) :
    Calls Tryd.prog 29 #[.slice (some ⟨g, 0, none⟩) n cap, .int .i64 k] w fun e' w' => e' = .returned (.int .i64 (k + n)) ∧ w'.ownsRow base e 1 (.slice (some ⟨g, 0, none⟩) n cap) n (marksU k n) ∧ w.grownBy w' (some g) := by
  have hxl : xs.length = n := by have := hown.1; omega
  go_enter Tryd.func29, Tryd.ntmps29
  go_wp2_with fail
  go_loopw [1, 5] (fun m i wr => ∃ j : Nat, j ≤ n ∧ i = .int .i64 j ∧ m = .int .i64 (k + j) ∧ Hid (wr.ownsRow base e 1 (.slice (some ⟨g, 0, none⟩) n cap) n (marksU k j ++ xs.drop j)) ∧ Hid (w.grownBy wr (some g))) (fun _ i _ => n - (intOf i).toNat)
  case atStart => exact ⟨0, by omega, rfl, by simp, hown, grown_refl _ _⟩
  case round =>
    obtain ⟨j, hj, rfl, rfl, HO, HG⟩ := hrel
    by_cases hlt : j < n
    · have own2 := HO.out
      have hlen := own2.1
      obtain ⟨u0, hu0⟩ : ∃ u0, (marksU k j ++ xs.drop j)[j]? = some u0 := ⟨_, List.getElem?_eq_getElem (by omega)⟩
      have d0 : wr.cell? ⟨g, j, none⟩ = some u0 := by rw [own2.cellAt j (by omega)]; exact hu0
      have f0 := own2.frozenAt j
      have st := own2.stored j (.int .u64 (k + j))
      have HN : Hid ((wr.setCell ⟨g, j, none⟩ (.int .u64 (k + j))).ownsRow base e 1 (.slice (some ⟨g, 0, none⟩) n cap) n (marksU k (j + 1) ++ xs.drop (j + 1))) := by
        have h1 := st.1
        rw [marksU_set k n j xs hxl hlt] at h1
        exact h1
      have HG2 : Hid (w.grownBy (wr.setCell ⟨g, j, none⟩ (.int .u64 (k + j))) (some g)) := grown_trans HG.out st.2
      clear own2 st hlen hu0 HO HG hown
      go_wp2_with fail
      go_roundw
      case rel => exact ⟨j + 1, by omega, by go_num, by go_num, HN, HG2⟩
      case measure => simp [intOf]; omega
    · obtain rfl : j = n := by omega
      have HN : Hid (wr.ownsRow base e 1 (.slice (some ⟨g, 0, none⟩) j cap) j (marksU k j)) := by
        have h1 := HO.out
        rw [List.drop_of_length_le (by omega), List.append_nil] at h1
        exact h1
      clear HO hown
      go_wp2_with fail
      go_ret
      exact ⟨rfl, HN.out, HG.out⟩
theorem markUint64S_nil (a : Option Addr) (cap : Nat) (k : Int) (w : World) :
    Calls Tryd.prog 29 #[.slice a 0 cap, .int .i64 k] w fun e' w' => e' = .returned (.int .i64 k) ∧ w' = w := by
  go_enter Tryd.func29, Tryd.ntmps29
  go_wp2_with fail
  go_loop [1, 5] (fun m i => i = .int .i64 0 ∧ m = .int .i64 k) (fun _ _ => 0)
  case atStart => exact ⟨rfl, rfl⟩
  case round =>
    obtain ⟨rfl, rfl⟩ := hrel
    go_wp2_with fail
    go_ret
    exact ⟨rfl, rfl⟩
theorem markUint64S_any (v : Value) (base n : Nat) (e : TypeId) (xs : List Value) (k : Int) (hn : n ≤ 1000000000000) (hk0 : 0 ≤ k) (hk : k ≤ 1000000000000) (w : World) (hown : w.ownsRow base e 1 v n xs) :
    Calls Tryd.prog 29 #[v, .int .i64 k] w fun e' w' => e' = .returned (.int .i64 (k + n)) ∧ w'.ownsRow base e 1 v n (marksU k n) ∧ w.grownBy w' v.ownBlock := by
  rcases hown.2 with ⟨rfl, rfl⟩ | ⟨g, cap, cur, rfl, _⟩
  · refine (markUint64S_nil none 0 k w).mono ?_
    rintro e' w' ⟨he, rfl⟩
    exact ⟨by rw [he]; exact ret_int (by omega), ⟨rfl, Or.inl ⟨rfl, rfl⟩⟩, grown_refl _ _⟩
  · exact markUint64S_own g cap base n e xs k hn hk0 hk w hown
/-- a slice whose elements are these words -/
def WordsAt (w : World) (v : Value) (t : List Int) : Prop := (∀ s ∈ t, 0 ≤ s ∧ s ≤ 18446744073709551615) ∧ t.length ≤ 9223372036854775807 ∧ StAt w v t
theorem WordsAt.below {w w' : World} {v : Value} {t : List Int} (h : WordsAt w v t) (hb : Below w.heap.size w w') : WordsAt w' v t := ⟨h.1, h.2.1, h.2.2.below hb⟩
theorem WordsAt.shape {w : World} {v : Value} {t : List Int} (h : WordsAt w v t) : ∃ (a : Option Addr) (cap : Nat), v = .slice a t.length cap := h.2.2.shape
def WsOk (t : List Int) : Prop := (∀ s ∈ t, 0 ≤ s ∧ s ≤ 18446744073709551615) ∧ t.length ≤ 1048576
def OwnUS (w : World) (lo hi : Nat) (v : Value) (t : List Int) : Prop := RowIn w lo hi 55 1 v t.length (cellsU t)
def MarkUS (w : World) (lo hi : Nat) (v : Value) (t : List Int) (k : Int) : Prop := RowIn w lo hi 55 1 v t.length (marksU k t.length)
theorem OwnUS.same {w w' : World} {lo hi : Nat} {v : Value} {c : List Int} (h : OwnUS w lo hi v c) (hs : w.heap.size ≤ w'.heap.size) (hb : ∀ i, lo ≤ i → i < hi → w'.heap[i]? = w.heap[i]?) : OwnUS w' lo hi v c := RowIn.same h hs hb
theorem MarkUS.same {w w' : World} {lo hi : Nat} {v : Value} {c : List Int} {k : Int} (h : MarkUS w lo hi v c k) (hs : w.heap.size ≤ w'.heap.size) (hb : ∀ i, lo ≤ i → i < hi → w'.heap[i]? = w.heap[i]?) : MarkUS w' lo hi v c k := RowIn.same h hs hb
theorem OwnUS.hi {w : World} {lo hi : Nat} {v : Value} {c : List Int} (h : OwnUS w lo hi v c) : hi ≤ w.heap.size := h.2.2
theorem MarkUS.hi {w : World} {lo hi : Nat} {v : Value} {c : List Int} {k : Int} (h : MarkUS w lo hi v c k) : hi ≤ w.heap.size := h.2.2
theorem OwnUS.reads {w : World} {lo hi : Nat} {v : Value} {c : List Int} (h : OwnUS w lo hi v c) (ok : WsOk c) : WordsAt w v c := ⟨ok.1, by have := ok.2; omega, st_of_own h.1⟩
theorem OwnUS.shape {w : World} {lo hi : Nat} {v : Value} {c : List Int} (h : OwnUS w lo hi v c) : ∃ a n cap, v = .slice a n cap := by
  obtain ⟨a, cap, e⟩ := own_shape h.1
  exact ⟨a, _, cap, e⟩
def AtUS (w : World) (v : Value) (t : List Int) : Prop := WordsAt w v t ∧ Strong w v t.length
theorem AtUS.below {w w' : World} {v : Value} {t : List Int} (h : AtUS w v t) (hb : Below w.heap.size w w') : AtUS w' v t := ⟨h.1.below hb, h.2.below hb⟩
theorem OwnUS.hands {w : World} {lo hi : Nat} {v : Value} {c : List Int} (h : OwnUS w lo hi v c) (ok : WsOk c) : AtUS w v c := ⟨h.reads ok, strong_of h.1⟩
theorem toUS_any (v : Value) (t : List Int) (hl : WsOk t) (w : World) (h : WordsAt w v t) :
    Calls Tryd.prog 26 #[v] w fun e w' => ∃ v', e = .returned v' ∧ OwnUS w' w.heap.size w'.heap.size v' t ∧ Below w.heap.size w w' := by
  refine (toUint64S_any v t hl.2 w h.2.2).mono ?_
  rintro e w' ⟨v', he, ho, hb⟩
  exact ⟨v', he, rowIn_of ho, hb⟩
theorem eqUS_any (u v : Value) (s t : List Int) (w : World) (h1 : WordsAt w u s) (h2 : WordsAt w v t) :
    Calls Tryd.prog 28 #[u, v] w fun e w' => e = .returned (.bool (decide (s = t))) ∧ Below w.heap.size w w' := eqUint64S_any u v s t w h1.2.1 h2.2.1 h1.2.2 h2.2.2
theorem markUS_any (v : Value) (c : List Int) (lo hi : Nat) (k : Int) (h1 : WsOk c) (hk0 : 0 ≤ k) (hk : k ≤ 100000000000) (w : World) (h : OwnUS w lo hi v c) :
    Calls Tryd.prog 29 #[v, .int .i64 k] w fun e w' => e = .returned (.int .i64 (k + c.length)) ∧ MarkUS w' lo hi v c k ∧ Touch lo hi w w' := by
  have := h1.2
  refine (markUint64S_any v _ _ _ _ k (by omega) hk0 (by omega) w h.1).mono ?_
  rintro e w' ⟨he, m, gr⟩
  exact ⟨he, RowIn.marked h m gr, touch_of_grown gr (fun k hk => ⟨(own_block h.1 hk).1, h.2.1 k hk⟩)⟩
/-- bools, with as much room as there are -/
def CapV (v : Value) : Prop := ∀ (a : Option Addr) (n c : Nat), v = .slice a n c → n ≤ c
theorem capV_of_own {w : World} {B : Nat} {e : TypeId} {s : Nat} {v : Value} {n : Nat} {xs : List Value} (h : w.ownsRow B e s v n xs) : CapV v := by
  intro a m c e1
  rcases h.2 with ⟨h1, h2⟩ | ⟨g, cap, cur, h1, _, _, h4, _⟩
  · rw [h1] at e1
    injection e1 with _ e2 e3
    omega
  · rw [h1] at e1
    injection e1 with _ e2 e3
    omega
def AtBC (w : World) (v : Value) (t : List Bool) : Prop := AtBS w v t ∧ CapV v
theorem AtBC.below {w w' : World} {v : Value} {t : List Bool} (h : AtBC w v t) (hb : Below w.heap.size w w') : AtBC w' v t := ⟨h.1.below hb, h.2⟩
theorem OwnBS.handsC {w : World} {lo hi : Nat} {v : Value} {c : List Bool} (h : OwnBS w lo hi v c) (ok : c.length ≤ 1048576) : AtBC w v c := ⟨h.hands ok, capV_of_own h.1⟩
/-- nodes -/
def NsOk (t : List Nd) : Prop := (∀ x ∈ t, NdOk x) ∧ t.length ≤ 1048576
def OwnNS (w : World) (lo hi : Nat) (v : Value) (t : List Nd) : Prop := RowIn w lo hi 80 2 v t.length (flat t)
def MarkNS (w : World) (lo hi : Nat) (v : Value) (t : List Nd) (k : Int) : Prop := RowIn w lo hi 80 2 v t.length (marks2 k t.length)
theorem OwnNS.same {w w' : World} {lo hi : Nat} {v : Value} {c : List Nd} (h : OwnNS w lo hi v c) (hs : w.heap.size ≤ w'.heap.size) (hb : ∀ i, lo ≤ i → i < hi → w'.heap[i]? = w.heap[i]?) : OwnNS w' lo hi v c := RowIn.same h hs hb
theorem MarkNS.same {w w' : World} {lo hi : Nat} {v : Value} {c : List Nd} {k : Int} (h : MarkNS w lo hi v c k) (hs : w.heap.size ≤ w'.heap.size) (hb : ∀ i, lo ≤ i → i < hi → w'.heap[i]? = w.heap[i]?) : MarkNS w' lo hi v c k := RowIn.same h hs hb
theorem OwnNS.hi {w : World} {lo hi : Nat} {v : Value} {c : List Nd} (h : OwnNS w lo hi v c) : hi ≤ w.heap.size := h.2.2
theorem MarkNS.hi {w : World} {lo hi : Nat} {v : Value} {c : List Nd} {k : Int} (h : MarkNS w lo hi v c k) : hi ≤ w.heap.size := h.2.2
theorem OwnNS.reads {w : World} {lo hi : Nat} {v : Value} {c : List Nd} (h : OwnNS w lo hi v c) (ok : NsOk c) : NodesAt w v c := nodes_of_own ok.1 (by have := ok.2; omega) h.1
theorem OwnNS.shape {w : World} {lo hi : Nat} {v : Value} {c : List Nd} (h : OwnNS w lo hi v c) : ∃ a n cap, v = .slice a n cap := by
  obtain ⟨a, cap, e⟩ := own_shape h.1
  exact ⟨a, _, cap, e⟩
def AtNS (w : World) (v : Value) (t : List Nd) : Prop := NodesAt w v t ∧ Strong w v t.length
theorem AtNS.below {w w' : World} {v : Value} {t : List Nd} (h : AtNS w v t) (hb : Below w.heap.size w w') : AtNS w' v t := ⟨h.1.below hb, h.2.below hb⟩
theorem OwnNS.hands {w : World} {lo hi : Nat} {v : Value} {c : List Nd} (h : OwnNS w lo hi v c) (ok : NsOk c) : AtNS w v c := ⟨h.reads ok, strong_of h.1⟩
theorem toNS_any (v : Value) (t : List Nd) (hl : NsOk t) (w : World) (h : NodesAt w v t) :
    Calls Tryd.prog 19 #[v] w fun e w' => ∃ v', e = .returned v' ∧ OwnNS w' w.heap.size w'.heap.size v' t ∧ Below w.heap.size w w' := by
  refine (toNodeS_any v t hl.2 w h).mono ?_
  rintro e w' ⟨v', he, ho, hb⟩
  exact ⟨v', he, rowIn_of ho, hb⟩
theorem markNS_any (v : Value) (c : List Nd) (lo hi : Nat) (k : Int) (h1 : NsOk c) (hk0 : 0 ≤ k) (hk : k ≤ 100000000000) (w : World) (h : OwnNS w lo hi v c) :
    Calls Tryd.prog 23 #[v, .int .i64 k] w fun e w' => e = .returned (.int .i64 (k + 2 * c.length)) ∧ MarkNS w' lo hi v c k ∧ Touch lo hi w w' := by
  have := h1.2
  refine (markNodeS_any v _ _ _ _ k (by omega) hk0 (by omega) w h.1).mono ?_
  rintro e w' ⟨he, m, gr⟩
  exact ⟨he, RowIn.marked h m gr, touch_of_grown gr (fun k hk => ⟨(own_block h.1 hk).1, h.2.1 k hk⟩)⟩
/-- sizes, as the laws count them -/
theorem szNS_small (v : Value) (t : List Nd) (h : t.length ≤ 1048576) (w : World) (hn : NodesAt w v t) :
    Calls Tryd.prog 17 #[v, .int .i64 1048576] w fun e w' => e = .returned (.int .i64 (1048576 - (t.length : Int))) ∧ Below w.heap.size w w' := by
  obtain ⟨ad, cap, hsh⟩ := hn.shape
  have g := szNodeS_any ad t.length cap 1048576 (by omega) (by omega) (by omega) w
  rw [if_neg (by omega), ← hsh] at g
  exact g.mono fun e w' ⟨he, hw⟩ => ⟨he, by rw [hw]; exact Below.refl _ _⟩
theorem szNS_big (v : Value) (t : List Nd) (h : 1048576 < t.length) (w : World) (hn : NodesAt w v t) :
    Calls Tryd.prog 17 #[v, .int .i64 1048576] w fun e w' => e = .returned (.int .i64 (-1)) ∧ Below w.heap.size w w' := by
  obtain ⟨ad, cap, hsh⟩ := hn.shape
  have hl := hn.2.1
  have g := szNodeS_any ad t.length cap 1048576 (by omega) (by omega) (by omega) w
  rw [if_pos (by omega), ← hsh] at g
  exact g.mono fun e w' ⟨he, hw⟩ => ⟨he, by rw [hw]; exact Below.refl _ _⟩
end Go.Proofs.YtpjllhlbdcanlaaDoor

namespace Go.Proofs.YtpjllhlbdcanlaaDoor
open Go Go.RowKit
open M
set_option linter.unusedVariables false
set_option linter.unusedSimpArgs false

set_option maxRecDepth 100000 in
set_option maxHeartbeats 4000000 in
theorem bools_any (B b m : Nat) (sv : Value) (many : Nat) (hmany : many ≤ 1000) (w : World) (h : Cur B b m sv w) (hm : m ≤ 4611686018427380000) :
    Calls Tryd.prog 47 #[.pointer (some ⟨b, 0, none⟩), .int .i64 many] w fun e w' => ∃ r t, e = .returned r ∧ t.length = many ∧ w'.ownsRow w.heap.size 4 1 r t.length (cellsB t) ∧ Only b w w' ∧ Cur B b (m + 2 * many) sv w' := by
  obtain ⟨i0, hif, hz0, hz1, hz2⟩ := info_parts infoBool
  have hlies := h.lies
  have HC0 : Hid _ := h
  clear h
  go_enter Tryd.func47, Tryd.ntmps47
  go_wp2_with fail
  go_loopw [1, 5] (fun vm vl wr => ∃ (j : Nat) (t : List Bool), j ≤ many ∧ vm = .int .i64 ((many : Int) - j) ∧ t.length = j ∧ Hid (wr.ownsRow w.heap.size 4 1 vl t.length (cellsB t)) ∧ Hid (Only b w wr) ∧ Hid (Cur B b (m + 2 * j) sv wr)) (fun vm _ _ => (intOf vm).toNat)
  case atStart => exact ⟨0, [], by omega, by simp, rfl, World.ownsRow_nil _ _ _ _, Only.refl _ _, HC0⟩
  case round =>
    clear HC0
    obtain ⟨j, t, hj, rfl, htl, HO, HN, HC⟩ := hrel
    by_cases hlt : j < many
    · have g1 := one_any B b (m + 2 * j) sv 2 (by omega) (by omega) wr HC.out (by omega)
      have hpos : (0 : Int) < (many : Int) - j := by omega
      obtain ⟨va, vc, hv⟩ := own_shape HO.out
      subst hv
      rw [htl] at HO
      rw [htl]
      go_wp2_with fail
      refine g1.mono ?_
      rintro e w1 ⟨x, rfl, ho1, hc1⟩
      have own1 := ho1.keeps HO.out hlies
      have own6 := own1.alloc (.cells #[.bool x] 4)
      have hon : Only b w (w1.alloc (.cells #[.bool x] 4)) := (HN.out.trans ho1).alloc _
      have hcu : Cur B b (m + 2 * j + 2) sv (w1.alloc (.cells #[.bool x] 4)) := hc1.alloc _
      have hs6 : w.heap.size ≤ (w1.alloc (.cells #[.bool x] 4)).heap.size := hon.size
      clear g1 HO HC HN ho1 hc1 own1
      go_wp2_with (at_builtin; refine wpList_append_own _ rfl _ _ 27 rfl w.heap.size 4 i0 (.bool false) 1 1 Tryd.underlying27 hif hz0 hz1 hz2 rfl (by decide) _ _ _ rfl own6 ⟨w1.heap.size, 0, none⟩ 1 1 [.bool x] rfl rfl (oneB_cells w1 x) (bools_one [x]) (by unfold maxLen; omega) (by omega) hs6 ?_)
      intro v7 w7 own7 grow7 _
      have HO7 : Hid (w7.ownsRow w.heap.size 4 1 v7 (t ++ [x]).length (cellsB (t ++ [x]))) := by
        show w7.ownsRow w.heap.size 4 1 v7 (t ++ [x]).length (cellsB (t ++ [x]))
        unfold cellsB
        rw [List.length_append, List.map_append, htl]
        exact own7
      have HN7 : Hid (Only b w w7) := hon.grown grow7 (fun k hk => (own_block own6 hk).1)
      have HC7 : Hid (Cur B b (m + 2 * (j + 1)) sv w7) := (hcu.grown grow7 (fun k hk => by have := (own_block own6 hk).1; omega)).more (by omega)
      have htl2 : (t ++ [x]).length = j + 1 := by rw [List.length_append, htl]; rfl
      clear own6 own7 grow7 hon hcu
      go_wp2_with fail
      go_roundw
      case rel => exact ⟨j + 1, t ++ [x], by omega, by go_num, htl2, HO7, HN7, HC7⟩
      case measure => simp [intOf]; omega
    · obtain rfl : j = many := by omega
      have hz : ((j : Int) - j) = 0 := by omega
      rw [hz]
      go_wp2_with fail
      go_ret
      exact ⟨_, t, rfl, htl, HO.out, HN.out, HC.out⟩
set_option maxRecDepth 100000 in
set_option maxHeartbeats 2000000 in
theorem drawBitsOf_any (ad : Option Addr) (l cc : Nat) (w : World) (h : CodeOk w.heap.size w (.slice ad l cc)) :
    Calls Tryd.prog 9 #[.slice ad l cc] w fun e w' => ∃ (W : Nat) (v : Value) (st : List Int), e = .returned (.tuple #[.int .i64 W, v]) ∧ W ≤ 5 ∧ st.length ≤ 5 ∧ WsOk st ∧ OwnUS w' w.heap.size w'.heap.size v st ∧ Below w.heap.size w w' := by
  have hc := cur_new5 w (.slice ad l cc) h
  have hb0 : Below w.heap.size w (w.alloc (.cells #[.slice ad l cc, .int .i64 0, .int .u64 0] 63)) := (Below.refl _ _).alloc (Nat.le_refl _) _
  have hc1 := hc.alloc (.cells #[.int .i64 1, .int .i64 2, .int .i64 3, .int .i64 4, .int .i64 4, .int .i64 5] 3)
  have hb1 := hb0.alloc hb0.size (.cells #[.int .i64 1, .int .i64 2, .int .i64 3, .int .i64 4, .int .i64 4, .int .i64 5] 3)
  have hsz : (w.alloc (.cells #[.slice ad l cc, .int .i64 0, .int .u64 0] 63)).heap.size = w.heap.size + 1 := by simp
  have hlb : ∀ i : Nat, i < 6 → ∃ x : Int, ((w.alloc (.cells #[.slice ad l cc, .int .i64 0, .int .u64 0] 63)).alloc (.cells #[.int .i64 1, .int .i64 2, .int .i64 3, .int .i64 4, .int .i64 4, .int .i64 5] 3)).cell? ⟨(w.alloc (.cells #[.slice ad l cc, .int .i64 0, .int .u64 0] 63)).heap.size, i, none⟩ = some (.int .i64 x) ∧ 0 ≤ x ∧ x ≤ 5 := by
    intro i hi
    rw [World.cell?_alloc_new]
    match i, hi with
    | 0, _ => exact ⟨1, rfl, by omega, by omega⟩
    | 1, _ => exact ⟨2, rfl, by omega, by omega⟩
    | 2, _ => exact ⟨3, rfl, by omega, by omega⟩
    | 3, _ => exact ⟨4, rfl, by omega, by omega⟩
    | 4, _ => exact ⟨4, rfl, by omega, by omega⟩
    | 5, _ => exact ⟨5, rfl, by omega, by omega⟩
  have g1 := among_any _ _ _ (.slice ad l cc) _ 6 6 0 5 (by omega) (by omega) _ hc1 (by omega) (by rw [hsz]; omega) (by simp only [World.size_alloc]; omega) hlb
  rw [hsz] at g1
  clear hc hb0 hc1 hlb h
  go_enter Tryd.func9, Tryd.ntmps9
  go_wp2_with fail
  refine g1.mono ?_
  rintro e w2 ⟨x, ⟨hx0, hx1⟩, rfl, ho2, hc2⟩
  have hb2 := hb1.trans (ho2.below (B := w.heap.size) (Nat.le_refl _) hb1.size)
  obtain ⟨W, rfl⟩ := Int.eq_ofNat_of_zero_le hx0
  have g2 := pick_any _ _ _ _ 6 (by omega) (by omega) _ hc2 (by omega)
  clear g1 hb1 hc2 ho2 hsz
  go_wp2_with fail
  refine g2.mono ?_
  rintro e w3 ⟨p, ⟨hp0, hp1⟩, rfl, ho3, hc3⟩
  have hb3 := hb2.trans (ho3.below (B := w.heap.size) (Nat.le_refl _) hb2.size)
  obtain ⟨P, rfl⟩ := Int.eq_ofNat_of_zero_le hp0
  have g3 := state_any5 _ _ _ _ W P (by omega) (by omega) _ hc3 (by omega)
  clear g2 hb2 hc3 ho3
  go_wp2_with fail
  refine g3.mono ?_
  rintro e w4 ⟨v, st, rfl, hl, hs, ho4, hc4⟩
  have HR : Hid (W ≤ 5 ∧ st.length ≤ 5 ∧ WsOk st ∧ OwnUS w4 w.heap.size w4.heap.size v st ∧ Below w.heap.size w w4) := ⟨by omega, by omega, ⟨hs.2, by omega⟩, rowIn_of (own_base hs.1 hb3.size), hb3.trans (ho4.below (B := w.heap.size) (Nat.le_refl _) hb3.size)⟩
  clear g3 hb3 hs ho4 hc4
  go_wp2_with fail
  go_ret2
  exact ⟨W, v, st, rfl, HR.out⟩
set_option maxRecDepth 100000 in
set_option maxHeartbeats 4000000 in
theorem drawStateFrom_any (ad : Option Addr) (l cc : Nat) (w : World) (h : CodeOk w.heap.size w (.slice ad l cc)) :
    Calls Tryd.prog 15 #[.slice ad l cc] w fun e w' => ∃ (W : Nat) (v : Value) (t : List Bool), e = .returned (.tuple #[.int .i64 W, v]) ∧ W ≤ 5 ∧ t.length ≤ 30 ∧ OwnBS w' w.heap.size w'.heap.size v t ∧ Below w.heap.size w w' := by
  have hc := cur_new5 w (.slice ad l cc) h
  have hb0 : Below w.heap.size w (w.alloc (.cells #[.slice ad l cc, .int .i64 0, .int .u64 0] 63)) := (Below.refl _ _).alloc (Nat.le_refl _) _
  have hc1 := hc.alloc (.cells #[.int .i64 1, .int .i64 2, .int .i64 3, .int .i64 4, .int .i64 4, .int .i64 5, .int .i64 0] 3)
  have hb1 := hb0.alloc hb0.size (.cells #[.int .i64 1, .int .i64 2, .int .i64 3, .int .i64 4, .int .i64 4, .int .i64 5, .int .i64 0] 3)
  have hsz : (w.alloc (.cells #[.slice ad l cc, .int .i64 0, .int .u64 0] 63)).heap.size = w.heap.size + 1 := by simp
  have hlb : ∀ i : Nat, i < 7 → ∃ x : Int, ((w.alloc (.cells #[.slice ad l cc, .int .i64 0, .int .u64 0] 63)).alloc (.cells #[.int .i64 1, .int .i64 2, .int .i64 3, .int .i64 4, .int .i64 4, .int .i64 5, .int .i64 0] 3)).cell? ⟨(w.alloc (.cells #[.slice ad l cc, .int .i64 0, .int .u64 0] 63)).heap.size, i, none⟩ = some (.int .i64 x) ∧ 0 ≤ x ∧ x ≤ 5 := by
    intro i hi
    rw [World.cell?_alloc_new]
    match i, hi with
    | 0, _ => exact ⟨1, rfl, by omega, by omega⟩
    | 1, _ => exact ⟨2, rfl, by omega, by omega⟩
    | 2, _ => exact ⟨3, rfl, by omega, by omega⟩
    | 3, _ => exact ⟨4, rfl, by omega, by omega⟩
    | 4, _ => exact ⟨4, rfl, by omega, by omega⟩
    | 5, _ => exact ⟨5, rfl, by omega, by omega⟩
    | 6, _ => exact ⟨0, rfl, by omega, by omega⟩
  have g1 := among_any _ _ _ (.slice ad l cc) _ 7 7 0 5 (by omega) (by omega) _ hc1 (by omega) (by rw [hsz]; omega) (by simp only [World.size_alloc]; omega) hlb
  rw [hsz] at g1
  clear hc hb0 hc1 hlb h
  go_enter Tryd.func15, Tryd.ntmps15
  go_wp2_with fail
  refine g1.mono ?_
  rintro e w2 ⟨x, ⟨hx0, hx1⟩, rfl, ho2, hc2⟩
  have hb2 := hb1.trans (ho2.below (B := w.heap.size) (Nat.le_refl _) hb1.size)
  obtain ⟨W, rfl⟩ := Int.eq_ofNat_of_zero_le hx0
  have g2 := pick_any _ _ _ _ 6 (by omega) (by omega) _ hc2 (by omega)
  clear g1 hb1 hc2 ho2 hsz
  go_wp2_with fail
  refine g2.mono ?_
  rintro e w3 ⟨p, ⟨hp0, hp1⟩, rfl, ho3, hc3⟩
  have hb3 := hb2.trans (ho3.below (B := w.heap.size) (Nat.le_refl _) hb2.size)
  obtain ⟨P, rfl⟩ := Int.eq_ofNat_of_zero_le hp0
  have g3 := pick_any _ _ _ _ 9 (by omega) (by omega) _ hc3 (by omega)
  obtain ⟨q, hq⟩ : ∃ q : Nat, W * P = q := ⟨_, rfl⟩
  have hq25 : q ≤ 25 := by rw [← hq]; exact Nat.mul_le_mul (show W ≤ 5 by omega) (show P ≤ 5 by omega)
  have hqi : (W : Int) * (P : Int) = (q : Int) := by rw [← hq]; exact (Int.natCast_mul W P).symm
  clear g2 hb2 hc3 ho3 hq
  go_wp2_with fail
  refine g3.mono ?_
  rintro e w4 ⟨y, ⟨hy0, hy1⟩, rfl, ho4, hc4⟩
  have hb4 := hb3.trans (ho4.below (B := w.heap.size) (Nat.le_refl _) hb3.size)
  obtain ⟨n, hn⟩ : ∃ n : Nat, (q : Int) + y / 8 = (n : Int) := ⟨((q : Int) + y / 8).toNat, by omega⟩
  have hn30 : n ≤ 30 := by omega
  have g4 := bools_any _ _ _ _ n (by omega) _ hc4 (by omega)
  clear g3 hb3 hc4 ho4
  go_wp2_with fail
  refine g4.mono ?_
  rintro e w5 ⟨v, t, rfl, hl, hs, ho5, hc5⟩
  have HR : Hid (W ≤ 5 ∧ t.length ≤ 30 ∧ OwnBS w5 w.heap.size w5.heap.size v t ∧ Below w.heap.size w w5) := ⟨by omega, by omega, rowIn_of (own_base hs hb4.size), hb4.trans (ho5.below (B := w.heap.size) (Nat.le_refl _) hb4.size)⟩
  clear g4 hb4 hs ho5 hc5
  go_wp2_with fail
  go_ret2
  exact ⟨W, v, t, rfl, HR.out⟩
end Go.Proofs.YtpjllhlbdcanlaaDoor

namespace Go.Proofs.YtpjllhlbdcanlaaDoor
open Go Go.RowKit
open M
set_option linter.unusedVariables false

theorem goodLaid_any (wide : Int) (w : World) :
    Calls Tryd.prog 39 #[.int .i64 wide] w fun e w' => e = .returned (.bool (decide (1 ≤ wide ∧ wide ≤ 4))) ∧ w' = w := by
  by_cases h1 : 1 ≤ wide
  · by_cases h2 : wide ≤ 4
    · rw [decide_eq_true ⟨h1, h2⟩]
      go_enter Tryd.func39, Tryd.ntmps39
      go_wp2_with fail
      go_ret
      exact ⟨rfl, rfl⟩
    · rw [decide_eq_false (fun h => h2 h.2)]
      go_enter Tryd.func39, Tryd.ntmps39
      go_wp2_with fail
      go_ret
      exact ⟨rfl, rfl⟩
  · rw [decide_eq_false (fun h => h1 h.1)]
    go_enter Tryd.func39, Tryd.ntmps39
    go_wp2_with fail
    go_ret
    exact ⟨rfl, rfl⟩
set_option maxRecDepth 100000 in
theorem l5Wide_any (wide : Int) (w : World) : Calls Tryd.prog 42 #[.int .i64 wide] w fun e w' => e = .returned (.bool (decide (1 ≤ wide ∧ wide ≤ 4))) ∧ w' = w := by
  have g := l1In_any wide 1 4 w
  go_enter Tryd.func42, Tryd.ntmps42
  go_wp2_with fail
  refine g.mono ?_
  rintro e w1 ⟨rfl, rfl⟩
  go_wp2_with fail
  go_ret
  exact ⟨congrArg (fun z => Ending.returned (Value.bool z)) (Bool.decide_and _ _).symm, rfl⟩
end Go.Proofs.YtpjllhlbdcanlaaDoor

namespace Go.Proofs.YtpjllhlbdcanlaaDoor
open Go Go.RowKit
open M
set_option linter.unusedVariables false

/-- the number that bits make, the first one counting least -/
def numB : List Bool → Nat
  | [] => 0
  | b :: l => (if b = true then 1 else 0) + 2 * numB l
/-- a bit that is put at a place -/
def putN (a k : Nat) (x : Bool) : Nat := a + (if x = true then 2 ^ k else 0)
theorem numB_snoc : ∀ (l : List Bool) (x : Bool), numB (l ++ [x]) = putN (numB l) l.length x
  | [], x => by cases x <;> simp [numB, putN]
  | b :: l, x => by
    have ih := numB_snoc l x
    unfold putN at *
    simp only [List.cons_append, numB, ih, List.length_cons]
    cases x <;> simp [Nat.pow_succ] <;> omega
theorem numB_lt : ∀ l : List Bool, numB l < 2 ^ l.length
  | [] => by simp [numB]
  | b :: l => by
    have ih := numB_lt l
    simp only [numB, List.length_cons, Nat.pow_succ]
    split <;> omega
/-- a bit that is put at the place behind -/
theorem or_put : ∀ k : Nat, k < 4 → ∀ a : Nat, a < 2 ^ k → ∀ x : Bool, bits .or .u64 (a : Int) (IntKind.u64.wrap ((if x = true then 1 else 0) * 2 ^ k)) = (putN a k x : Int) := by decide +kernel
def wordAt (W : Nat) (l : List Bool) (j : Nat) : Int := numB ((l.drop (j * W)).take W)
def stateL (W m : Nat) (l : List Bool) : List Int := (List.range m).map (wordAt W l)
theorem stateL_snoc (W m : Nat) (l : List Bool) : stateL W (m + 1) l = stateL W m l ++ [wordAt W l m] := by simp [stateL, List.range_succ]
theorem stateL_len (W m : Nat) (l : List Bool) : (stateL W m l).length = m := by simp [stateL]
theorem wordAt_bd (W : Nat) (hW : W ≤ 4) (l : List Bool) (j : Nat) : 0 ≤ wordAt W l j ∧ wordAt W l j < 16 := by
  unfold wordAt
  have h := numB_lt ((l.drop (j * W)).take W)
  have h2 : ((l.drop (j * W)).take W).length ≤ 4 := by rw [List.length_take]; omega
  have h3 : 2 ^ ((l.drop (j * W)).take W).length ≤ 2 ^ 4 := Nat.pow_le_pow_right (by omega) h2
  omega
def stateOk (wide : Int) (l : List Bool) : Bool := decide (1 ≤ wide ∧ wide ≤ 4) && (decide (l.length % wide.toNat = 0) && decide (1 ≤ l.length / wide.toNat ∧ l.length / wide.toNat ≤ 4))
def stateR (wide : Int) (l : List Bool) : List Int := if stateOk wide l = true then stateL wide.toNat (l.length / wide.toNat) l else []
theorem stateR_no {wide : Int} {l : List Bool} (h : stateOk wide l = false) : stateR wide l = [] := by unfold stateR; rw [h]; rfl
theorem stateR_ok (wide : Int) (l : List Bool) : WsOk (stateR wide l) := by
  unfold stateR stateOk
  split
  · rename_i h
    simp only [Bool.and_eq_true, decide_eq_true_eq] at h
    refine ⟨fun s hs => ?_, by rw [stateL_len]; omega⟩
    obtain ⟨j, _, rfl⟩ := List.mem_map.1 hs
    have := wordAt_bd wide.toNat (by omega) l j
    omega
  · exact ⟨by simp, by simp⟩
theorem own_nilU (w : World) (lo hi : Nat) (h : hi ≤ w.heap.size) : OwnUS w lo hi (.slice none 0 0) [] := ⟨World.ownsRow_nil _ _ _ _, (fun k hk => by cases hk), h⟩
end Go.Proofs.YtpjllhlbdcanlaaDoor

namespace Go.Proofs.YtpjllhlbdcanlaaDoor
open Go
open M
set_option linter.unusedVariables false
set_option linter.unusedSimpArgs false

/-- bit j of a number -/
def bitI (n : Int) (j : Nat) : Int := n / pw j % 2
theorem bitI_range (n : Int) (j : Nat) : 0 ≤ bitI n j ∧ bitI n j ≤ 1 := by
  unfold bitI
  omega
def bitsG (n : Int) (k : Nat) : List Gt := (List.range k).map fun (j : Nat) => (1, bitI n j, 0)
def wiresF (s : Int) (k : Nat) : List Int := (List.range k).map fun (j : Nat) => s + (j : Int)
def notsG (a : List Int) : List Gt := a.map fun x => (2, x, 0)
def pairG (kind : Int) (a b : List Int) : List Gt := List.zipWith (fun x y => (kind, x, y)) a b
theorem bitsG_len (n : Int) (k : Nat) : (bitsG n k).length = k := by simp [bitsG]
theorem wiresF_len (s : Int) (k : Nat) : (wiresF s k).length = k := by simp [wiresF]
theorem notsG_len (a : List Int) : (notsG a).length = a.length := by simp [notsG]
theorem pairG_len (kind : Int) (a b : List Int) (h : a.length = b.length) : (pairG kind a b).length = a.length := by simp [pairG, h]
theorem bitsG_snoc (n : Int) (k : Nat) : bitsG n (k + 1) = bitsG n k ++ [(1, bitI n k, 0)] := by simp [bitsG, List.range_succ]
theorem wiresF_snoc (s : Int) (k : Nat) : wiresF s (k + 1) = wiresF s k ++ [s + (k : Int)] := by simp [wiresF, List.range_succ]
theorem notsG_snoc (a : List Int) (x : Int) : notsG (a ++ [x]) = notsG a ++ [(2, x, 0)] := by simp [notsG]
theorem pairG_snoc (kind : Int) (a b : List Int) (x y : Int) (h : a.length = b.length) : pairG kind (a ++ [x]) (b ++ [y]) = pairG kind a b ++ [(kind, x, y)] := by
  unfold pairG
  rw [List.zipWith_append h]
  rfl
theorem wiresF_mem {s : Int} {k : Nat} {x : Int} (h : x ∈ wiresF s k) : s ≤ x ∧ x < s + k := by
  simp only [wiresF, List.mem_map, List.mem_range] at h
  obtain ⟨j, hj, rfl⟩ := h
  omega
/-- the gates of one row of a product: place k of the second number -/
def mulRow (x : List Int) (y : Int) (k : Nat) : List Gt := List.replicate k (1, 0, 0) ++ (x.take (x.length - k)).map fun w => (3, w, y)
theorem mulRow_len (x : List Int) (y : Int) (k : Nat) (h : k ≤ x.length) : (mulRow x y k).length = x.length := by
  simp [mulRow]
  omega
/-- the rows of a product from place k on: the sum so far, the number of wires so far -/
def mulF (x : List Int) : List Int → Nat → List Int → Int → List Gt × List Int
  | [], _, sum, _ => ([], sum)
  | y :: ys, k, sum, S =>
    (mulRow x y k ++ [(1, 0, 0)] ++ (addG sum (wiresF S x.length) (S + x.length) (S + x.length + 1)).1 ++ (mulF x ys (k + 1) (addG sum (wiresF S x.length) (S + x.length) (S + x.length + 1)).2 (S + 6 * x.length + 1)).1,
      (mulF x ys (k + 1) (addG sum (wiresF S x.length) (S + x.length) (S + x.length + 1)).2 (S + 6 * x.length + 1)).2)
def mulG (x y : List Int) (S : Int) : List Gt × List Int := (bitsG 0 x.length ++ (mulF x y 0 (wiresF S x.length) (S + x.length)).1, (mulF x y 0 (wiresF S x.length) (S + x.length)).2)
theorem mulF_len (x : List Int) : ∀ (ys : List Int) (k : Nat) (sum : List Int) (S : Int), k + ys.length ≤ x.length → sum.length = x.length → (mulF x ys k sum S).1.length = (6 * x.length + 1) * ys.length ∧ (mulF x ys k sum S).2.length = x.length
  | [], _, sum, _, _, hs => by simp [mulF, hs]
  | y :: ys, k, sum, S, h, hs => by
    have hl := addG_len sum (wiresF S x.length) (S + x.length) (S + x.length + 1) (by rw [wiresF_len, hs])
    simp only [List.length_cons] at h
    have ih := mulF_len x ys (k + 1) (addG sum (wiresF S x.length) (S + x.length) (S + x.length + 1)).2 (S + 6 * x.length + 1) (by omega) (by omega)
    simp only [mulF, List.length_append, List.length_cons, List.length_nil, mulRow_len x y k (by omega), hl.1, ih.1, ih.2, hs, and_true]
    rw [Nat.mul_add]
    omega
/-- a number's wires with its uppermost one turned -/
def topW (a : List Int) (s : Int) : List Int := a.take (a.length - 1) ++ [s]
/-- what a node lays behind S wires, and its wires; a, b: the wires of its parts -/
def layN (wide : Nat) (op n : Int) (a b : List Int) (S : Int) : List Gt × List Int :=
  if op = 2 then ([], wiresF (n * wide) wide)
  else if op = 1 then (bitsG n wide, wiresF S wide)
  else if op = 20 then (bitsG n 1, wiresF S 1)
  else if op = 13 ∨ op = 19 then (notsG a, wiresF S a.length)
  else if op = 8 ∨ op = 17 then (pairG 3 a b, wiresF S a.length)
  else if op = 9 ∨ op = 18 then (pairG 4 a b, wiresF S a.length)
  else if op = 10 then (pairG 5 a b, wiresF S a.length)
  else if op = 3 then ([(1, 0, 0)] ++ (addG a b S (S + 1)).1, (addG a b S (S + 1)).2)
  else if op = 4 then (notsG b ++ [(1, 1, 0)] ++ (addG a (wiresF S b.length) (S + b.length) (S + b.length + 1)).1, (addG a (wiresF S b.length) (S + b.length) (S + b.length + 1)).2)
  else if op = 5 then mulG a b S
  else if op = 14 then ([(1, 1, 0)] ++ (eqG a b S (S + 1)).1, [onW S (S + 1) 3 2 a.length])
  else if op = 15 then ([(1, 0, 0)] ++ (lessG a b S (S + 1)).1, [onW S (S + 1) 6 5 a.length])
  else if op = 16 then ([(2, a.getD (a.length - 1) 0, 0), (2, b.getD (b.length - 1) 0, 0)] ++ [(1, 0, 0)] ++ (lessG (topW a S) (topW b (S + 1)) (S + 2) (S + 3)).1, [onW (S + 2) (S + 3) 6 5 a.length])
  else ([], [])
/-- how many wires a kind has -/
def lenK (wide : Nat) (k : Int) : Nat := if k = 1 then wide else 1
/-- what a tree lays behind S wires -/
def layT (wide : Nat) : Tr → Int → List Gt × List Int
  | .leaf x, S => layN wide x.1 x.2 [] [] S
  | .one x a, S => ((layT wide a S).1 ++ (layN wide x.1 x.2 (layT wide a S).2 [] (S + (layT wide a S).1.length)).1, (layN wide x.1 x.2 (layT wide a S).2 [] (S + (layT wide a S).1.length)).2)
  | .two x a b, S => ((layT wide a S).1 ++ (layT wide b (S + (layT wide a S).1.length)).1 ++ (layN wide x.1 x.2 (layT wide a S).2 (layT wide b (S + (layT wide a S).1.length)).2 (S + (layT wide a S).1.length + (layT wide b (S + (layT wide a S).1.length)).1.length)).1,
      (layN wide x.1 x.2 (layT wide a S).2 (layT wide b (S + (layT wide a S).1.length)).2 (S + (layT wide a S).1.length + (layT wide b (S + (layT wide a S).1.length)).1.length)).2)
/-- the parts that a node finds on the pile (its top is its end) -/
def firstP (op : Int) (p : List (List Int)) : List Int := p.getD (p.length - manyOf op) []
def secondP (op : Int) (p : List (List Int)) : List Int := if manyOf op = 2 then p.getD (p.length - 1) [] else []
def layP (wide : Nat) : List Nd → List (List Int) → Int → List Gt × List (List Int)
  | [], p, _ => ([], p)
  | x :: t, p, S =>
    ((layN wide x.1 x.2 (firstP x.1 p) (secondP x.1 p) S).1 ++ (layP wide t (p.take (p.length - manyOf x.1) ++ [(layN wide x.1 x.2 (firstP x.1 p) (secondP x.1 p) S).2]) (S + (layN wide x.1 x.2 (firstP x.1 p) (secondP x.1 p) S).1.length)).1,
      (layP wide t (p.take (p.length - manyOf x.1) ++ [(layN wide x.1 x.2 (firstP x.1 p) (secondP x.1 p) S).2]) (S + (layN wide x.1 x.2 (firstP x.1 p) (secondP x.1 p) S).1.length)).2)
theorem layP_append (wide : Nat) : ∀ (s t : List Nd) (p : List (List Int)) (S : Int), layP wide (s ++ t) p S = ((layP wide s p S).1 ++ (layP wide t (layP wide s p S).2 (S + (layP wide s p S).1.length)).1, (layP wide t (layP wide s p S).2 (S + (layP wide s p S).1.length)).2)
  | [], t, p, S => by simp [layP]
  | x :: s, t, p, S => by
    simp only [List.cons_append, layP]
    rw [layP_append wide s t]
    simp only [List.append_assoc, List.length_append]
    have e : ∀ (A : Int) (m n : Nat), A + (m : Int) + (n : Int) = A + ((m + n : Nat) : Int) := fun A m n => by omega
    rw [e]
theorem firstP_zero {op : Int} (h : manyOf op = 0) (p : List (List Int)) : firstP op p = [] := by
  unfold firstP
  rw [h]
  simp
theorem firstP_one {op : Int} (h : manyOf op = 1) (p : List (List Int)) (a : List Int) : firstP op (p ++ [a]) = a := by
  unfold firstP
  rw [h]
  simp
theorem firstP_two {op : Int} (h : manyOf op = 2) (p : List (List Int)) (a b : List Int) : firstP op (p ++ [a] ++ [b]) = a := by
  unfold firstP
  rw [h]
  simp
theorem secondP_two {op : Int} (h : manyOf op = 2) (p : List (List Int)) (b : List Int) : secondP op (p ++ [b]) = b := by
  unfold secondP
  rw [h]
  simp
/-- the pile lays a tree's nodes as the tree does -/
theorem layP_flat (wide : Nat) {k vars : Int} : ∀ (r : Tr), r.Ok k vars → ∀ (t : List Nd) (p : List (List Int)) (S : Int),
    layP wide (r.flat ++ t) p S = ((layT wide r S).1 ++ (layP wide t (p ++ [(layT wide r S).2]) (S + (layT wide r S).1.length)).1, (layP wide t (p ++ [(layT wide r S).2]) (S + (layT wide r S).1.length)).2)
  | .leaf x, hok, t, p, S => by
    obtain ⟨_, _, hm⟩ := hok
    simp only [Tr.flat, List.singleton_append, layP, layT]
    rw [firstP_zero hm, show secondP x.1 p = [] from by unfold secondP; rw [hm]; simp, hm]
    simp
  | .one x a, hok, t, p, S => by
    obtain ⟨_, _, hm, _, ha⟩ := hok
    have ih := layP_flat wide a ha ([x] ++ t) p S
    simp only [Tr.flat, List.append_assoc]
    rw [ih]
    simp only [List.singleton_append, layP, layT]
    rw [firstP_one hm, show secondP x.1 (p ++ [(layT wide a S).2]) = [] from by unfold secondP; rw [hm]; simp, hm]
    have e1 : (p ++ [(layT wide a S).2]).take ((p ++ [(layT wide a S).2]).length - 1) = p := by simp
    rw [e1]
    simp only [List.append_assoc, List.length_append]
    have e : ∀ (A : Int) (m n : Nat), A + (m : Int) + (n : Int) = A + ((m + n : Nat) : Int) := fun A m n => by omega
    rw [e]
  | .two x a b, hok, t, p, S => by
    obtain ⟨_, _, hm, _, _, ha, hb⟩ := hok
    have ih := layP_flat wide a ha (b.flat ++ ([x] ++ t)) p S
    have ih2 := layP_flat wide b hb ([x] ++ t) (p ++ [(layT wide a S).2]) (S + (layT wide a S).1.length)
    simp only [Tr.flat, List.append_assoc]
    rw [ih, ih2]
    simp only [List.singleton_append, layP, layT]
    rw [firstP_two hm, secondP_two hm, hm]
    have e1 : (p ++ [(layT wide a S).2] ++ [(layT wide b (S + ((layT wide a S).1.length : Int))).2]).take ((p ++ [(layT wide a S).2] ++ [(layT wide b (S + ((layT wide a S).1.length : Int))).2]).length - 2) = p := by simp
    rw [e1]
    simp only [List.append_assoc, List.length_append]
    have e : ∀ (A : Int) (m n o : Nat), A + (m : Int) + (n : Int) + (o : Int) = A + ((m + (n + o) : Nat) : Int) := fun A m n o => by omega
    rw [e]
/-- how many gates and wires a node has -/
theorem layN_len (wide : Nat) (hw : wide ≤ 4) (op n : Int) (a b : List Int) (S : Int) (ho : ¬ ownOf op = 0) (hpl : op ≠ 6 ∧ op ≠ 7 ∧ op ≠ 11 ∧ op ≠ 12)
    (ha : 1 ≤ manyOf op → a.length = lenK wide (partOf op)) (hb : manyOf op = 2 → b.length = lenK wide (partOf op)) :
    (layN wide op n a b S).1.length ≤ 110 ∧ (layN wide op n a b S).2.length = lenK wide (ownOf op) := by
  have hr : 1 ≤ op ∧ op ≤ 20 := by
    unfold ownOf at ho
    split at ho
    · omega
    · split at ho <;> omega
  have hm : op = 1 ∨ op = 2 ∨ op = 3 ∨ op = 4 ∨ op = 5 ∨ op = 8 ∨ op = 9 ∨ op = 10 ∨ op = 13 ∨ op = 14 ∨ op = 15 ∨ op = 16 ∨ op = 17 ∨ op = 18 ∨ op = 19 ∨ op = 20 := by omega
  rcases hm with rfl | rfl | rfl | rfl | rfl | rfl | rfl | rfl | rfl | rfl | rfl | rfl | rfl | rfl | rfl | rfl
  all_goals
    clear ho hpl hr
    simp (config := {decide := true}) only [manyOf, partOf, lenK, ownOf, if_true, if_false, forall_const, layN] at ha hb ⊢
  · simp only [bitsG_len, wiresF_len]; first | omega | exact ⟨by omega, trivial⟩
  · simp [wiresF_len]
  · have h := addG_len a b S (S + 1) (by omega)
    simp only [List.length_append, List.length_cons, List.length_nil, h.1, h.2]; first | omega | exact ⟨by omega, trivial⟩
  · have h := addG_len a (wiresF S b.length) (S + b.length) (S + b.length + 1) (by rw [wiresF_len]; omega)
    simp only [List.length_append, List.length_cons, List.length_nil, h.1, h.2, notsG_len]; first | omega | exact ⟨by omega, trivial⟩
  · have h := mulF_len a b 0 (wiresF S a.length) (S + a.length) (by omega) (wiresF_len _ _)
    simp only [mulG, List.length_append, bitsG_len, h.1, h.2]
    refine ⟨?_, ha⟩
    rw [ha, hb]
    have : wide = 0 ∨ wide = 1 ∨ wide = 2 ∨ wide = 3 ∨ wide = 4 := by omega
    rcases this with rfl | rfl | rfl | rfl | rfl <;> decide
  · rw [pairG_len _ _ _ (by omega), wiresF_len]; first | omega | exact ⟨by omega, trivial⟩
  · rw [pairG_len _ _ _ (by omega), wiresF_len]; first | omega | exact ⟨by omega, trivial⟩
  · rw [pairG_len _ _ _ (by omega), wiresF_len]; first | omega | exact ⟨by omega, trivial⟩
  · rw [notsG_len, wiresF_len]; first | omega | exact ⟨by omega, trivial⟩
  · have h := eqG_len a b S (S + 1) (by omega)
    simp only [List.length_append, List.length_cons, List.length_nil, h]; first | omega | exact ⟨by omega, trivial⟩
  · have h := lessG_len a b S (S + 1) (by omega)
    simp only [List.length_append, List.length_cons, List.length_nil, h]; first | omega | exact ⟨by omega, trivial⟩
  · have hl : (topW a S).length = (topW b (S + 1)).length := by simp [topW]; first | omega | exact ⟨by omega, trivial⟩
    have hl2 : (topW a S).length ≤ 5 := by simp [topW]; first | omega | exact ⟨by omega, trivial⟩
    have h := lessG_len (topW a S) (topW b (S + 1)) (S + 2) (S + 3) hl
    simp only [List.length_append, List.length_cons, List.length_nil, h]; first | omega | exact ⟨by omega, trivial⟩
  · rw [pairG_len _ _ _ (by omega), wiresF_len]; first | omega | exact ⟨by omega, trivial⟩
  · rw [pairG_len _ _ _ (by omega), wiresF_len]; first | omega | exact ⟨by omega, trivial⟩
  · rw [notsG_len, wiresF_len]; first | omega | exact ⟨by omega, trivial⟩
  · simp only [bitsG_len, wiresF_len]; first | omega | exact ⟨by omega, trivial⟩
end Go.Proofs.YtpjllhlbdcanlaaDoor

namespace Go.Proofs.YtpjllhlbdcanlaaDoor
open Go Go.RowKit
open M
set_option linter.unusedVariables false

theorem bits_bit1 (n : Int) (h0 : 0 ≤ n) (h1 : n ≤ 18446744073709551615) (j : Nat) : bits BinOp.and IntKind.u64 (n / 2 ^ j) 1 = bitI n j := by
  have e : n / 2 ^ j = n / pw j := by rw [pw_int]
  have hp := pw_pos j
  have h2 : 0 ≤ n / pw j := Int.ediv_nonneg h0 (by omega)
  have h3 : n / pw j ≤ n := Int.ediv_le_self _ h0
  rw [e, and_one_u64 _ h2 (by omega)]
  rfl
end Go.Proofs.YtpjllhlbdcanlaaDoor

namespace Go.Proofs.YtpjllhlbdcanlaaDoor
open Go Go.RowKit
open M
set_option linter.unusedVariables false
set_option linter.unusedSimpArgs false

/-- the bits of a word, the lowest first; of words -/
def bits1 (W : Nat) (s : Int) : List Bool := (List.range W).map fun (j : Nat) => bitI s j == 1
def bitsL (W : Nat) (st : List Int) : List Bool := st.flatMap (bits1 W)
theorem bits1_snoc (s : Int) (j : Nat) : bits1 (j + 1) s = bits1 j s ++ [bitI s j == 1] := by simp [bits1, List.range_succ]
theorem bits1_len (W : Nat) (s : Int) : (bits1 W s).length = W := by simp [bits1]
theorem bitsL_len (W : Nat) : ∀ st : List Int, (bitsL W st).length = st.length * W
  | [] => by simp [bitsL]
  | s :: st => by
    have := bitsL_len W st
    unfold bitsL at this ⊢
    rw [List.flatMap_cons, List.length_append, this, bits1_len, List.length_cons, Nat.add_mul]
    omega
theorem bitsL_snoc (W : Nat) (st : List Int) (s : Int) : bitsL W (st ++ [s]) = bitsL W st ++ bits1 W s := by simp [bitsL]
set_option maxRecDepth 100000 in
set_option maxHeartbeats 8000000 in
theorem iBitsOf_in (W : Nat) (h1 : 1 ≤ W) (h4 : W ≤ 4) (b off cap : Nat) (st : List Int) (hn1 : 1 ≤ st.length) (hn4 : st.length ≤ 4) (hst : ∀ s ∈ st, 0 ≤ s ∧ s ≤ 18446744073709551615) (hall : st.all (goodB W) = true) (w : World) (hT : Tab w) (hlt : b < w.heap.size)
    (hc : ∀ (i : Nat) (s : Int), st[i]? = some s → w.cell? ⟨b, off + i, none⟩ = some (.int .u64 s)) (gl : Calls Tryd.prog 39 #[.int .i64 W] w fun e w' => e = .returned (.bool true) ∧ w' = w) :
    Calls Tryd.prog 10 #[.int .i64 W, .slice (some ⟨b, off, none⟩) st.length cap] w fun e w' => ∃ r, e = .returned (.tuple #[r, .bool true]) ∧ w'.ownsRow w.heap.size 4 1 r (bitsL W st).length (cellsB (bitsL W st)) ∧ Below w.heap.size w w' := by
  have g2 := goodVars_yes st.length (by omega) w
  obtain ⟨i0, hi, hz0, hz1, hz2⟩ := info_parts infoBool
  obtain ⟨m, hm⟩ : ∃ m : Nat, W * st.length = m := ⟨_, rfl⟩
  have hm1 : m ≤ 16 := by rw [← hm]; exact Nat.mul_le_mul h4 hn4
  have hmi : (W : Int) * (st.length : Int) = (m : Int) := by rw [← hm]; exact (Int.natCast_mul W st.length).symm
  have HC : Hid (∀ w' : World, Below w.heap.size w w' → ∀ (i : Nat) (s : Int), st[i]? = some s → w'.cell? ⟨b, off + i, none⟩ = some (.int .u64 s)) := fun w' hb i s hs => (hb.cell (p := ⟨b, off + i, none⟩) hlt).trans (hc i s hs)
  have HG : Hid (∀ (i : Nat) (s : Int) (w' : World), st[i]? = some s → Below w.heap.size w w' → Calls Tryd.prog 41 #[.int .i64 W, .int .u64 s] w' fun e w'' => e = .returned (.bool true) ∧ w'' = w') := by
    intro i s w' hs hb
    have g := iGoodWord_any W s w' (hT.below hb hT.some)
    rw [List.all_eq_true.1 hall s (List.mem_of_getElem? hs)] at g
    exact g
  have HST : Hid (∀ s ∈ st, 0 ≤ s ∧ s ≤ 18446744073709551615) := hst
  clear hc hall hT hst hm
  generalize hnn : st.length = n at *
  have HN : Hid (st.length = n) := hnn
  clear hnn
  go_enter Tryd.func10, Tryd.ntmps10
  go_wp2_with fail
  refine gl.mono ?_
  rintro e w1 ⟨rfl, rfl⟩
  go_wp2_with fail
  refine g2.mono ?_
  rintro e w1 ⟨rfl, rfl⟩
  go_wp2_with (at_make; refine wpList_make_own _ rfl _ _ 27 rfl w1.heap.size 4 i0 (.bool false) 1 Tryd.underlying27 hi hz0 hz1 .i64 .i64 _ m rfl rfl (by first | exact hmi | omega) (by rw [hz2]; omega) (by unfold maxLen; omega) (Nat.le_refl _) ?_)
  intro w3 own3 grow3
  have HO3 : Hid (w3.ownsRow w1.heap.size 4 1 (.slice (some ⟨w1.heap.size, 0, none⟩) 0 m) 0 []) := own3
  have HB3 : Hid (Below w1.heap.size w1 w3) := (Below.refl _ _).grown grow3 (Nat.le_refl _) (fun k hk => by cases hk)
  clear own3 grow3 gl g2
  go_wp2_with fail
  go_loopw [6, 26] (fun v i wr => ∃ j : Nat, j ≤ n ∧ i = .int .i64 j ∧ Hid (wr.ownsRow w1.heap.size 4 1 v (bitsL W (st.take j)).length (cellsB (bitsL W (st.take j)))) ∧ Hid (Below w1.heap.size w1 wr)) (fun _ i _ => n - (intOf i).toNat)
  case atStart => exact ⟨0, by omega, rfl, HO3, HB3⟩
  case round =>
    obtain ⟨j, hj, rfl, HO, HB⟩ := hrel
    generalize wr = wq at *
    clear HO3 HB3
    by_cases hlt2 : j < n
    · obtain ⟨s, hs⟩ : ∃ s, st[j]? = some s := ⟨st[j]'(by have := HN.out; omega), List.getElem?_eq_getElem _⟩
      have cs := HC.out wq HB.out j s hs
      have g3 := HG.out j s wq hs HB.out
      obtain ⟨hs0, hs1⟩ := HST.out s (List.mem_of_getElem? hs)
      have hbl : b < wq.heap.size := Nat.lt_of_lt_of_le hlt HB.out.size
      have HT1 : Hid (bitsL W (st.take (j + 1)) = bitsL W (st.take j) ++ bits1 W s) := by
        show bitsL W (st.take (j + 1)) = _
        rw [List.take_add_one, hs, ← bitsL_snoc]
        rfl
      have hbll : (bitsL W (st.take j)).length ≤ 16 := by
        rw [bitsL_len]
        have h5 : (st.take j).length ≤ 4 := by rw [List.length_take]; omega
        exact Nat.mul_le_mul h5 h4
      obtain ⟨L, hL⟩ : ∃ L, bitsL W (st.take j) = L := ⟨_, rfl⟩
      rw [hL] at HO HT1 hbll
      obtain ⟨va, vcp, hv⟩ := own_shape HO.out
      subst hv
      have hjA : (j : Int) < (n : Int) := by omega
      clear hL hs
      obtain ⟨ln, hln⟩ : ∃ ln, L.length = ln := ⟨_, rfl⟩
      rw [hln] at HO ⊢
      have HLN : Hid (L.length = ln) := hln
      have hln16 : ln ≤ 16 := by omega
      clear hln hbll
      go_wp2_with fail
      refine g3.mono ?_
      rintro e w4 ⟨rfl, hw4⟩
      have hw5 := hw4.symm
      subst hw5
      clear g3 hw4
      go_wp2_with fail
      go_loopw [6, 35] (fun v i wr => ∃ k : Nat, k ≤ W ∧ i = .int .i64 k ∧ Hid (wr.ownsRow w1.heap.size 4 1 v (ln + k) (cellsB (L ++ bits1 k s))) ∧ Hid (Below w1.heap.size w1 wr)) (fun _ i _ => W - (intOf i).toNat)
      case atStart => exact ⟨0, by omega, rfl, (by show World.ownsRow _ _ _ _ _ (ln + 0) (cellsB (L ++ [])); rw [List.append_nil]; exact HO.out), HB⟩
      case round =>
        obtain ⟨k, hk, rfl, HOk, HBk⟩ := hrel
        by_cases hlt3 : k < W
        · obtain ⟨va2, vcp2, hv2⟩ := own_shape HOk.out
          subst hv2
          have hbit := bits_bit1 s hs0 hs1 k
          obtain ⟨z, hz⟩ : ∃ z : Bool, (bitI s k == 1) = z := ⟨_, rfl⟩
          have HS : Hid (bits1 (k + 1) s = bits1 k s ++ [z]) := by
            show bits1 (k + 1) s = _
            rw [bits1_snoc, hz]
          have hzz : (bits BinOp.and IntKind.u64 (s / 2 ^ k) 1 == 1) = z := by rw [hbit]; exact hz
          have own6 := World.ownsRow.alloc HOk.out (.cells #[.bool z] 4)
          have hb6 : Below w1.heap.size w1 (wr.alloc (.cells #[.bool z] 4)) := HBk.out.alloc HBk.out.size _
          have hs6 := hb6.size
          have hkA : (k : Int) < (W : Int) := by omega
          have hlk : ln + k ≤ 20 := by omega
          clear hbit hz HOk HBk
          go_wp2_with (at_builtin; refine wpList_append_own _ rfl _ _ 27 rfl w1.heap.size 4 i0 (.bool false) 1 1 Tryd.underlying27 hi hz0 hz1 hz2 rfl (by decide) _ _ _ rfl own6 ⟨wr.heap.size, 0, none⟩ 1 1 [.bool z] rfl rfl (oneB_cells wr z) (bools_one [z]) (by unfold maxLen; omega) (by omega) hs6 ?_)
          intro v7 w7 own7 grow7 _
          have HB7 : Hid (Below w1.heap.size w1 w7) := below_app hb6 (by omega) (Nat.le_refl _) own6 grow7
          have HO7 : Hid (w7.ownsRow w1.heap.size 4 1 v7 (ln + (k + 1)) (cellsB (L ++ bits1 (k + 1) s))) := by
            show w7.ownsRow w1.heap.size 4 1 v7 (ln + (k + 1)) (cellsB (L ++ bits1 (k + 1) s))
            rw [HS.out, ← List.append_assoc, cellsB_append, ← Nat.add_assoc]
            exact own7
          clear own6 own7 grow7 hb6 HS
          go_wp2_with fail
          go_roundw
          case rel => exact ⟨k + 1, by omega, by go_num, HO7, HB7⟩
          case measure => simp [intOf]; omega
        · obtain rfl : k = W := by omega
          have HO9 : Hid (wr.ownsRow w1.heap.size 4 1 u6 (bitsL k (st.take (j + 1))).length (cellsB (bitsL k (st.take (j + 1))))) := by
            show wr.ownsRow w1.heap.size 4 1 u6 (bitsL k (st.take (j + 1))).length (cellsB (bitsL k (st.take (j + 1))))
            rw [HT1.out, List.length_append, bits1_len, HLN.out]
            exact HOk.out
          clear HOk
          go_wp2_with fail
          go_roundw
          case rel => exact ⟨j + 1, by omega, by go_num, HO9, HBk⟩
          case measure => simp [intOf]; omega
    · obtain rfl : j = n := by omega
      have HO9 : Hid (wq.ownsRow w1.heap.size 4 1 u6 (bitsL W st).length (cellsB (bitsL W st))) := by
        have h1 := HO.out
        rw [← HN.out, List.take_length] at h1
        exact h1
      clear HO HC HG
      go_wp2_with fail
      go_ret2
      exact ⟨_, rfl, HO9.out, HB.out⟩
end Go.Proofs.YtpjllhlbdcanlaaDoor

namespace Go.Proofs.YtpjllhlbdcanlaaDoor
open Go Go.RowKit
open M
set_option linter.unusedVariables false
set_option linter.unusedSimpArgs false

set_option maxRecDepth 100000 in
set_option maxHeartbeats 8000000 in
theorem iBitsOf_bad (W : Nat) (h1 : 1 ≤ W) (h4 : W ≤ 4) (b off cap : Nat) (st : List Int) (hn1 : 1 ≤ st.length) (hn4 : st.length ≤ 4) (hst : ∀ s ∈ st, 0 ≤ s ∧ s ≤ 18446744073709551615) (hall : st.all (goodB W) = false) (w : World) (hT : Tab w) (hlt : b < w.heap.size)
    (hc : ∀ (i : Nat) (s : Int), st[i]? = some s → w.cell? ⟨b, off + i, none⟩ = some (.int .u64 s)) (gl : Calls Tryd.prog 39 #[.int .i64 W] w fun e w' => e = .returned (.bool true) ∧ w' = w) :
    Calls Tryd.prog 10 #[.int .i64 W, .slice (some ⟨b, off, none⟩) st.length cap] w fun e w' => e = .returned (.tuple #[.slice none 0 0, .bool false]) ∧ Below w.heap.size w w' := by
  have g2 := goodVars_yes st.length (by omega) w
  obtain ⟨i0, hi, hz0, hz1, hz2⟩ := info_parts infoBool
  obtain ⟨m, hm⟩ : ∃ m : Nat, W * st.length = m := ⟨_, rfl⟩
  have hm1 : m ≤ 16 := by rw [← hm]; exact Nat.mul_le_mul h4 hn4
  have hmi : (W : Int) * (st.length : Int) = (m : Int) := by rw [← hm]; exact (Int.natCast_mul W st.length).symm
  have HC : Hid (∀ w' : World, Below w.heap.size w w' → ∀ (i : Nat) (s : Int), st[i]? = some s → w'.cell? ⟨b, off + i, none⟩ = some (.int .u64 s)) := fun w' hb i s hs => (hb.cell (p := ⟨b, off + i, none⟩) hlt).trans (hc i s hs)
  have HG : Hid (∀ (i : Nat) (s : Int) (w' : World), st[i]? = some s → Below w.heap.size w w' → Calls Tryd.prog 41 #[.int .i64 W, .int .u64 s] w' fun e w'' => e = .returned (.bool (goodB W s)) ∧ w'' = w') := by
    intro i s w' hs hb
    exact iGoodWord_any W s w' (hT.below hb hT.some)
  have HALL : Hid (st.all (goodB W) = false) := hall
  have HST : Hid (∀ s ∈ st, 0 ≤ s ∧ s ≤ 18446744073709551615) := hst
  clear hc hall hT hst hm
  generalize hnn : st.length = n at *
  have HN : Hid (st.length = n) := hnn
  clear hnn
  go_enter Tryd.func10, Tryd.ntmps10
  go_wp2_with fail
  refine gl.mono ?_
  rintro e w1 ⟨rfl, rfl⟩
  go_wp2_with fail
  refine g2.mono ?_
  rintro e w1 ⟨rfl, rfl⟩
  go_wp2_with (at_make; refine wpList_make_own _ rfl _ _ 27 rfl w1.heap.size 4 i0 (.bool false) 1 Tryd.underlying27 hi hz0 hz1 .i64 .i64 _ m rfl rfl (by first | exact hmi | omega) (by rw [hz2]; omega) (by unfold maxLen; omega) (Nat.le_refl _) ?_)
  intro w3 own3 grow3
  have HO3 : Hid (w3.ownsRow w1.heap.size 4 1 (.slice (some ⟨w1.heap.size, 0, none⟩) 0 m) 0 []) := own3
  have HB3 : Hid (Below w1.heap.size w1 w3) := (Below.refl _ _).grown grow3 (Nat.le_refl _) (fun k hk => by cases hk)
  clear own3 grow3 gl g2
  go_wp2_with fail
  go_loopw [6, 26] (fun v i wr => ∃ j : Nat, j ≤ n ∧ i = .int .i64 j ∧ Hid ((st.take j).all (goodB W) = true) ∧ Hid (wr.ownsRow w1.heap.size 4 1 v (bitsL W (st.take j)).length (cellsB (bitsL W (st.take j)))) ∧ Hid (Below w1.heap.size w1 wr)) (fun _ i _ => n - (intOf i).toNat)
  case atStart => exact ⟨0, by omega, rfl, rfl, HO3, HB3⟩
  case round =>
    obtain ⟨j, hj, rfl, HA, HO, HB⟩ := hrel
    generalize wr = wq at *
    clear HO3 HB3
    by_cases hlt2 : j < n
    · obtain ⟨s, hs⟩ : ∃ s, st[j]? = some s := ⟨st[j]'(by have := HN.out; omega), List.getElem?_eq_getElem _⟩
      have cs := HC.out wq HB.out j s hs
      have g3 := HG.out j s wq hs HB.out
      obtain ⟨hs0, hs1⟩ := HST.out s (List.mem_of_getElem? hs)
      have hbl : b < wq.heap.size := Nat.lt_of_lt_of_le hlt HB.out.size
      have HT1 : Hid (bitsL W (st.take (j + 1)) = bitsL W (st.take j) ++ bits1 W s) := by
        show bitsL W (st.take (j + 1)) = _
        rw [List.take_add_one, hs, ← bitsL_snoc]
        rfl
      have hbll : (bitsL W (st.take j)).length ≤ 16 := by
        rw [bitsL_len]
        have h5 : (st.take j).length ≤ 4 := by rw [List.length_take]; omega
        exact Nat.mul_le_mul h5 h4
      obtain ⟨L, hL⟩ : ∃ L, bitsL W (st.take j) = L := ⟨_, rfl⟩
      rw [hL] at HO HT1 hbll
      obtain ⟨va, vcp, hv⟩ := own_shape HO.out
      subst hv
      have hjA : (j : Int) < (n : Int) := by omega
      have HS9 : Hid (st[j]? = some s) := hs
      clear hL hs
      obtain ⟨ln, hln⟩ : ∃ ln, L.length = ln := ⟨_, rfl⟩
      rw [hln] at HO ⊢
      have HLN : Hid (L.length = ln) := hln
      have hln16 : ln ≤ 16 := by omega
      clear hln hbll
      cases hgd : goodB W s with
      | true =>
        rw [hgd] at g3
        have HA9 : Hid ((st.take (j + 1)).all (goodB W) = true) := by
          show (st.take (j + 1)).all (goodB W) = true
          rw [List.take_add_one, HS9.out, List.all_append, HA.out]
          simp [hgd]
        clear hgd HS9
        go_wp2_with fail
        refine g3.mono ?_
        rintro e w4 ⟨rfl, hw4⟩
        have hw5 := hw4.symm
        subst hw5
        clear g3 hw4
        go_wp2_with fail
        go_loopw [6, 35] (fun v i wr => ∃ k : Nat, k ≤ W ∧ i = .int .i64 k ∧ Hid (wr.ownsRow w1.heap.size 4 1 v (ln + k) (cellsB (L ++ bits1 k s))) ∧ Hid (Below w1.heap.size w1 wr)) (fun _ i _ => W - (intOf i).toNat)
        case atStart => exact ⟨0, by omega, rfl, (by show World.ownsRow _ _ _ _ _ (ln + 0) (cellsB (L ++ [])); rw [List.append_nil]; exact HO.out), HB⟩
        case round =>
          obtain ⟨k, hk, rfl, HOk, HBk⟩ := hrel
          by_cases hlt3 : k < W
          · obtain ⟨va2, vcp2, hv2⟩ := own_shape HOk.out
            subst hv2
            have hbit := bits_bit1 s hs0 hs1 k
            obtain ⟨z, hz⟩ : ∃ z : Bool, (bitI s k == 1) = z := ⟨_, rfl⟩
            have HS : Hid (bits1 (k + 1) s = bits1 k s ++ [z]) := by
              show bits1 (k + 1) s = _
              rw [bits1_snoc, hz]
            have hzz : (bits BinOp.and IntKind.u64 (s / 2 ^ k) 1 == 1) = z := by rw [hbit]; exact hz
            have own6 := World.ownsRow.alloc HOk.out (.cells #[.bool z] 4)
            have hb6 : Below w1.heap.size w1 (wr.alloc (.cells #[.bool z] 4)) := HBk.out.alloc HBk.out.size _
            have hs6 := hb6.size
            have hkA : (k : Int) < (W : Int) := by omega
            have hlk : ln + k ≤ 20 := by omega
            clear hbit hz HOk HBk
            go_wp2_with (at_builtin; refine wpList_append_own _ rfl _ _ 27 rfl w1.heap.size 4 i0 (.bool false) 1 1 Tryd.underlying27 hi hz0 hz1 hz2 rfl (by decide) _ _ _ rfl own6 ⟨wr.heap.size, 0, none⟩ 1 1 [.bool z] rfl rfl (oneB_cells wr z) (bools_one [z]) (by unfold maxLen; omega) (by omega) hs6 ?_)
            intro v7 w7 own7 grow7 _
            have HB7 : Hid (Below w1.heap.size w1 w7) := below_app hb6 (by omega) (Nat.le_refl _) own6 grow7
            have HO7 : Hid (w7.ownsRow w1.heap.size 4 1 v7 (ln + (k + 1)) (cellsB (L ++ bits1 (k + 1) s))) := by
              show w7.ownsRow w1.heap.size 4 1 v7 (ln + (k + 1)) (cellsB (L ++ bits1 (k + 1) s))
              rw [HS.out, ← List.append_assoc, cellsB_append, ← Nat.add_assoc]
              exact own7
            clear own6 own7 grow7 hb6 HS
            go_wp2_with fail
            go_roundw
            case rel => exact ⟨k + 1, by omega, by go_num, HO7, HB7⟩
            case measure => simp [intOf]; omega
          · obtain rfl : k = W := by omega
            have HO9 : Hid (wr.ownsRow w1.heap.size 4 1 u6 (bitsL k (st.take (j + 1))).length (cellsB (bitsL k (st.take (j + 1))))) := by
              show wr.ownsRow w1.heap.size 4 1 u6 (bitsL k (st.take (j + 1))).length (cellsB (bitsL k (st.take (j + 1))))
              rw [HT1.out, List.length_append, bits1_len, HLN.out]
              exact HOk.out
            clear HOk
            go_wp2_with fail
            go_roundw
            case rel => exact ⟨j + 1, by omega, by go_num, HA9, HO9, HBk⟩
            case measure => simp [intOf]; omega
      | false =>
        rw [hgd] at g3
        clear HS9 HO hgd
        go_wp2_with fail
        refine g3.mono ?_
        rintro e w4 ⟨rfl, hw4⟩
        have hw5 := hw4.symm
        subst hw5
        clear g3 hw4
        go_wp2_with fail
        go_ret2
        exact ⟨rfl, HB.out⟩
    · obtain rfl : j = n := by omega
      exfalso
      have h1 := HA.out
      rw [← HN.out, List.take_length, HALL.out] at h1
      cases h1
/-- what BitsOf answers -/
def bitsOk (wide : Int) (st : List Int) : Bool := decide (1 ≤ wide ∧ wide ≤ 4) && (decide (1 ≤ st.length ∧ st.length ≤ 4) && st.all (goodB wide))
def bitsR (wide : Int) (st : List Int) : List Bool := if bitsOk wide st = true then bitsL wide.toNat st else []
theorem bitsR_no {wide : Int} {st : List Int} (h : bitsOk wide st = false) : bitsR wide st = [] := by unfold bitsR; rw [h]; rfl
theorem bitsR_len (wide : Int) (st : List Int) : (bitsR wide st).length ≤ 16 := by
  unfold bitsR bitsOk
  split
  · rename_i h
    simp only [Bool.and_eq_true, decide_eq_true_eq] at h
    rw [bitsL_len]
    exact Nat.mul_le_mul h.2.1.2 (show wide.toNat ≤ 4 by omega)
  · simp
theorem own_nilB (w : World) (lo hi : Nat) (h : hi ≤ w.heap.size) : OwnBS w lo hi (.slice none 0 0) [] := ⟨World.ownsRow_nil _ _ _ _, (fun k hk => by cases hk), h⟩
set_option maxRecDepth 100000 in
set_option maxHeartbeats 2000000 in
theorem iBitsOf_any (wide : Int) (v : Value) (st : List Int) (w : World) (hT : Tab w) (h : WordsAt w v st) :
    Calls Tryd.prog 10 #[.int .i64 wide, v] w fun e w' => ∃ r, e = .returned (.tuple #[r, .bool (bitsOk wide st)]) ∧ OwnBS w' w.heap.size w'.heap.size r (bitsR wide st) ∧ Below w.heap.size w w' := by
  have g1 := goodLaid_any wide w
  obtain ⟨a, cap, rfl⟩ := h.shape
  have hln := h.2.1
  by_cases hw : 1 ≤ wide ∧ wide ≤ 4
  · by_cases hn : 1 ≤ st.length ∧ st.length ≤ 4
    · obtain ⟨W, rfl⟩ : ∃ W : Nat, wide = (W : Int) := ⟨wide.toNat, by omega⟩
      rw [decide_eq_true hw] at g1
      rcases h.2.2 with ⟨rfl, _⟩ | ⟨b, off, cap', hv, hlt, hc⟩
      · simp at hn
      rw [hv]
      cases hall : st.all (goodB W) with
      | true =>
        have hb : bitsOk W st = true := by unfold bitsOk; rw [decide_eq_true hw, decide_eq_true hn, hall]; rfl
        have hr : bitsR W st = bitsL W st := by unfold bitsR; rw [if_pos hb]; simp
        rw [hb, hr]
        refine (iBitsOf_in W (by omega) (by omega) b off cap' st hn.1 hn.2 h.1 hall w hT hlt hc g1).mono ?_
        rintro e w' ⟨r, he, ho, hb⟩
        exact ⟨r, he, rowIn_of ho, hb⟩
      | false =>
        have hb : bitsOk W st = false := by unfold bitsOk; rw [hall, Bool.and_false, Bool.and_false]
        rw [hb, bitsR_no hb]
        refine (iBitsOf_bad W (by omega) (by omega) b off cap' st hn.1 hn.2 h.1 hall w hT hlt hc g1).mono ?_
        rintro e w' ⟨he, hb⟩
        exact ⟨_, he, own_nilB _ _ _ (Nat.le_refl _), hb⟩
    · have hb : bitsOk wide st = false := by unfold bitsOk; rw [decide_eq_false hn, Bool.false_and, Bool.and_false]
      rw [hb, bitsR_no hb]
      rw [decide_eq_true hw] at g1
      have g2 := goodVars_no st.length (by omega) w
      generalize st.length = n at *
      clear h hb
      go_enter Tryd.func10, Tryd.ntmps10
      go_wp2_with fail
      refine g1.mono ?_
      rintro e w1 ⟨rfl, rfl⟩
      go_wp2_with fail
      refine g2.mono ?_
      rintro e w1 ⟨rfl, rfl⟩
      go_wp2_with fail
      go_ret2
      exact ⟨_, rfl, own_nilB _ _ _ (Nat.le_refl _), Below.refl _ _⟩
  · have hb : bitsOk wide st = false := by unfold bitsOk; rw [decide_eq_false hw, Bool.false_and]
    rw [hb, bitsR_no hb]
    rw [decide_eq_false hw] at g1
    generalize st.length = n at *
    clear h hb
    go_enter Tryd.func10, Tryd.ntmps10
    go_wp2_with fail
    refine g1.mono ?_
    rintro e w1 ⟨rfl, rfl⟩
    go_wp2_with fail
    go_ret2
    exact ⟨_, rfl, own_nilB _ _ _ (Nat.le_refl _), Below.refl _ _⟩
end Go.Proofs.YtpjllhlbdcanlaaDoor

namespace Go.Proofs.YtpjllhlbdcanlaaDoor
open Go Go.RowKit
open M
set_option linter.unusedVariables false
set_option linter.unusedSimpArgs false

theorem numB_bits1 : ∀ W : Nat, W ≤ 4 → ∀ s : Nat, s < 2 ^ W → numB (bits1 W (s : Int)) = s := by decide +kernel
theorem bits1_numB1 : ∀ a : Bool, bits1 1 (numB [a] : Nat) = [a] := by decide +kernel
theorem bits1_numB2 : ∀ a b : Bool, bits1 2 (numB [a, b] : Nat) = [a, b] := by decide +kernel
theorem bits1_numB3 : ∀ a b c : Bool, bits1 3 (numB [a, b, c] : Nat) = [a, b, c] := by decide +kernel
theorem bits1_numB4 : ∀ a b c d : Bool, bits1 4 (numB [a, b, c, d] : Nat) = [a, b, c, d] := by decide +kernel
theorem bits1_numB {W : Nat} (h1 : 1 ≤ W) (h4 : W ≤ 4) (l : List Bool) (hl : l.length = W) : bits1 W (numB l : Nat) = l := by
  subst hl
  match l, h1, h4 with
  | [a], _, _ => exact bits1_numB1 a
  | [a, b], _, _ => exact bits1_numB2 a b
  | [a, b, c], _, _ => exact bits1_numB3 a b c
  | [a, b, c, d], _, _ => exact bits1_numB4 a b c d
  | _ :: _ :: _ :: _ :: _ :: _, _, h => simp at h
theorem stateL_cons (W m : Nat) (l : List Bool) : stateL W (m + 1) l = (numB (l.take W) : Int) :: stateL W m (l.drop W) := by
  unfold stateL
  rw [List.range_succ_eq_map, List.map_cons, List.map_map]
  congr 1
  · simp [wordAt]
  · apply List.map_congr_left
    intro j _
    simp only [Function.comp, wordAt]
    rw [List.drop_drop, show W + j * W = (j + 1) * W from by rw [Nat.add_mul]; omega]
theorem stateL_bitsL {W : Nat} (h4 : W ≤ 4) : ∀ st : List Int, (∀ s ∈ st, 0 ≤ s ∧ s < pw W) → stateL W st.length (bitsL W st) = st
  | [], _ => rfl
  | s :: st, h => by
    obtain ⟨h0, h1⟩ := h s (by simp)
    obtain ⟨n, rfl⟩ := Int.eq_ofNat_of_zero_le h0
    have hn : n < 2 ^ W := by unfold pw at h1; omega
    have e : bitsL W ((n : Int) :: st) = bits1 W n ++ bitsL W st := by simp [bitsL]
    rw [e, List.length_cons, stateL_cons]
    rw [List.take_left' (bits1_len W n), List.drop_left' (bits1_len W n), numB_bits1 W h4 n hn, stateL_bitsL h4 st (fun x hx => h x (by simp [hx]))]
theorem bitsL_stateL {W : Nat} (h1 : 1 ≤ W) (h4 : W ≤ 4) : ∀ (m : Nat) (l : List Bool), l.length = m * W → bitsL W (stateL W m l) = l
  | 0, l, h => by
    rw [Nat.zero_mul] at h
    rw [List.length_eq_zero_iff.1 h]
    rfl
  | m + 1, l, h => by
    rw [Nat.add_mul, Nat.one_mul] at h
    rw [stateL_cons]
    have e : bitsL W ((numB (l.take W) : Int) :: stateL W m (l.drop W)) = bits1 W (numB (l.take W) : Int) ++ bitsL W (stateL W m (l.drop W)) := by simp [bitsL]
    rw [e, bits1_numB h1 h4 (l.take W) (by rw [List.length_take]; omega), bitsL_stateL h1 h4 m (l.drop W) (by rw [List.length_drop]; omega), List.take_append_drop]
theorem state_back {wide : Int} {st : List Int} (hst : ∀ s ∈ st, 0 ≤ s ∧ s ≤ 18446744073709551615) (h : bitsOk wide st = true) : stateOk wide (bitsR wide st) = true ∧ stateR wide (bitsR wide st) = st ∧ ((bitsR wide st).length : Int) = wide * st.length ∧ 1 ≤ wide ∧ wide ≤ 4 ∧ st.length ≤ 4 := by
  have h' := h
  unfold bitsOk at h
  simp only [Bool.and_eq_true, decide_eq_true_eq] at h
  obtain ⟨⟨w1, w4⟩, ⟨n1, n4⟩, hall⟩ := h
  obtain ⟨W, rfl⟩ : ∃ W : Nat, wide = (W : Int) := ⟨wide.toNat, by omega⟩
  have hb : bitsR W st = bitsL W st := by unfold bitsR; rw [if_pos h', Int.toNat_natCast]
  have hl : (bitsL W st).length = st.length * W := bitsL_len W st
  have hdiv : (bitsL W st).length / W = st.length := by rw [hl]; exact Nat.mul_div_cancel _ (by omega)
  have hmod : (bitsL W st).length % W = 0 := by rw [hl]; exact Nat.mul_mod_left _ _
  have hok : stateOk W (bitsL W st) = true := by
    unfold stateOk
    rw [Int.toNat_natCast, hdiv, hmod, decide_eq_true (show 1 ≤ (W : Int) ∧ (W : Int) ≤ 4 from ⟨w1, w4⟩), decide_eq_true (show 1 ≤ st.length ∧ st.length ≤ 4 from ⟨n1, n4⟩)]
    rfl
  rw [hb]
  refine ⟨hok, ?_, ?_, w1, w4, n4⟩
  · unfold stateR
    rw [if_pos hok, Int.toNat_natCast, hdiv]
    refine stateL_bitsL (by omega) st fun s hs => ⟨(hst s hs).1, ?_⟩
    have h1 := List.all_eq_true.1 hall s hs
    obtain ⟨k, hk, _, _, hlt⟩ := goodB_true h1
    have e : k = W := by omega
    rw [e] at hlt
    exact hlt
  · rw [hl, Nat.mul_comm]
    exact Int.natCast_mul W st.length
theorem bits_back {wide : Int} {l : List Bool} (h : stateOk wide l = true) : bitsOk wide (stateR wide l) = true ∧ bitsR wide (stateR wide l) = l := by
  have h' := h
  unfold stateOk at h
  simp only [Bool.and_eq_true, decide_eq_true_eq] at h
  obtain ⟨⟨w1, w4⟩, hmod, n1, n4⟩ := h
  obtain ⟨W, rfl⟩ : ∃ W : Nat, wide = (W : Int) := ⟨wide.toNat, by omega⟩
  rw [Int.toNat_natCast] at hmod n1 n4
  have hs : stateR W l = stateL W (l.length / W) l := by unfold stateR; rw [if_pos h', Int.toNat_natCast]
  have hll : l.length = (l.length / W) * W := by
    have := Nat.div_add_mod l.length W
    rw [hmod, Nat.add_zero, Nat.mul_comm] at this
    exact this.symm
  rw [hs]
  have hok : bitsOk W (stateL W (l.length / W) l) = true := by
    unfold bitsOk
    rw [stateL_len, decide_eq_true (show 1 ≤ (W : Int) ∧ (W : Int) ≤ 4 from ⟨w1, w4⟩), decide_eq_true (show 1 ≤ l.length / W ∧ l.length / W ≤ 4 from ⟨n1, n4⟩)]
    simp only [Bool.true_and]
    refine List.all_eq_true.2 fun s hsm => ?_
    obtain ⟨j, _, rfl⟩ := List.mem_map.1 hsm
    unfold goodB
    refine decide_eq_true ⟨w1, by omega, ?_⟩
    rw [Int.toNat_natCast]
    unfold wordAt pw
    have h1 := numB_lt ((l.drop (j * W)).take W)
    have h2 : ((l.drop (j * W)).take W).length ≤ W := List.length_take_le _ _
    have h3 : 2 ^ ((l.drop (j * W)).take W).length ≤ 2 ^ W := Nat.pow_le_pow_right (by omega) h2
    omega
  refine ⟨hok, ?_⟩
  unfold bitsR
  rw [if_pos hok, Int.toNat_natCast]
  exact bitsL_stateL (by omega) (by omega) _ l hll
end Go.Proofs.YtpjllhlbdcanlaaDoor

namespace Go.Proofs.YtpjllhlbdcanlaaDoor
open Go Go.RowKit
open M
set_option linter.unusedVariables false
set_option linter.unusedSimpArgs false

theorem WordsAt.opened {w : World} {v : Value} {t : List Int} (h : WordsAt w v t) : ∃ a cap, v = .slice a t.length cap ∧ ∀ (i : Nat) (x : Int), t[i]? = some x → ∃ b off : Nat, a = some ⟨b, off, none⟩ ∧ b < w.heap.size ∧ w.cell? ⟨b, off + i, none⟩ = some (.int .u64 x) := by
  rcases h.2.2 with ⟨rfl, a, cap, rfl⟩ | ⟨b, off, cap, rfl, hlt, hc⟩
  · exact ⟨a, cap, rfl, fun i x hx => by simp at hx⟩
  · exact ⟨_, cap, rfl, fun i x hx => ⟨b, off, rfl, hlt, hc i x hx⟩⟩
set_option maxRecDepth 100000 in
theorem sameWords_same (u v : Value) (t : List Int) (w : World) (h1 : WordsAt w u t) (h2 : WordsAt w v t) :
    Calls Tryd.prog 14 #[u, v] w fun e w' => e = .returned (.bool true) ∧ Below w.heap.size w w' := by
  obtain ⟨a, ac, rfl, ha⟩ := h1.opened
  obtain ⟨b, bc, rfl, hb⟩ := h2.opened
  have hl := h1.2.1
  clear h1 h2
  generalize hn : t.length = n at *
  go_enter Tryd.func14, Tryd.ntmps14
  go_wp2_with fail
  have HA : Hid (∀ w1 : World, Below w.heap.size w w1 → ∀ (i : Nat) (x : Int), t[i]? = some x → ∃ g off : Nat, a = some ⟨g, off, none⟩ ∧ w1.cell? ⟨g, off + i, none⟩ = some (.int .u64 x)) := fun w1 hw i x hx => by
    obtain ⟨g, off, e, hlt, hc⟩ := ha i x hx
    exact ⟨g, off, e, by rw [hw.cell (p := ⟨g, off + i, none⟩) hlt]; exact hc⟩
  have HB : Hid (∀ w1 : World, Below w.heap.size w w1 → ∀ (i : Nat) (x : Int), t[i]? = some x → ∃ g off : Nat, b = some ⟨g, off, none⟩ ∧ w1.cell? ⟨g, off + i, none⟩ = some (.int .u64 x)) := fun w1 hw i x hx => by
    obtain ⟨g, off, e, hlt, hc⟩ := hb i x hx
    exact ⟨g, off, e, by rw [hw.cell (p := ⟨g, off + i, none⟩) hlt]; exact hc⟩
  have HN : Hid (t.length = n) := hn
  clear ha hb hn
  go_loopw [13] (fun i wr => ∃ j : Nat, j ≤ n ∧ i = .int .i64 j ∧ Hid (Below w.heap.size w wr)) (fun i _ => n - (intOf i).toNat)
  case atStart => exact ⟨0, by omega, rfl, Below.refl _ _⟩
  case round =>
    obtain ⟨j, hj, rfl, HBl⟩ := hrel
    by_cases hlt : j < n
    · obtain ⟨x, hx⟩ : ∃ x, t[j]? = some x := ⟨t[j]'(by have := HN.out; omega), List.getElem?_eq_getElem (by have := HN.out; omega)⟩
      obtain ⟨ag, aoff, rfl, d0⟩ := HA.out wr HBl.out j x hx
      obtain ⟨bg, boff, rfl, d1⟩ := HB.out wr HBl.out j x hx
      have hjn : (j : Int) < (n : Int) := by omega
      have HD : Hid (Below w.heap.size w wr.drew) := HBl.out.drew
      clear hx HA HB HN HBl
      go_wp2_with fail
      go_region
      all_goals
        go_wp2_with fail
        go_roundw
        case rel => exact ⟨j + 1, by omega, by go_num, HD⟩
        case measure => simp [intOf]; omega
    · obtain rfl : j = n := by omega
      clear HA HB HN
      go_wp2_with fail
      go_ret
      exact ⟨rfl, HBl.out⟩
set_option maxRecDepth 100000 in
theorem sameBools_same5 (u v : Value) (t : List Bool) (w : World) (h1 : BoolsAt w u t) (h2 : BoolsAt w v t) :
    Calls Tryd.prog 12 #[u, v] w fun e w' => e = .returned (.bool true) ∧ Below w.heap.size w w' := by
  obtain ⟨a, ac, rfl, ha⟩ := h1.opened
  obtain ⟨b, bc, rfl, hb⟩ := h2.opened
  have hl := h1.1
  clear h1 h2
  generalize hn : t.length = n at *
  go_enter Tryd.func12, Tryd.ntmps12
  go_wp2_with fail
  have HA : Hid (∀ w1 : World, Below w.heap.size w w1 → ∀ (i : Nat) (x : Bool), t[i]? = some x → ∃ g off : Nat, a = some ⟨g, off, none⟩ ∧ w1.cell? ⟨g, off + i, none⟩ = some (.bool x)) := fun w1 hw i x hx => by
    obtain ⟨g, off, e, hlt, hc⟩ := ha i x hx
    exact ⟨g, off, e, by rw [hw.cell (p := ⟨g, off + i, none⟩) hlt]; exact hc⟩
  have HB : Hid (∀ w1 : World, Below w.heap.size w w1 → ∀ (i : Nat) (x : Bool), t[i]? = some x → ∃ g off : Nat, b = some ⟨g, off, none⟩ ∧ w1.cell? ⟨g, off + i, none⟩ = some (.bool x)) := fun w1 hw i x hx => by
    obtain ⟨g, off, e, hlt, hc⟩ := hb i x hx
    exact ⟨g, off, e, by rw [hw.cell (p := ⟨g, off + i, none⟩) hlt]; exact hc⟩
  have HN : Hid (t.length = n) := hn
  clear ha hb hn
  go_loopw [13] (fun i wr => ∃ j : Nat, j ≤ n ∧ i = .int .i64 j ∧ Hid (Below w.heap.size w wr)) (fun i _ => n - (intOf i).toNat)
  case atStart => exact ⟨0, by omega, rfl, Below.refl _ _⟩
  case round =>
    obtain ⟨j, hj, rfl, HBl⟩ := hrel
    by_cases hlt : j < n
    · obtain ⟨x, hx⟩ : ∃ x, t[j]? = some x := ⟨t[j]'(by have := HN.out; omega), List.getElem?_eq_getElem (by have := HN.out; omega)⟩
      obtain ⟨ag, aoff, rfl, d0⟩ := HA.out wr HBl.out j x hx
      obtain ⟨bg, boff, rfl, d1⟩ := HB.out wr HBl.out j x hx
      have hjn : (j : Int) < (n : Int) := by omega
      have HD : Hid (Below w.heap.size w wr.drew) := HBl.out.drew
      clear hx HA HB HN HBl
      go_wp2_with fail
      go_region
      all_goals
        go_wp2_with fail
        go_roundw
        case rel => exact ⟨j + 1, by omega, by go_num, HD⟩
        case measure => simp [intOf]; omega
    · obtain rfl : j = n := by omega
      clear HA HB HN
      go_wp2_with fail
      go_ret
      exact ⟨rfl, HBl.out⟩
end Go.Proofs.YtpjllhlbdcanlaaDoor

namespace Go.Proofs.YtpjllhlbdcanlaaDoor
open Go Go.RowKit
open M
set_option linter.unusedVariables false

theorem bitOf_any (p : Bool) (w : World) : Calls Tryd.prog 70 #[.bool p] w fun e w' => e = .returned (.int .u64 (if p = true then 1 else 0)) ∧ w' = w := by
  cases p
  · go_enter Tryd.func70, Tryd.ntmps70
    go_wp2
    go_ret
    exact ⟨rfl, rfl⟩
  · go_enter Tryd.func70, Tryd.ntmps70
    go_wp2
    go_ret
    exact ⟨rfl, rfl⟩
end Go.Proofs.YtpjllhlbdcanlaaDoor

namespace Go.Proofs.YtpjllhlbdcanlaaDoor
open Go Go.RowKit
open M
set_option linter.unusedVariables false
set_option linter.unusedSimpArgs false

set_option maxRecDepth 100000 in
set_option maxHeartbeats 2000000 in
theorem laidNumber_in (b off cap n : Nat) (l : List Bool) (hln : l.length = n) (hl : n ≤ 4) (w : World) (hc : ∀ (i : Nat) (x : Bool), l[i]? = some x → w.cell? ⟨b, off + i, none⟩ = some (.bool x)) :
    Calls Tryd.prog 46 #[.slice (some ⟨b, off, none⟩) n cap] w fun e w' => e = .returned (.int .u64 (numB l)) ∧ w' = w := by
  have HC : Hid _ := hc
  have HN : Hid (l.length = n) := hln
  clear hc hln
  go_enter Tryd.func46, Tryd.ntmps46
  go_wp2_with fail
  go_loop [3, 8] (fun m i => ∃ j : Nat, j ≤ n ∧ i = .int .i64 j ∧ m = .int .u64 (numB (l.take j))) (fun _ i => n - (intOf i).toNat)
  case atStart => exact ⟨0, by omega, rfl, rfl⟩
  case round =>
    obtain ⟨j, hj, rfl, rfl⟩ := hrel
    by_cases hlt : j < n
    · obtain ⟨x, hx⟩ : ∃ x, l[j]? = some x := ⟨l[j]'(by have := HN.out; omega), List.getElem?_eq_getElem _⟩
      have c0 := HC.out j x hx
      have g := bitOf_any x w
      have ho := or_put j (by omega) (numB (l.take j)) (by have h := numB_lt (l.take j); rw [List.length_take_of_le (by have := HN.out; omega)] at h; exact h) x
      have HS : Hid (numB (l.take (j + 1)) = putN (numB (l.take j)) j x) := by
        show numB (l.take (j + 1)) = _
        have e : l.take (j + 1) = l.take j ++ [x] := by rw [List.take_add_one, hx]; rfl
        rw [e, numB_snoc, List.length_take_of_le (by have := HN.out; omega)]
      have hj63 : (j : Int) < 64 := by omega
      generalize hA : numB (l.take j) = A at *
      generalize hP : putN A j x = P at *
      generalize hX : (if x = true then (1 : Int) else 0) = X at *
      clear hx hP hX
      go_wp2_with fail
      refine g.mono ?_
      rintro e w1 ⟨rfl, rfl⟩
      go_wp2_with fail
      go_round
      case rel => exact ⟨j + 1, by omega, by go_num, by rw [HS.out]⟩
      case measure => simp [intOf]; omega
    · obtain rfl : j = n := by omega
      have HE : Hid (numB (l.take j) = numB l) := by
        show numB (l.take j) = numB l
        rw [← HN.out, List.take_length]
      rw [HE.out]
      go_wp2_with fail
      go_ret
      exact ⟨rfl, rfl⟩
set_option maxRecDepth 100000 in
theorem laidNumber_nil (a : Option Addr) (cap : Nat) (w : World) :
    Calls Tryd.prog 46 #[.slice a 0 cap] w fun e w' => e = .returned (.int .u64 0) ∧ w' = w := by
  go_enter Tryd.func46, Tryd.ntmps46
  go_wp2_with fail
  go_loop [3, 8] (fun m i => i = .int .i64 0 ∧ m = .int .u64 0) (fun _ i => 0)
  case atStart => exact ⟨rfl, rfl⟩
  case round =>
    obtain ⟨rfl, rfl⟩ := hrel
    go_wp2_with fail
    go_ret
    exact ⟨rfl, rfl⟩
theorem oneU_cells (w : World) (n : Int) : ∀ (j : Nat) (u : Value), ([.int .u64 n] : List Value)[j]? = some u → (w.alloc (.cells #[.int .u64 n] 55)).cell? ((⟨w.heap.size, 0, none⟩ : Addr).add j) = some u := by
  intro j u hu
  match j with
  | 0 => simp at hu; subst hu; simp [Addr.add]
  | j + 1 => simp at hu
theorem cellsU_append (s t : List Int) : cellsU (s ++ t) = cellsU s ++ cellsU t := by simp [cellsU]
theorem word_one (x : Int) : ∀ u ∈ ([.int .u64 x] : List Value), u.oneCell' = true := by
  intro u hu
  simp at hu
  subst hu
  rfl
set_option maxRecDepth 100000 in
set_option maxHeartbeats 4000000 in
theorem iState_1 (b off cap n m : Nat) (l : List Bool) (hln : l.length = n) (hn : n = 1 * m) (hm1 : 1 ≤ m) (hm4 : m ≤ 4) (hcap : n ≤ cap) (hcap1 : cap ≤ 9223372036854775807) (w : World) (hlt : b < w.heap.size)
    (hc : ∀ (i : Nat) (x : Bool), l[i]? = some x → w.cell? ⟨b, off + i, none⟩ = some (.bool x)) :
    Calls Tryd.prog 13 #[.int .i64 1, .slice (some ⟨b, off, none⟩) n cap] w fun e w' => ∃ r, e = .returned (.tuple #[r, .bool true]) ∧ w'.ownsRow w.heap.size 55 1 r (stateL 1 m l).length (cellsU (stateL 1 m l)) ∧ Below w.heap.size w w' := by
  obtain ⟨i0, hi, hz0, hz1, hz2⟩ := info_parts infoU64
  have g1 := goodLaid_any 1 w
  rw [decide_eq_true (by omega)] at g1
  have g2 := goodVars_yes m (by omega) w
  have hmod : (n : Int) % 1 = 0 := by omega
  have hdiv : (n : Int) / 1 = m := by omega
  have HL : Hid (∀ (j : Nat) (w1 : World), j < m → Below w.heap.size w w1 → Calls Tryd.prog 46 #[.slice (some ⟨b, off + 1 * j, none⟩) 1 (cap - 1 * j)] w1 fun e w' => e = .returned (.int .u64 (wordAt 1 l j)) ∧ w' = w1) := by
    intro j w1 hj hb
    have hl2 : ((l.drop (j * 1)).take 1).length = 1 := by rw [List.length_take, List.length_drop]; omega
    refine laidNumber_in b (off + 1 * j) (cap - 1 * j) 1 ((l.drop (j * 1)).take 1) hl2 (by omega) w1 ?_
    intro i x hx
    rw [List.getElem?_take] at hx
    split at hx
    · rw [List.getElem?_drop] at hx
      rw [hb.cell (p := ⟨b, off + 1 * j + i, none⟩) hlt, show off + 1 * j + i = off + (j * 1 + i) from by omega]
      exact hc _ x hx
    · cases hx
  have HN : Hid (n = 1 * m) := hn
  have hn63 : (n : Int) ≤ 16 := by omega
  clear hc hln
  go_enter Tryd.func13, Tryd.ntmps13
  go_wp2_with fail
  refine g1.mono ?_
  rintro e w1 ⟨rfl, rfl⟩
  clear g1
  go_wp2_with fail
  refine g2.mono ?_
  rintro e w1 ⟨rfl, rfl⟩
  clear g2
  go_wp2_with fail
  have HO3 : Hid (w1.ownsRow w1.heap.size 55 1 (.slice none 0 0) 0 []) := World.ownsRow_nil _ _ _ _
  have HB3 : Hid (Below w1.heap.size w1 w1) := Below.refl _ _
  go_loopw [6, 7] (fun v i wr => ∃ j : Nat, j ≤ m ∧ i = .int .i64 ((1 * j : Nat) : Int) ∧ Hid (wr.ownsRow w1.heap.size 55 1 v j (cellsU (stateL 1 j l))) ∧ Hid (Below w1.heap.size w1 wr)) (fun _ i _ => n - (intOf i).toNat)
  case atStart => exact ⟨0, by omega, rfl, HO3, HB3⟩
  case round =>
    obtain ⟨j, hj, rfl, HO, HB⟩ := hrel
    clear HO3 HB3
    by_cases hlt2 : j < m
    · have g3 := HL.out j wr hlt2 HB.out
      obtain ⟨va, vcp, hv⟩ := own_shape HO.out
      subst hv
      obtain ⟨q, hq⟩ : ∃ q : Nat, 1 * j = q := ⟨_, rfl⟩
      rw [hq] at g3 ⊢
      have HQ : Hid (1 * j = q) := hq
      have hq1 : q + 1 ≤ n := by omega
      have hq2 : q + 1 ≤ cap := by omega
      have HS : Hid (stateL 1 (j + 1) l = stateL 1 j l ++ [wordAt 1 l j]) := stateL_snoc 1 j l
      obtain ⟨z, hz⟩ : ∃ z, wordAt 1 l j = z := ⟨_, rfl⟩
      rw [hz] at g3 HS
      have own6 := World.ownsRow.alloc HO.out (.cells #[.int .u64 z] 55)
      have hb6 : Below w1.heap.size w1 (wr.alloc (.cells #[.int .u64 z] 55)) := HB.out.alloc HB.out.size _
      have hs6 := hb6.size
      clear hz hq HO HB
      go_wp2_with fail
      refine g3.mono ?_
      rintro e w4 ⟨rfl, hw4⟩
      have hw5 := hw4.symm
      subst hw5
      clear g3 hw4
      go_wp2_with (at_builtin; refine wpList_append_own _ rfl _ _ 24 rfl w1.heap.size 55 i0 (.int .u64 0) 1 8 Tryd.underlying24 hi hz0 hz1 hz2 rfl (by decide) _ _ _ rfl own6 ⟨wr.heap.size, 0, none⟩ 1 1 [.int .u64 z] rfl rfl (oneU_cells wr z) (word_one z) (by unfold maxLen; omega) (by omega) hs6 ?_)
      intro v7 w7 own7 grow7 _
      have HB7 : Hid (Below w1.heap.size w1 w7) := below_app hb6 (by omega) (Nat.le_refl _) own6 grow7
      have HO7 : Hid (w7.ownsRow w1.heap.size 55 1 v7 (j + 1) (cellsU (stateL 1 (j + 1) l))) := by
        show w7.ownsRow w1.heap.size 55 1 v7 (j + 1) (cellsU (stateL 1 (j + 1) l))
        rw [HS.out, cellsU_append]
        exact own7
      clear own6 own7 grow7 hb6 HS
      go_wp2_with fail
      go_roundw
      case rel => exact ⟨j + 1, by omega, (by rw [show 1 * (j + 1) = q + 1 from by have := HQ.out; omega]; go_num), HO7, HB7⟩
      case measure => simp [intOf]; omega
    · obtain rfl : j = m := by omega
      have HO9 : Hid (wr.ownsRow w1.heap.size 55 1 u6 (stateL 1 j l).length (cellsU (stateL 1 j l))) := by
        show wr.ownsRow w1.heap.size 55 1 u6 (stateL 1 j l).length (cellsU (stateL 1 j l))
        rw [stateL_len]
        exact HO.out
      rw [← HN.out]
      clear HO HL
      go_wp2_with fail
      go_ret2
      exact ⟨_, rfl, HO9.out, HB.out⟩
set_option maxRecDepth 100000 in
set_option maxHeartbeats 4000000 in
theorem iState_2 (b off cap n m : Nat) (l : List Bool) (hln : l.length = n) (hn : n = 2 * m) (hm1 : 1 ≤ m) (hm4 : m ≤ 4) (hcap : n ≤ cap) (hcap1 : cap ≤ 9223372036854775807) (w : World) (hlt : b < w.heap.size)
    (hc : ∀ (i : Nat) (x : Bool), l[i]? = some x → w.cell? ⟨b, off + i, none⟩ = some (.bool x)) :
    Calls Tryd.prog 13 #[.int .i64 2, .slice (some ⟨b, off, none⟩) n cap] w fun e w' => ∃ r, e = .returned (.tuple #[r, .bool true]) ∧ w'.ownsRow w.heap.size 55 1 r (stateL 2 m l).length (cellsU (stateL 2 m l)) ∧ Below w.heap.size w w' := by
  obtain ⟨i0, hi, hz0, hz1, hz2⟩ := info_parts infoU64
  have g1 := goodLaid_any 2 w
  rw [decide_eq_true (by omega)] at g1
  have g2 := goodVars_yes m (by omega) w
  have hmod : (n : Int) % 2 = 0 := by omega
  have hdiv : (n : Int) / 2 = m := by omega
  have HL : Hid (∀ (j : Nat) (w1 : World), j < m → Below w.heap.size w w1 → Calls Tryd.prog 46 #[.slice (some ⟨b, off + 2 * j, none⟩) 2 (cap - 2 * j)] w1 fun e w' => e = .returned (.int .u64 (wordAt 2 l j)) ∧ w' = w1) := by
    intro j w1 hj hb
    have hl2 : ((l.drop (j * 2)).take 2).length = 2 := by rw [List.length_take, List.length_drop]; omega
    refine laidNumber_in b (off + 2 * j) (cap - 2 * j) 2 ((l.drop (j * 2)).take 2) hl2 (by omega) w1 ?_
    intro i x hx
    rw [List.getElem?_take] at hx
    split at hx
    · rw [List.getElem?_drop] at hx
      rw [hb.cell (p := ⟨b, off + 2 * j + i, none⟩) hlt, show off + 2 * j + i = off + (j * 2 + i) from by omega]
      exact hc _ x hx
    · cases hx
  have HN : Hid (n = 2 * m) := hn
  have hn63 : (n : Int) ≤ 16 := by omega
  clear hc hln
  go_enter Tryd.func13, Tryd.ntmps13
  go_wp2_with fail
  refine g1.mono ?_
  rintro e w1 ⟨rfl, rfl⟩
  clear g1
  go_wp2_with fail
  refine g2.mono ?_
  rintro e w1 ⟨rfl, rfl⟩
  clear g2
  go_wp2_with fail
  have HO3 : Hid (w1.ownsRow w1.heap.size 55 1 (.slice none 0 0) 0 []) := World.ownsRow_nil _ _ _ _
  have HB3 : Hid (Below w1.heap.size w1 w1) := Below.refl _ _
  go_loopw [6, 7] (fun v i wr => ∃ j : Nat, j ≤ m ∧ i = .int .i64 ((2 * j : Nat) : Int) ∧ Hid (wr.ownsRow w1.heap.size 55 1 v j (cellsU (stateL 2 j l))) ∧ Hid (Below w1.heap.size w1 wr)) (fun _ i _ => n - (intOf i).toNat)
  case atStart => exact ⟨0, by omega, rfl, HO3, HB3⟩
  case round =>
    obtain ⟨j, hj, rfl, HO, HB⟩ := hrel
    clear HO3 HB3
    by_cases hlt2 : j < m
    · have g3 := HL.out j wr hlt2 HB.out
      obtain ⟨va, vcp, hv⟩ := own_shape HO.out
      subst hv
      obtain ⟨q, hq⟩ : ∃ q : Nat, 2 * j = q := ⟨_, rfl⟩
      rw [hq] at g3 ⊢
      have HQ : Hid (2 * j = q) := hq
      have hq1 : q + 2 ≤ n := by omega
      have hq2 : q + 2 ≤ cap := by omega
      have HS : Hid (stateL 2 (j + 1) l = stateL 2 j l ++ [wordAt 2 l j]) := stateL_snoc 2 j l
      obtain ⟨z, hz⟩ : ∃ z, wordAt 2 l j = z := ⟨_, rfl⟩
      rw [hz] at g3 HS
      have own6 := World.ownsRow.alloc HO.out (.cells #[.int .u64 z] 55)
      have hb6 : Below w1.heap.size w1 (wr.alloc (.cells #[.int .u64 z] 55)) := HB.out.alloc HB.out.size _
      have hs6 := hb6.size
      clear hz hq HO HB
      go_wp2_with fail
      refine g3.mono ?_
      rintro e w4 ⟨rfl, hw4⟩
      have hw5 := hw4.symm
      subst hw5
      clear g3 hw4
      go_wp2_with (at_builtin; refine wpList_append_own _ rfl _ _ 24 rfl w1.heap.size 55 i0 (.int .u64 0) 1 8 Tryd.underlying24 hi hz0 hz1 hz2 rfl (by decide) _ _ _ rfl own6 ⟨wr.heap.size, 0, none⟩ 1 1 [.int .u64 z] rfl rfl (oneU_cells wr z) (word_one z) (by unfold maxLen; omega) (by omega) hs6 ?_)
      intro v7 w7 own7 grow7 _
      have HB7 : Hid (Below w1.heap.size w1 w7) := below_app hb6 (by omega) (Nat.le_refl _) own6 grow7
      have HO7 : Hid (w7.ownsRow w1.heap.size 55 1 v7 (j + 1) (cellsU (stateL 2 (j + 1) l))) := by
        show w7.ownsRow w1.heap.size 55 1 v7 (j + 1) (cellsU (stateL 2 (j + 1) l))
        rw [HS.out, cellsU_append]
        exact own7
      clear own6 own7 grow7 hb6 HS
      go_wp2_with fail
      go_roundw
      case rel => exact ⟨j + 1, by omega, (by rw [show 2 * (j + 1) = q + 2 from by have := HQ.out; omega]; go_num), HO7, HB7⟩
      case measure => simp [intOf]; omega
    · obtain rfl : j = m := by omega
      have HO9 : Hid (wr.ownsRow w1.heap.size 55 1 u6 (stateL 2 j l).length (cellsU (stateL 2 j l))) := by
        show wr.ownsRow w1.heap.size 55 1 u6 (stateL 2 j l).length (cellsU (stateL 2 j l))
        rw [stateL_len]
        exact HO.out
      rw [← HN.out]
      clear HO HL
      go_wp2_with fail
      go_ret2
      exact ⟨_, rfl, HO9.out, HB.out⟩
set_option maxRecDepth 100000 in
set_option maxHeartbeats 4000000 in
theorem iState_3 (b off cap n m : Nat) (l : List Bool) (hln : l.length = n) (hn : n = 3 * m) (hm1 : 1 ≤ m) (hm4 : m ≤ 4) (hcap : n ≤ cap) (hcap1 : cap ≤ 9223372036854775807) (w : World) (hlt : b < w.heap.size)
    (hc : ∀ (i : Nat) (x : Bool), l[i]? = some x → w.cell? ⟨b, off + i, none⟩ = some (.bool x)) :
    Calls Tryd.prog 13 #[.int .i64 3, .slice (some ⟨b, off, none⟩) n cap] w fun e w' => ∃ r, e = .returned (.tuple #[r, .bool true]) ∧ w'.ownsRow w.heap.size 55 1 r (stateL 3 m l).length (cellsU (stateL 3 m l)) ∧ Below w.heap.size w w' := by
  obtain ⟨i0, hi, hz0, hz1, hz2⟩ := info_parts infoU64
  have g1 := goodLaid_any 3 w
  rw [decide_eq_true (by omega)] at g1
  have g2 := goodVars_yes m (by omega) w
  have hmod : (n : Int) % 3 = 0 := by omega
  have hdiv : (n : Int) / 3 = m := by omega
  have HL : Hid (∀ (j : Nat) (w1 : World), j < m → Below w.heap.size w w1 → Calls Tryd.prog 46 #[.slice (some ⟨b, off + 3 * j, none⟩) 3 (cap - 3 * j)] w1 fun e w' => e = .returned (.int .u64 (wordAt 3 l j)) ∧ w' = w1) := by
    intro j w1 hj hb
    have hl2 : ((l.drop (j * 3)).take 3).length = 3 := by rw [List.length_take, List.length_drop]; omega
    refine laidNumber_in b (off + 3 * j) (cap - 3 * j) 3 ((l.drop (j * 3)).take 3) hl2 (by omega) w1 ?_
    intro i x hx
    rw [List.getElem?_take] at hx
    split at hx
    · rw [List.getElem?_drop] at hx
      rw [hb.cell (p := ⟨b, off + 3 * j + i, none⟩) hlt, show off + 3 * j + i = off + (j * 3 + i) from by omega]
      exact hc _ x hx
    · cases hx
  have HN : Hid (n = 3 * m) := hn
  have hn63 : (n : Int) ≤ 16 := by omega
  clear hc hln
  go_enter Tryd.func13, Tryd.ntmps13
  go_wp2_with fail
  refine g1.mono ?_
  rintro e w1 ⟨rfl, rfl⟩
  clear g1
  go_wp2_with fail
  refine g2.mono ?_
  rintro e w1 ⟨rfl, rfl⟩
  clear g2
  go_wp2_with fail
  have HO3 : Hid (w1.ownsRow w1.heap.size 55 1 (.slice none 0 0) 0 []) := World.ownsRow_nil _ _ _ _
  have HB3 : Hid (Below w1.heap.size w1 w1) := Below.refl _ _
  go_loopw [6, 7] (fun v i wr => ∃ j : Nat, j ≤ m ∧ i = .int .i64 ((3 * j : Nat) : Int) ∧ Hid (wr.ownsRow w1.heap.size 55 1 v j (cellsU (stateL 3 j l))) ∧ Hid (Below w1.heap.size w1 wr)) (fun _ i _ => n - (intOf i).toNat)
  case atStart => exact ⟨0, by omega, rfl, HO3, HB3⟩
  case round =>
    obtain ⟨j, hj, rfl, HO, HB⟩ := hrel
    clear HO3 HB3
    by_cases hlt2 : j < m
    · have g3 := HL.out j wr hlt2 HB.out
      obtain ⟨va, vcp, hv⟩ := own_shape HO.out
      subst hv
      obtain ⟨q, hq⟩ : ∃ q : Nat, 3 * j = q := ⟨_, rfl⟩
      rw [hq] at g3 ⊢
      have HQ : Hid (3 * j = q) := hq
      have hq1 : q + 3 ≤ n := by omega
      have hq2 : q + 3 ≤ cap := by omega
      have HS : Hid (stateL 3 (j + 1) l = stateL 3 j l ++ [wordAt 3 l j]) := stateL_snoc 3 j l
      obtain ⟨z, hz⟩ : ∃ z, wordAt 3 l j = z := ⟨_, rfl⟩
      rw [hz] at g3 HS
      have own6 := World.ownsRow.alloc HO.out (.cells #[.int .u64 z] 55)
      have hb6 : Below w1.heap.size w1 (wr.alloc (.cells #[.int .u64 z] 55)) := HB.out.alloc HB.out.size _
      have hs6 := hb6.size
      clear hz hq HO HB
      go_wp2_with fail
      refine g3.mono ?_
      rintro e w4 ⟨rfl, hw4⟩
      have hw5 := hw4.symm
      subst hw5
      clear g3 hw4
      go_wp2_with (at_builtin; refine wpList_append_own _ rfl _ _ 24 rfl w1.heap.size 55 i0 (.int .u64 0) 1 8 Tryd.underlying24 hi hz0 hz1 hz2 rfl (by decide) _ _ _ rfl own6 ⟨wr.heap.size, 0, none⟩ 1 1 [.int .u64 z] rfl rfl (oneU_cells wr z) (word_one z) (by unfold maxLen; omega) (by omega) hs6 ?_)
      intro v7 w7 own7 grow7 _
      have HB7 : Hid (Below w1.heap.size w1 w7) := below_app hb6 (by omega) (Nat.le_refl _) own6 grow7
      have HO7 : Hid (w7.ownsRow w1.heap.size 55 1 v7 (j + 1) (cellsU (stateL 3 (j + 1) l))) := by
        show w7.ownsRow w1.heap.size 55 1 v7 (j + 1) (cellsU (stateL 3 (j + 1) l))
        rw [HS.out, cellsU_append]
        exact own7
      clear own6 own7 grow7 hb6 HS
      go_wp2_with fail
      go_roundw
      case rel => exact ⟨j + 1, by omega, (by rw [show 3 * (j + 1) = q + 3 from by have := HQ.out; omega]; go_num), HO7, HB7⟩
      case measure => simp [intOf]; omega
    · obtain rfl : j = m := by omega
      have HO9 : Hid (wr.ownsRow w1.heap.size 55 1 u6 (stateL 3 j l).length (cellsU (stateL 3 j l))) := by
        show wr.ownsRow w1.heap.size 55 1 u6 (stateL 3 j l).length (cellsU (stateL 3 j l))
        rw [stateL_len]
        exact HO.out
      rw [← HN.out]
      clear HO HL
      go_wp2_with fail
      go_ret2
      exact ⟨_, rfl, HO9.out, HB.out⟩
set_option maxRecDepth 100000 in
set_option maxHeartbeats 4000000 in
theorem iState_4 (b off cap n m : Nat) (l : List Bool) (hln : l.length = n) (hn : n = 4 * m) (hm1 : 1 ≤ m) (hm4 : m ≤ 4) (hcap : n ≤ cap) (hcap1 : cap ≤ 9223372036854775807) (w : World) (hlt : b < w.heap.size)
    (hc : ∀ (i : Nat) (x : Bool), l[i]? = some x → w.cell? ⟨b, off + i, none⟩ = some (.bool x)) :
    Calls Tryd.prog 13 #[.int .i64 4, .slice (some ⟨b, off, none⟩) n cap] w fun e w' => ∃ r, e = .returned (.tuple #[r, .bool true]) ∧ w'.ownsRow w.heap.size 55 1 r (stateL 4 m l).length (cellsU (stateL 4 m l)) ∧ Below w.heap.size w w' := by
  obtain ⟨i0, hi, hz0, hz1, hz2⟩ := info_parts infoU64
  have g1 := goodLaid_any 4 w
  rw [decide_eq_true (by omega)] at g1
  have g2 := goodVars_yes m (by omega) w
  have hmod : (n : Int) % 4 = 0 := by omega
  have hdiv : (n : Int) / 4 = m := by omega
  have HL : Hid (∀ (j : Nat) (w1 : World), j < m → Below w.heap.size w w1 → Calls Tryd.prog 46 #[.slice (some ⟨b, off + 4 * j, none⟩) 4 (cap - 4 * j)] w1 fun e w' => e = .returned (.int .u64 (wordAt 4 l j)) ∧ w' = w1) := by
    intro j w1 hj hb
    have hl2 : ((l.drop (j * 4)).take 4).length = 4 := by rw [List.length_take, List.length_drop]; omega
    refine laidNumber_in b (off + 4 * j) (cap - 4 * j) 4 ((l.drop (j * 4)).take 4) hl2 (by omega) w1 ?_
    intro i x hx
    rw [List.getElem?_take] at hx
    split at hx
    · rw [List.getElem?_drop] at hx
      rw [hb.cell (p := ⟨b, off + 4 * j + i, none⟩) hlt, show off + 4 * j + i = off + (j * 4 + i) from by omega]
      exact hc _ x hx
    · cases hx
  have HN : Hid (n = 4 * m) := hn
  have hn63 : (n : Int) ≤ 16 := by omega
  clear hc hln
  go_enter Tryd.func13, Tryd.ntmps13
  go_wp2_with fail
  refine g1.mono ?_
  rintro e w1 ⟨rfl, rfl⟩
  clear g1
  go_wp2_with fail
  refine g2.mono ?_
  rintro e w1 ⟨rfl, rfl⟩
  clear g2
  go_wp2_with fail
  have HO3 : Hid (w1.ownsRow w1.heap.size 55 1 (.slice none 0 0) 0 []) := World.ownsRow_nil _ _ _ _
  have HB3 : Hid (Below w1.heap.size w1 w1) := Below.refl _ _
  go_loopw [6, 7] (fun v i wr => ∃ j : Nat, j ≤ m ∧ i = .int .i64 ((4 * j : Nat) : Int) ∧ Hid (wr.ownsRow w1.heap.size 55 1 v j (cellsU (stateL 4 j l))) ∧ Hid (Below w1.heap.size w1 wr)) (fun _ i _ => n - (intOf i).toNat)
  case atStart => exact ⟨0, by omega, rfl, HO3, HB3⟩
  case round =>
    obtain ⟨j, hj, rfl, HO, HB⟩ := hrel
    clear HO3 HB3
    by_cases hlt2 : j < m
    · have g3 := HL.out j wr hlt2 HB.out
      obtain ⟨va, vcp, hv⟩ := own_shape HO.out
      subst hv
      obtain ⟨q, hq⟩ : ∃ q : Nat, 4 * j = q := ⟨_, rfl⟩
      rw [hq] at g3 ⊢
      have HQ : Hid (4 * j = q) := hq
      have hq1 : q + 4 ≤ n := by omega
      have hq2 : q + 4 ≤ cap := by omega
      have HS : Hid (stateL 4 (j + 1) l = stateL 4 j l ++ [wordAt 4 l j]) := stateL_snoc 4 j l
      obtain ⟨z, hz⟩ : ∃ z, wordAt 4 l j = z := ⟨_, rfl⟩
      rw [hz] at g3 HS
      have own6 := World.ownsRow.alloc HO.out (.cells #[.int .u64 z] 55)
      have hb6 : Below w1.heap.size w1 (wr.alloc (.cells #[.int .u64 z] 55)) := HB.out.alloc HB.out.size _
      have hs6 := hb6.size
      clear hz hq HO HB
      go_wp2_with fail
      refine g3.mono ?_
      rintro e w4 ⟨rfl, hw4⟩
      have hw5 := hw4.symm
      subst hw5
      clear g3 hw4
      go_wp2_with (at_builtin; refine wpList_append_own _ rfl _ _ 24 rfl w1.heap.size 55 i0 (.int .u64 0) 1 8 Tryd.underlying24 hi hz0 hz1 hz2 rfl (by decide) _ _ _ rfl own6 ⟨wr.heap.size, 0, none⟩ 1 1 [.int .u64 z] rfl rfl (oneU_cells wr z) (word_one z) (by unfold maxLen; omega) (by omega) hs6 ?_)
      intro v7 w7 own7 grow7 _
      have HB7 : Hid (Below w1.heap.size w1 w7) := below_app hb6 (by omega) (Nat.le_refl _) own6 grow7
      have HO7 : Hid (w7.ownsRow w1.heap.size 55 1 v7 (j + 1) (cellsU (stateL 4 (j + 1) l))) := by
        show w7.ownsRow w1.heap.size 55 1 v7 (j + 1) (cellsU (stateL 4 (j + 1) l))
        rw [HS.out, cellsU_append]
        exact own7
      clear own6 own7 grow7 hb6 HS
      go_wp2_with fail
      go_roundw
      case rel => exact ⟨j + 1, by omega, (by rw [show 4 * (j + 1) = q + 4 from by have := HQ.out; omega]; go_num), HO7, HB7⟩
      case measure => simp [intOf]; omega
    · obtain rfl : j = m := by omega
      have HO9 : Hid (wr.ownsRow w1.heap.size 55 1 u6 (stateL 4 j l).length (cellsU (stateL 4 j l))) := by
        show wr.ownsRow w1.heap.size 55 1 u6 (stateL 4 j l).length (cellsU (stateL 4 j l))
        rw [stateL_len]
        exact HO.out
      rw [← HN.out]
      clear HO HL
      go_wp2_with fail
      go_ret2
      exact ⟨_, rfl, HO9.out, HB.out⟩
end Go.Proofs.YtpjllhlbdcanlaaDoor

namespace Go.Proofs.YtpjllhlbdcanlaaDoor
open Go Go.RowKit
open M
set_option linter.unusedVariables false
set_option linter.unusedSimpArgs false

/-- words that are being put together: the bits ahead of k are in their places -/
def midL (W m : Nat) (l : List Bool) (k : Nat) : List Int := stateL W m (l.take k)
theorem midL_zero (W m : Nat) (l : List Bool) : midL W m l 0 = List.replicate m 0 := by
  unfold midL stateL
  rw [List.take_zero]
  apply List.ext_getElem
  · simp
  · intro i h1 h2
    simp [wordAt, numB]
theorem midL_step (W m : Nat) (l : List Bool) (k q r : Nat) (x : Bool) (hx : l[k]? = some x) (hk : k = q * W + r) (hr : r < W) (hq : q < m) :
    (midL W m l k)[q]? = some (numB ((l.drop (q * W)).take r) : Int) ∧ numB ((l.drop (q * W)).take r) < 2 ^ r ∧ midL W m l (k + 1) = (midL W m l k).set q (putN (numB ((l.drop (q * W)).take r)) r x : Int) := by
  have hkl : k < l.length := (List.getElem?_eq_some_iff.1 hx).1
  have e0 : (((l.take k).drop (q * W)).take W) = (l.drop (q * W)).take r := by
    rw [List.drop_take, List.take_take]
    congr 1
    omega
  have e1 : (((l.take (k + 1)).drop (q * W)).take W) = (l.drop (q * W)).take r ++ [x] := by
    rw [List.drop_take, List.take_take, show min W (k + 1 - q * W) = r + 1 from by omega, List.take_add_one]
    congr 1
    rw [List.getElem?_drop, show q * W + r = k from by omega, hx]
    rfl
  have hrl : ((l.drop (q * W)).take r).length = r := by rw [List.length_take, List.length_drop]; omega
  refine ⟨?_, by have h := numB_lt ((l.drop (q * W)).take r); rw [hrl] at h; exact h, ?_⟩
  · unfold midL stateL
    rw [List.getElem?_map, List.getElem?_range hq]
    simp only [Option.map_some, wordAt, e0]
  · apply List.ext_getElem?
    intro i
    by_cases hi : i < m
    · rw [List.getElem?_set]
      by_cases e : q = i
      · subst e
        rw [if_pos rfl, if_pos (by unfold midL; rw [stateL_len]; exact hq)]
        unfold midL stateL
        rw [List.getElem?_map, List.getElem?_range hq]
        simp only [Option.map_some, wordAt, e1]
        rw [numB_snoc, hrl]
      · rw [if_neg e]
        unfold midL stateL
        rw [List.getElem?_map, List.getElem?_map, List.getElem?_range hi]
        simp only [Option.map_some, wordAt]
        have ei : (((l.take (k + 1)).drop (i * W)).take W) = (((l.take k).drop (i * W)).take W) := by
          rw [List.drop_take, List.drop_take, List.take_take, List.take_take]
          rcases Nat.lt_or_ge i q with h | h
          · have h3 : (i + 1) * W ≤ q * W := Nat.mul_le_mul_right W h
            rw [Nat.add_mul] at h3
            rw [show min W (k + 1 - i * W) = W from by omega, show min W (k - i * W) = W from by omega]
          · have h3 : (q + 1) * W ≤ i * W := Nat.mul_le_mul_right W (by omega)
            rw [Nat.add_mul] at h3
            rw [show min W (k + 1 - i * W) = 0 from by omega, show min W (k - i * W) = 0 from by omega]
        rw [ei]
    · rw [List.getElem?_eq_none (by unfold midL; rw [stateL_len]; omega), List.getElem?_eq_none (by rw [List.length_set]; unfold midL; rw [stateL_len]; omega)]
theorem midL_len (W m : Nat) (l : List Bool) (k : Nat) : (midL W m l k).length = m := stateL_len _ _ _
theorem midL_end (W m : Nat) (l : List Bool) (k : Nat) (h : l.length ≤ k) : midL W m l k = stateL W m l := by
  unfold midL
  rw [List.take_of_length_le h]
set_option maxRecDepth 100000 in
set_option maxHeartbeats 4000000 in
theorem sState_1 (b off cap n m : Nat) (l : List Bool) (hln : l.length = n) (hn : n = 1 * m) (hm1 : 1 ≤ m) (hm4 : m ≤ 4) (w : World) (hlt : b < w.heap.size)
    (hc : ∀ (i : Nat) (x : Bool), l[i]? = some x → w.cell? ⟨b, off + i, none⟩ = some (.bool x)) :
    Calls Tryd.prog 16 #[.int .i64 1, .slice (some ⟨b, off, none⟩) n cap] w fun e w' => ∃ r, e = .returned (.tuple #[r, .bool true]) ∧ w'.ownsRow w.heap.size 55 1 r (stateL 1 m l).length (cellsU (stateL 1 m l)) ∧ Below w.heap.size w w' := by
  obtain ⟨i0, hi, hz0, hz1, hz2⟩ := info_parts infoU64
  have g1 := l5Wide_any 1 w
  rw [decide_eq_true (by omega)] at g1
  have g2 := l1In_any m 1 4 w
  rw [decide_eq_true (by omega)] at g2
  have HL : Hid (l.length = n) := hln
  obtain rfl : n = m := by omega
  have HN : Hid (n = 1 * n) := hn
  have HC : Hid (∀ w' : World, Below w.heap.size w w' → ∀ (i : Nat) (x : Bool), l[i]? = some x → w'.cell? ⟨b, off + i, none⟩ = some (.bool x)) := fun w' hb i x hx => (hb.cell (p := ⟨b, off + i, none⟩) hlt).trans (hc i x hx)
  have hn63 : (n : Int) ≤ 16 := by omega
  clear hc hln hn
  go_enter Tryd.func16, Tryd.ntmps16
  go_wp2_with fail
  refine g1.mono ?_
  rintro e w1 ⟨rfl, rfl⟩
  clear g1
  go_wp2_with fail
  refine g2.mono ?_
  rintro e w1 ⟨rfl, rfl⟩
  clear g2
  go_wp2_with (at_make; refine wpList_make_full _ rfl _ _ 24 rfl w1.heap.size 55 i0 (.int .u64 0) 1 Tryd.underlying24 hi hz0 hz1 .i64 .i64 _ _ n rfl rfl (by omega) (by omega) (by rw [hz2]; omega) (by unfold maxLen; omega) (Nat.le_refl _) ?_)
  intro w3 own3 grow3
  have HB3 : Hid (Below w1.heap.size w1 w3) := (Below.refl _ _).grown grow3 (Nat.le_refl _) (fun k hk => by cases hk)
  have HO3 : Hid (w3.ownsRow w1.heap.size 55 1 (.slice (some ⟨w1.heap.size, 0, none⟩) n n) n (cellsU (midL 1 n l 0))) := by
    have h2 := own3
    rw [toList_madeCells_one] at h2
    show w3.ownsRow w1.heap.size 55 1 (.slice (some ⟨w1.heap.size, 0, none⟩) n n) n (cellsU (midL 1 n l 0))
    rw [midL_zero]
    unfold cellsU
    rw [List.map_replicate]
    exact h2
  clear own3 grow3
  go_wp2_with fail
  go_loopw [34] (fun i wr => ∃ k : Nat, k ≤ n ∧ i = .int .i64 k ∧ Hid (wr.ownsRow w1.heap.size 55 1 (.slice (some ⟨w1.heap.size, 0, none⟩) n n) n (cellsU (midL 1 n l k))) ∧ Hid (Below w1.heap.size w1 wr)) (fun i _ => n - (intOf i).toNat)
  case atStart => exact ⟨0, by omega, rfl, HO3, HB3⟩
  case round =>
    obtain ⟨k, hk, rfl, HO, HB⟩ := hrel
    clear HO3 HB3
    by_cases hlt2 : k < n
    · obtain ⟨x, hx⟩ : ∃ x, l[k]? = some x := ⟨l[k]'(by have := HL.out; omega), List.getElem?_eq_getElem _⟩
      have c0 := HC.out wr HB.out k x hx
      obtain ⟨q, hq⟩ : ∃ q, k / 1 = q := ⟨_, rfl⟩
      obtain ⟨r, hr⟩ : ∃ r, k % 1 = r := ⟨_, rfl⟩
      have hqm : q < n := by have := HN.out; omega
      have hr4 : r < 1 := by omega
      obtain ⟨s1, s2, s3⟩ := midL_step 1 n l k q r x hx (by omega) hr4 hqm
      obtain rfl : k = q := by omega
      obtain rfl : 0 = r := by omega
      have ho := or_put 0 (by omega) _ s2 x
      generalize numB ((l.drop (k * 1)).take 0) = A at *
      have d0 : wr.cell? ⟨w1.heap.size, k, none⟩ = some (.int .u64 (A : Int)) := by
        rw [HO.out.cellAt k (by omega)]
        simp only [cellsU, List.getElem?_map, s1, Option.map_some]
      have f0 := HO.out.frozenAt k
      obtain ⟨X, hX⟩ : ∃ X : Int, (if x = true then (1 : Int) else 0) = X := ⟨_, rfl⟩
      have G : Hid (∀ w2 : World, Calls Tryd.prog 48 #[.bool x] w2 fun e w' => e = .returned (.int .u64 X) ∧ w' = w2) := fun w2 => by rw [← hX]; exact l2Bool_any x w2
      rw [hX] at ho
      generalize hP : putN A 0 x = P at *
      have ho9 : bits BinOp.or IntKind.u64 (A : Int) (IntKind.u64.wrap (X * 2 ^ min 0 64)) = (P : Int) := ho
      have ho9 : bits BinOp.or IntKind.u64 (A : Int) (IntKind.u64.wrap (X * 2 ^ min 0 64)) = (P : Int) := ho
      have st := HO.out.stored k (.int .u64 P)
      have HN2 : Hid ((wr.setCell ⟨w1.heap.size, k, none⟩ (.int .u64 P)).ownsRow w1.heap.size 55 1 (.slice (some ⟨w1.heap.size, 0, none⟩) n n) n (cellsU (midL 1 n l (k + 1)))) := by
        have h1 := st.1
        rw [show cellsU (midL 1 n l (k + 1)) = (cellsU (midL 1 n l k)).set k (.int .u64 P) from by rw [s3]; simp [cellsU, List.map_set]]
        exact h1
      have HB2 : Hid (Below w1.heap.size w1 (wr.setCell ⟨w1.heap.size, k, none⟩ (.int .u64 P))) := HB.out.setCell (Nat.le_refl _) _
      have hbl : b < wr.heap.size := Nat.lt_of_lt_of_le hlt HB.out.size
      have hqA : (k : Int) < (n : Int) := by omega
      have hqw : IntKind.i64.wrap (k : Int) = (k : Int) := IntWalk.i64_in _ ⟨by omega, by omega⟩
      have hq0 : (0 : Int) ≤ (k : Int) := by omega
      clear st s1 s2 s3 hx HO hP hX
      go_wp2_with fail
      go_region_with ((go_at_call 48; refine (G.out _).mono ?_; rintro e w2 ⟨rfl, rfl⟩))
      all_goals
        go_wp2_with fail
        go_roundw
        case rel => exact ⟨k + 1, by omega, by go_num, (by have h := HN2.out; rw [← ho] at h; exact h), (by have h := HB2.out; rw [← ho] at h; first | exact h | exact h.drew | exact h.drew.drew | exact h.drew.drew.drew)⟩
        case measure => simp [intOf]; omega
    · obtain rfl : k = n := by omega
      have HO9 : Hid (wr.ownsRow w1.heap.size 55 1 (.slice (some ⟨w1.heap.size, 0, none⟩) k k) (stateL 1 k l).length (cellsU (stateL 1 k l))) := by
        show wr.ownsRow w1.heap.size 55 1 (.slice (some ⟨w1.heap.size, 0, none⟩) k k) (stateL 1 k l).length (cellsU (stateL 1 k l))
        rw [stateL_len, ← midL_end 1 k l k (by have := HL.out; omega)]
        exact HO.out
      clear HO
      go_wp2_with fail
      go_ret2
      exact ⟨_, rfl, HO9.out, HB.out⟩
set_option maxRecDepth 100000 in
set_option maxHeartbeats 4000000 in
theorem sState_2 (b off cap n m : Nat) (l : List Bool) (hln : l.length = n) (hn : n = 2 * m) (hm1 : 1 ≤ m) (hm4 : m ≤ 4) (w : World) (hlt : b < w.heap.size)
    (hc : ∀ (i : Nat) (x : Bool), l[i]? = some x → w.cell? ⟨b, off + i, none⟩ = some (.bool x)) :
    Calls Tryd.prog 16 #[.int .i64 2, .slice (some ⟨b, off, none⟩) n cap] w fun e w' => ∃ r, e = .returned (.tuple #[r, .bool true]) ∧ w'.ownsRow w.heap.size 55 1 r (stateL 2 m l).length (cellsU (stateL 2 m l)) ∧ Below w.heap.size w w' := by
  obtain ⟨i0, hi, hz0, hz1, hz2⟩ := info_parts infoU64
  have g1 := l5Wide_any 2 w
  rw [decide_eq_true (by omega)] at g1
  have g2 := l1In_any m 1 4 w
  rw [decide_eq_true (by omega)] at g2
  have hmod : (n : Int) % 2 = 0 := by omega
  have hdiv : (n : Int) / 2 = m := by omega
  have HL : Hid (l.length = n) := hln
  have HN : Hid (n = 2 * m) := hn
  have HC : Hid (∀ w' : World, Below w.heap.size w w' → ∀ (i : Nat) (x : Bool), l[i]? = some x → w'.cell? ⟨b, off + i, none⟩ = some (.bool x)) := fun w' hb i x hx => (hb.cell (p := ⟨b, off + i, none⟩) hlt).trans (hc i x hx)
  have hn63 : (n : Int) ≤ 16 := by omega
  clear hc hln hn
  go_enter Tryd.func16, Tryd.ntmps16
  go_wp2_with fail
  refine g1.mono ?_
  rintro e w1 ⟨rfl, rfl⟩
  clear g1
  go_wp2_with fail
  refine g2.mono ?_
  rintro e w1 ⟨rfl, rfl⟩
  clear g2
  go_wp2_with (at_make; refine wpList_make_full _ rfl _ _ 24 rfl w1.heap.size 55 i0 (.int .u64 0) 1 Tryd.underlying24 hi hz0 hz1 .i64 .i64 _ _ m rfl rfl (by omega) (by omega) (by rw [hz2]; omega) (by unfold maxLen; omega) (Nat.le_refl _) ?_)
  intro w3 own3 grow3
  have HB3 : Hid (Below w1.heap.size w1 w3) := (Below.refl _ _).grown grow3 (Nat.le_refl _) (fun k hk => by cases hk)
  have HO3 : Hid (w3.ownsRow w1.heap.size 55 1 (.slice (some ⟨w1.heap.size, 0, none⟩) m m) m (cellsU (midL 2 m l 0))) := by
    have h2 := own3
    rw [toList_madeCells_one] at h2
    show w3.ownsRow w1.heap.size 55 1 (.slice (some ⟨w1.heap.size, 0, none⟩) m m) m (cellsU (midL 2 m l 0))
    rw [midL_zero]
    unfold cellsU
    rw [List.map_replicate]
    exact h2
  clear own3 grow3 hmod hdiv
  go_wp2_with fail
  go_loopw [34] (fun i wr => ∃ k : Nat, k ≤ n ∧ i = .int .i64 k ∧ Hid (wr.ownsRow w1.heap.size 55 1 (.slice (some ⟨w1.heap.size, 0, none⟩) m m) m (cellsU (midL 2 m l k))) ∧ Hid (Below w1.heap.size w1 wr)) (fun i _ => n - (intOf i).toNat)
  case atStart => exact ⟨0, by omega, rfl, HO3, HB3⟩
  case round =>
    obtain ⟨k, hk, rfl, HO, HB⟩ := hrel
    clear HO3 HB3
    by_cases hlt2 : k < n
    · obtain ⟨x, hx⟩ : ∃ x, l[k]? = some x := ⟨l[k]'(by have := HL.out; omega), List.getElem?_eq_getElem _⟩
      have c0 := HC.out wr HB.out k x hx
      obtain ⟨q, hq⟩ : ∃ q, k / 2 = q := ⟨_, rfl⟩
      obtain ⟨r, hr⟩ : ∃ r, k % 2 = r := ⟨_, rfl⟩
      have hqm : q < m := by have := HN.out; omega
      have hr4 : r < 2 := by omega
      obtain ⟨s1, s2, s3⟩ := midL_step 2 m l k q r x hx (by omega) hr4 hqm
      have ho := or_put r (by omega) _ s2 x
      generalize numB ((l.drop (q * 2)).take r) = A at *
      have d0 : wr.cell? ⟨w1.heap.size, q, none⟩ = some (.int .u64 (A : Int)) := by
        rw [HO.out.cellAt q (by omega)]
        simp only [cellsU, List.getElem?_map, s1, Option.map_some]
      have f0 := HO.out.frozenAt q
      obtain ⟨X, hX⟩ : ∃ X : Int, (if x = true then (1 : Int) else 0) = X := ⟨_, rfl⟩
      have G : Hid (∀ w2 : World, Calls Tryd.prog 48 #[.bool x] w2 fun e w' => e = .returned (.int .u64 X) ∧ w' = w2) := fun w2 => by rw [← hX]; exact l2Bool_any x w2
      rw [hX] at ho
      generalize hP : putN A r x = P at *
      have st := HO.out.stored q (.int .u64 P)
      have HN2 : Hid ((wr.setCell ⟨w1.heap.size, q, none⟩ (.int .u64 P)).ownsRow w1.heap.size 55 1 (.slice (some ⟨w1.heap.size, 0, none⟩) m m) m (cellsU (midL 2 m l (k + 1)))) := by
        have h1 := st.1
        rw [show cellsU (midL 2 m l (k + 1)) = (cellsU (midL 2 m l k)).set q (.int .u64 P) from by rw [s3]; simp [cellsU, List.map_set]]
        exact h1
      have HB2 : Hid (Below w1.heap.size w1 (wr.setCell ⟨w1.heap.size, q, none⟩ (.int .u64 P))) := HB.out.setCell (Nat.le_refl _) _
      have hbl : b < wr.heap.size := Nat.lt_of_lt_of_le hlt HB.out.size
      have hqi : (k : Int) / 2 = (q : Int) := by omega
      have hri : (k : Int) % 2 = (r : Int) := by omega
      have hrw : IntKind.u64.wrap (r : Int) = (r : Int) := IntWalk.u64_in _ ⟨by omega, by omega⟩
      have hr64 : (r : Int) < 64 := by omega
      have hqA : (q : Int) < (m : Int) := by omega
      have hqw : IntKind.i64.wrap (q : Int) = (q : Int) := IntWalk.i64_in _ ⟨by omega, by omega⟩
      have hrt : (k : Int).tmod 2 = (r : Int) := by rw [Int.tmod_eq_emod_of_nonneg (by omega)]; exact hri
      have hq0 : (0 : Int) ≤ (q : Int) := by omega
      clear st s1 s2 s3 hx HO hq hr hP hX
      go_wp2_with fail
      go_region_with ((go_at_call 48; refine (G.out _).mono ?_; rintro e w2 ⟨rfl, rfl⟩))
      all_goals
        go_wp2_with fail
        go_roundw
        case rel => exact ⟨k + 1, by omega, by go_num, HN2, (by first | exact HB2 | exact HB2.out.drew | exact HB2.out.drew.drew | exact HB2.out.drew.drew.drew)⟩
        case measure => simp [intOf]; omega
    · obtain rfl : k = n := by omega
      have HO9 : Hid (wr.ownsRow w1.heap.size 55 1 (.slice (some ⟨w1.heap.size, 0, none⟩) m m) (stateL 2 m l).length (cellsU (stateL 2 m l))) := by
        show wr.ownsRow w1.heap.size 55 1 (.slice (some ⟨w1.heap.size, 0, none⟩) m m) (stateL 2 m l).length (cellsU (stateL 2 m l))
        rw [stateL_len, ← midL_end 2 m l k (by have := HL.out; omega)]
        exact HO.out
      clear HO
      go_wp2_with fail
      go_ret2
      exact ⟨_, rfl, HO9.out, HB.out⟩
set_option maxRecDepth 100000 in
set_option maxHeartbeats 4000000 in
theorem sState_3 (b off cap n m : Nat) (l : List Bool) (hln : l.length = n) (hn : n = 3 * m) (hm1 : 1 ≤ m) (hm4 : m ≤ 4) (w : World) (hlt : b < w.heap.size)
    (hc : ∀ (i : Nat) (x : Bool), l[i]? = some x → w.cell? ⟨b, off + i, none⟩ = some (.bool x)) :
    Calls Tryd.prog 16 #[.int .i64 3, .slice (some ⟨b, off, none⟩) n cap] w fun e w' => ∃ r, e = .returned (.tuple #[r, .bool true]) ∧ w'.ownsRow w.heap.size 55 1 r (stateL 3 m l).length (cellsU (stateL 3 m l)) ∧ Below w.heap.size w w' := by
  obtain ⟨i0, hi, hz0, hz1, hz2⟩ := info_parts infoU64
  have g1 := l5Wide_any 3 w
  rw [decide_eq_true (by omega)] at g1
  have g2 := l1In_any m 1 4 w
  rw [decide_eq_true (by omega)] at g2
  have hmod : (n : Int) % 3 = 0 := by omega
  have hdiv : (n : Int) / 3 = m := by omega
  have HL : Hid (l.length = n) := hln
  have HN : Hid (n = 3 * m) := hn
  have HC : Hid (∀ w' : World, Below w.heap.size w w' → ∀ (i : Nat) (x : Bool), l[i]? = some x → w'.cell? ⟨b, off + i, none⟩ = some (.bool x)) := fun w' hb i x hx => (hb.cell (p := ⟨b, off + i, none⟩) hlt).trans (hc i x hx)
  have hn63 : (n : Int) ≤ 16 := by omega
  clear hc hln hn
  go_enter Tryd.func16, Tryd.ntmps16
  go_wp2_with fail
  refine g1.mono ?_
  rintro e w1 ⟨rfl, rfl⟩
  clear g1
  go_wp2_with fail
  refine g2.mono ?_
  rintro e w1 ⟨rfl, rfl⟩
  clear g2
  go_wp2_with (at_make; refine wpList_make_full _ rfl _ _ 24 rfl w1.heap.size 55 i0 (.int .u64 0) 1 Tryd.underlying24 hi hz0 hz1 .i64 .i64 _ _ m rfl rfl (by omega) (by omega) (by rw [hz2]; omega) (by unfold maxLen; omega) (Nat.le_refl _) ?_)
  intro w3 own3 grow3
  have HB3 : Hid (Below w1.heap.size w1 w3) := (Below.refl _ _).grown grow3 (Nat.le_refl _) (fun k hk => by cases hk)
  have HO3 : Hid (w3.ownsRow w1.heap.size 55 1 (.slice (some ⟨w1.heap.size, 0, none⟩) m m) m (cellsU (midL 3 m l 0))) := by
    have h2 := own3
    rw [toList_madeCells_one] at h2
    show w3.ownsRow w1.heap.size 55 1 (.slice (some ⟨w1.heap.size, 0, none⟩) m m) m (cellsU (midL 3 m l 0))
    rw [midL_zero]
    unfold cellsU
    rw [List.map_replicate]
    exact h2
  clear own3 grow3 hmod hdiv
  go_wp2_with fail
  go_loopw [34] (fun i wr => ∃ k : Nat, k ≤ n ∧ i = .int .i64 k ∧ Hid (wr.ownsRow w1.heap.size 55 1 (.slice (some ⟨w1.heap.size, 0, none⟩) m m) m (cellsU (midL 3 m l k))) ∧ Hid (Below w1.heap.size w1 wr)) (fun i _ => n - (intOf i).toNat)
  case atStart => exact ⟨0, by omega, rfl, HO3, HB3⟩
  case round =>
    obtain ⟨k, hk, rfl, HO, HB⟩ := hrel
    clear HO3 HB3
    by_cases hlt2 : k < n
    · obtain ⟨x, hx⟩ : ∃ x, l[k]? = some x := ⟨l[k]'(by have := HL.out; omega), List.getElem?_eq_getElem _⟩
      have c0 := HC.out wr HB.out k x hx
      obtain ⟨q, hq⟩ : ∃ q, k / 3 = q := ⟨_, rfl⟩
      obtain ⟨r, hr⟩ : ∃ r, k % 3 = r := ⟨_, rfl⟩
      have hqm : q < m := by have := HN.out; omega
      have hr4 : r < 3 := by omega
      obtain ⟨s1, s2, s3⟩ := midL_step 3 m l k q r x hx (by omega) hr4 hqm
      have ho := or_put r (by omega) _ s2 x
      generalize numB ((l.drop (q * 3)).take r) = A at *
      have d0 : wr.cell? ⟨w1.heap.size, q, none⟩ = some (.int .u64 (A : Int)) := by
        rw [HO.out.cellAt q (by omega)]
        simp only [cellsU, List.getElem?_map, s1, Option.map_some]
      have f0 := HO.out.frozenAt q
      obtain ⟨X, hX⟩ : ∃ X : Int, (if x = true then (1 : Int) else 0) = X := ⟨_, rfl⟩
      have G : Hid (∀ w2 : World, Calls Tryd.prog 48 #[.bool x] w2 fun e w' => e = .returned (.int .u64 X) ∧ w' = w2) := fun w2 => by rw [← hX]; exact l2Bool_any x w2
      rw [hX] at ho
      generalize hP : putN A r x = P at *
      have st := HO.out.stored q (.int .u64 P)
      have HN2 : Hid ((wr.setCell ⟨w1.heap.size, q, none⟩ (.int .u64 P)).ownsRow w1.heap.size 55 1 (.slice (some ⟨w1.heap.size, 0, none⟩) m m) m (cellsU (midL 3 m l (k + 1)))) := by
        have h1 := st.1
        rw [show cellsU (midL 3 m l (k + 1)) = (cellsU (midL 3 m l k)).set q (.int .u64 P) from by rw [s3]; simp [cellsU, List.map_set]]
        exact h1
      have HB2 : Hid (Below w1.heap.size w1 (wr.setCell ⟨w1.heap.size, q, none⟩ (.int .u64 P))) := HB.out.setCell (Nat.le_refl _) _
      have hbl : b < wr.heap.size := Nat.lt_of_lt_of_le hlt HB.out.size
      have hqi : (k : Int) / 3 = (q : Int) := by omega
      have hri : (k : Int) % 3 = (r : Int) := by omega
      have hrw : IntKind.u64.wrap (r : Int) = (r : Int) := IntWalk.u64_in _ ⟨by omega, by omega⟩
      have hr64 : (r : Int) < 64 := by omega
      have hqA : (q : Int) < (m : Int) := by omega
      have hqw : IntKind.i64.wrap (q : Int) = (q : Int) := IntWalk.i64_in _ ⟨by omega, by omega⟩
      have hrt : (k : Int).tmod 3 = (r : Int) := by rw [Int.tmod_eq_emod_of_nonneg (by omega)]; exact hri
      have hq0 : (0 : Int) ≤ (q : Int) := by omega
      clear st s1 s2 s3 hx HO hq hr hP hX
      go_wp2_with fail
      go_region_with ((go_at_call 48; refine (G.out _).mono ?_; rintro e w2 ⟨rfl, rfl⟩))
      all_goals
        go_wp2_with fail
        go_roundw
        case rel => exact ⟨k + 1, by omega, by go_num, HN2, (by first | exact HB2 | exact HB2.out.drew | exact HB2.out.drew.drew | exact HB2.out.drew.drew.drew)⟩
        case measure => simp [intOf]; omega
    · obtain rfl : k = n := by omega
      have HO9 : Hid (wr.ownsRow w1.heap.size 55 1 (.slice (some ⟨w1.heap.size, 0, none⟩) m m) (stateL 3 m l).length (cellsU (stateL 3 m l))) := by
        show wr.ownsRow w1.heap.size 55 1 (.slice (some ⟨w1.heap.size, 0, none⟩) m m) (stateL 3 m l).length (cellsU (stateL 3 m l))
        rw [stateL_len, ← midL_end 3 m l k (by have := HL.out; omega)]
        exact HO.out
      clear HO
      go_wp2_with fail
      go_ret2
      exact ⟨_, rfl, HO9.out, HB.out⟩
set_option maxRecDepth 100000 in
set_option maxHeartbeats 4000000 in
theorem sState_4 (b off cap n m : Nat) (l : List Bool) (hln : l.length = n) (hn : n = 4 * m) (hm1 : 1 ≤ m) (hm4 : m ≤ 4) (w : World) (hlt : b < w.heap.size)
    (hc : ∀ (i : Nat) (x : Bool), l[i]? = some x → w.cell? ⟨b, off + i, none⟩ = some (.bool x)) :
    Calls Tryd.prog 16 #[.int .i64 4, .slice (some ⟨b, off, none⟩) n cap] w fun e w' => ∃ r, e = .returned (.tuple #[r, .bool true]) ∧ w'.ownsRow w.heap.size 55 1 r (stateL 4 m l).length (cellsU (stateL 4 m l)) ∧ Below w.heap.size w w' := by
  obtain ⟨i0, hi, hz0, hz1, hz2⟩ := info_parts infoU64
  have g1 := l5Wide_any 4 w
  rw [decide_eq_true (by omega)] at g1
  have g2 := l1In_any m 1 4 w
  rw [decide_eq_true (by omega)] at g2
  have hmod : (n : Int) % 4 = 0 := by omega
  have hdiv : (n : Int) / 4 = m := by omega
  have HL : Hid (l.length = n) := hln
  have HN : Hid (n = 4 * m) := hn
  have HC : Hid (∀ w' : World, Below w.heap.size w w' → ∀ (i : Nat) (x : Bool), l[i]? = some x → w'.cell? ⟨b, off + i, none⟩ = some (.bool x)) := fun w' hb i x hx => (hb.cell (p := ⟨b, off + i, none⟩) hlt).trans (hc i x hx)
  have hn63 : (n : Int) ≤ 16 := by omega
  clear hc hln hn
  go_enter Tryd.func16, Tryd.ntmps16
  go_wp2_with fail
  refine g1.mono ?_
  rintro e w1 ⟨rfl, rfl⟩
  clear g1
  go_wp2_with fail
  refine g2.mono ?_
  rintro e w1 ⟨rfl, rfl⟩
  clear g2
  go_wp2_with (at_make; refine wpList_make_full _ rfl _ _ 24 rfl w1.heap.size 55 i0 (.int .u64 0) 1 Tryd.underlying24 hi hz0 hz1 .i64 .i64 _ _ m rfl rfl (by omega) (by omega) (by rw [hz2]; omega) (by unfold maxLen; omega) (Nat.le_refl _) ?_)
  intro w3 own3 grow3
  have HB3 : Hid (Below w1.heap.size w1 w3) := (Below.refl _ _).grown grow3 (Nat.le_refl _) (fun k hk => by cases hk)
  have HO3 : Hid (w3.ownsRow w1.heap.size 55 1 (.slice (some ⟨w1.heap.size, 0, none⟩) m m) m (cellsU (midL 4 m l 0))) := by
    have h2 := own3
    rw [toList_madeCells_one] at h2
    show w3.ownsRow w1.heap.size 55 1 (.slice (some ⟨w1.heap.size, 0, none⟩) m m) m (cellsU (midL 4 m l 0))
    rw [midL_zero]
    unfold cellsU
    rw [List.map_replicate]
    exact h2
  clear own3 grow3 hmod hdiv
  go_wp2_with fail
  go_loopw [34] (fun i wr => ∃ k : Nat, k ≤ n ∧ i = .int .i64 k ∧ Hid (wr.ownsRow w1.heap.size 55 1 (.slice (some ⟨w1.heap.size, 0, none⟩) m m) m (cellsU (midL 4 m l k))) ∧ Hid (Below w1.heap.size w1 wr)) (fun i _ => n - (intOf i).toNat)
  case atStart => exact ⟨0, by omega, rfl, HO3, HB3⟩
  case round =>
    obtain ⟨k, hk, rfl, HO, HB⟩ := hrel
    clear HO3 HB3
    by_cases hlt2 : k < n
    · obtain ⟨x, hx⟩ : ∃ x, l[k]? = some x := ⟨l[k]'(by have := HL.out; omega), List.getElem?_eq_getElem _⟩
      have c0 := HC.out wr HB.out k x hx
      obtain ⟨q, hq⟩ : ∃ q, k / 4 = q := ⟨_, rfl⟩
      obtain ⟨r, hr⟩ : ∃ r, k % 4 = r := ⟨_, rfl⟩
      have hqm : q < m := by have := HN.out; omega
      have hr4 : r < 4 := by omega
      obtain ⟨s1, s2, s3⟩ := midL_step 4 m l k q r x hx (by omega) hr4 hqm
      have ho := or_put r (by omega) _ s2 x
      generalize numB ((l.drop (q * 4)).take r) = A at *
      have d0 : wr.cell? ⟨w1.heap.size, q, none⟩ = some (.int .u64 (A : Int)) := by
        rw [HO.out.cellAt q (by omega)]
        simp only [cellsU, List.getElem?_map, s1, Option.map_some]
      have f0 := HO.out.frozenAt q
      obtain ⟨X, hX⟩ : ∃ X : Int, (if x = true then (1 : Int) else 0) = X := ⟨_, rfl⟩
      have G : Hid (∀ w2 : World, Calls Tryd.prog 48 #[.bool x] w2 fun e w' => e = .returned (.int .u64 X) ∧ w' = w2) := fun w2 => by rw [← hX]; exact l2Bool_any x w2
      rw [hX] at ho
      generalize hP : putN A r x = P at *
      have st := HO.out.stored q (.int .u64 P)
      have HN2 : Hid ((wr.setCell ⟨w1.heap.size, q, none⟩ (.int .u64 P)).ownsRow w1.heap.size 55 1 (.slice (some ⟨w1.heap.size, 0, none⟩) m m) m (cellsU (midL 4 m l (k + 1)))) := by
        have h1 := st.1
        rw [show cellsU (midL 4 m l (k + 1)) = (cellsU (midL 4 m l k)).set q (.int .u64 P) from by rw [s3]; simp [cellsU, List.map_set]]
        exact h1
      have HB2 : Hid (Below w1.heap.size w1 (wr.setCell ⟨w1.heap.size, q, none⟩ (.int .u64 P))) := HB.out.setCell (Nat.le_refl _) _
      have hbl : b < wr.heap.size := Nat.lt_of_lt_of_le hlt HB.out.size
      have hqi : (k : Int) / 4 = (q : Int) := by omega
      have hri : (k : Int) % 4 = (r : Int) := by omega
      have hrw : IntKind.u64.wrap (r : Int) = (r : Int) := IntWalk.u64_in _ ⟨by omega, by omega⟩
      have hr64 : (r : Int) < 64 := by omega
      have hqA : (q : Int) < (m : Int) := by omega
      have hqw : IntKind.i64.wrap (q : Int) = (q : Int) := IntWalk.i64_in _ ⟨by omega, by omega⟩
      have hrt : (k : Int).tmod 4 = (r : Int) := by rw [Int.tmod_eq_emod_of_nonneg (by omega)]; exact hri
      have hq0 : (0 : Int) ≤ (q : Int) := by omega
      clear st s1 s2 s3 hx HO hq hr hP hX
      go_wp2_with fail
      go_region_with ((go_at_call 48; refine (G.out _).mono ?_; rintro e w2 ⟨rfl, rfl⟩))
      all_goals
        go_wp2_with fail
        go_roundw
        case rel => exact ⟨k + 1, by omega, by go_num, HN2, (by first | exact HB2 | exact HB2.out.drew | exact HB2.out.drew.drew | exact HB2.out.drew.drew.drew)⟩
        case measure => simp [intOf]; omega
    · obtain rfl : k = n := by omega
      have HO9 : Hid (wr.ownsRow w1.heap.size 55 1 (.slice (some ⟨w1.heap.size, 0, none⟩) m m) (stateL 4 m l).length (cellsU (stateL 4 m l))) := by
        show wr.ownsRow w1.heap.size 55 1 (.slice (some ⟨w1.heap.size, 0, none⟩) m m) (stateL 4 m l).length (cellsU (stateL 4 m l))
        rw [stateL_len, ← midL_end 4 m l k (by have := HL.out; omega)]
        exact HO.out
      clear HO
      go_wp2_with fail
      go_ret2
      exact ⟨_, rfl, HO9.out, HB.out⟩
end Go.Proofs.YtpjllhlbdcanlaaDoor
