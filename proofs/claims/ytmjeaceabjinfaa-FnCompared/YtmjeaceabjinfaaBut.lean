/-
  Frames: nothing but two blocks has turned of what lay there; rows of gates that grow.
-/
import Derived.Test.YtmjeaceabjinfaaMoved
import Derived.Deep.RegionLaw
namespace Go.Proofs.Ytmjeaceabjinfaa
open Go Go.RowKit
open M
set_option linter.unusedVariables false

/-- of what lay there nothing but the blocks P and q has turned -/
structure But2 (P q : Nat) (w w' : World) : Prop where
  os : w'.os = w.os
  tape : w'.tape = w.tape
  output : w'.output = w.output
  size : w.heap.size ≤ w'.heap.size
  block : ∀ i, i < w.heap.size → i ≠ P → i ≠ q → w'.heap[i]? = w.heap[i]?
theorem But2.refl (P q : Nat) (w : World) : But2 P q w w := ⟨rfl, rfl, rfl, Nat.le_refl _, fun _ _ _ _ => rfl⟩
theorem But2.below {P q B : Nat} {u w w' : World} (h : But2 P q u w) (k : Below B w w') (hB : u.heap.size ≤ B) : But2 P q u w' :=
  ⟨k.os.trans h.os, k.tape.trans h.tape, k.output.trans h.output, Nat.le_trans h.size k.size, fun i hi h1 h2 => (k.block i (by omega)).trans (h.block i hi h1 h2)⟩
theorem But2.set {P q b o : Nat} {u w : World} {v : Value} (h : But2 P q u w) (hb : b = P ∨ b = q ∨ u.heap.size ≤ b) : But2 P q u (w.setCell ⟨b, o, none⟩ v) :=
  ⟨h.os, h.tape, h.output, by simpa [World.setCell] using h.size, fun i hi h1 h2 => (Below.heap_setCell _ _ _ _ (by show i ≠ b; omega)).trans (h.block i hi h1 h2)⟩
theorem But2.grown {P q : Nat} {u w w' : World} {row : Option Nat} (h : But2 P q u w) (g : w.grownBy w' row) (hr : ∀ k, row = some k → u.heap.size ≤ k) : But2 P q u w' :=
  ⟨g.os.trans h.os, g.tape.trans h.tape, g.output.trans h.output, Nat.le_trans h.size g.size, fun i hi h1 h2 => (g.block i (Nat.lt_of_lt_of_le hi h.size) (fun e => by have := hr i e.symm; omega)).trans (h.block i hi h1 h2)⟩
theorem But2.alloc {P q : Nat} {u w : World} (h : But2 P q u w) (o : Obj) : But2 P q u (w.alloc o) := h.below ((Below.refl w.heap.size w).alloc (Nat.le_refl _) o) h.size
theorem But2.out {P q B : Nat} {v u w : World} (h : But2 P q u w) (hb : Below B v u) (hP : B ≤ P) (hq : B ≤ q) (hB : B ≤ u.heap.size) : Below B v w :=
  ⟨h.os.trans hb.os, h.tape.trans hb.tape, h.output.trans hb.output, Nat.le_trans hb.size h.size, fun i hi => (h.block i (by omega) (by omega) (by omega)).trans (hb.block i hi)⟩
theorem Box3.but {P q b : Nat} {u w : World} {e : TypeId} {x y z : Value} (h : Box3 u b e x y z) (k : But2 P q u w) (h1 : b ≠ P) (h2 : b ≠ q) : Box3 w b e x y z := ⟨by rw [k.block b h.lt h1 h2]; exact h.heap⟩
/-- a row whose block stays -/
theorem own_keep {w w' : World} {B : Nat} {e : TypeId} {s : Nat} {v : Value} {n : Nat} {xs : List Value} (h : w.ownsRow B e s v n xs) (hb : ∀ g, v.ownBlock = some g → w'.heap[g]? = w.heap[g]?) : w'.ownsRow B e s v n xs := by
  obtain ⟨h1, h2⟩ := h
  refine ⟨h1, ?_⟩
  rcases h2 with h2 | ⟨g, cap, cur, hv, hB, hh, r⟩
  · exact Or.inl h2
  · refine Or.inr ⟨g, cap, cur, hv, hB, ?_, r⟩
    rw [hb g (by rw [hv]; rfl)]
    exact hh
theorem own_set {w : World} {B b o : Nat} {e : TypeId} {s : Nat} {v u : Value} {n : Nat} {xs : List Value} (h : w.ownsRow B e s v n xs) (hb : b < B) : (w.setCell ⟨b, o, none⟩ u).ownsRow B e s v n xs :=
  own_keep h (fun g hg => Below.heap_setCell _ _ _ _ (by show g ≠ b; have := (own_block h hg).1; omega))
theorem own_set' {w : World} {B b o g cap : Nat} {e : TypeId} {s : Nat} {u : Value} {n : Nat} {xs : List Value} (h : w.ownsRow B e s (.slice (some ⟨g, 0, none⟩) n cap) n xs) (hb : b ≠ g) : (w.setCell ⟨b, o, none⟩ u).ownsRow B e s (.slice (some ⟨g, 0, none⟩) n cap) n xs :=
  own_keep h (fun g' hg => Below.heap_setCell _ _ _ _ (by show g' ≠ b; have e : g = g' := Option.some.inj hg; omega))
theorem own_grown {w w' : World} {B g cap : Nat} {e : TypeId} {s : Nat} {n : Nat} {xs : List Value} {row : Option Nat} (h : w.ownsRow B e s (.slice (some ⟨g, 0, none⟩) n cap) n xs) (k : w.grownBy w' row) (hr : row ≠ some g) : w'.ownsRow B e s (.slice (some ⟨g, 0, none⟩) n cap) n xs :=
  own_keep h (fun g' hg => by
    have e : g = g' := Option.some.inj hg
    subst e
    exact k.block g (own_block h rfl).2 (fun e => hr e.symm))
theorem own_but {u w : World} {P q B : Nat} {e : TypeId} {s : Nat} {v : Value} {n : Nat} {xs : List Value} (h : u.ownsRow B e s v n xs) (k : But2 P q u w) (hP : P < B) (hq : q < B) : w.ownsRow B e s v n xs :=
  own_keep h (fun g hg => by
    have := own_block h hg
    exact k.block g this.2 (by omega) (by omega))
/-- one gate in a new block, to be appended -/
theorem oneG_cells (w : World) (k a b : Int) : ∀ (j : Nat) (u : Value), ([.int .i64 k, .int .i64 a, .int .i64 b] : List Value)[j]? = some u → (w.alloc (.cells #[.int .i64 k, .int .i64 a, .int .i64 b] 108)).cell? ((⟨w.heap.size, 0, none⟩ : Addr).add j) = some u := by
  intro j u hu
  match j, hu with
  | 0, hu => simp at hu; subst hu; simp [Addr.add]
  | 1, hu => simp at hu; subst hu; simp [Addr.add]
  | 2, hu => simp at hu; subst hu; simp [Addr.add]
theorem flat3_one : ∀ t : List Gt, ∀ u ∈ flat3 t, u.oneCell' = true
  | [], u, h => by simp [flat3] at h
  | x :: t, u, h => by
    simp only [flat3, List.mem_cons] at h
    rcases h with rfl | rfl | rfl | h
    · rfl
    · rfl
    · rfl
    · exact flat3_one t u h
theorem grow_row {w w' : World} {B n : Nat} {e : TypeId} {s : Nat} {v : Value} {xs : List Value} (ho : w.ownsRow B e s v n xs) : ∀ k, v.ownBlock = some k → B ≤ k := fun k hk => (own_block ho hk).1
/-- append to a row of the call's own, as one step of a region that draws -/
theorem step_append_own {P : Program} {ops : Array Oper} {o : Oper} {a : Act} {w : World} {K : Act → World → Prop} {Q : Exit → Act → World → Prop} {E : Prop} (hgd : o.guard = none) (s x : Operand) (t : TypeId)
    (ho : o.op = .call { callee := .builtin .append, args := #[s, x], argTypes := #[t, t] })
    (base : Nat) (e : TypeId) (i : TypeInfo) (z : Value) (size bytes : Nat) (ht : P.underlying t = some (.slice e)) (hi : P.info? e = some i) (hz : i.zero = some z)
    (hsize : i.size = size) (hby : i.bytes = bytes) (hzs : z.cells.size = size) (hsz : 0 < size)
    (v : Value) (n : Nat) (xs : List Value) (hs : a.eval s = v) (hown : w.ownsRow base e size v n xs)
    (ad : Addr) (m c : Nat) (news : List Value) (hx : a.eval x = .slice (some ad) m c) (hl : news.length = m * size) (hnews : ∀ j u, news[j]? = some u → w.cell? (ad.add j) = some u) (h1 : ∀ u ∈ news, u.oneCell' = true)
    (h63 : n + m ≤ maxLen) (hbytes : (n + m) * bytes ≤ 140737488355328) (hbase : base ≤ w.heap.size)
    (h : ∀ v' w', w'.ownsRow base e size v' (n + m) (xs ++ news) → w.grownBy w' v.ownBlock → K (a.put o.dst v') w') :
    if Region.wanted o (yielded ops a.tmps) = true then Oper.wp P o a w K Q else E := by
  have hw : Region.wanted o (yielded ops a.tmps) = true := by simp [Region.wanted, hgd]
  rw [if_pos hw]
  exact wp_append_own w s x t ho base e i z size bytes ht hi hz hsize hby hzs hsz v n xs hs hown ad m c news hx hl hnews h1 h63 hbytes hbase (fun v' w' h2 h3 _ => h v' w' h2 h3)
/-- a row of numbers of which one is set -/
theorem put_at {w : World} {B g cap n : Nat} {m : List Int} (h : w.ownsRow B 3 1 (.slice (some ⟨g, 0, none⟩) n cap) n (cellsI m)) (i : Nat) (hi : i < n) (v : Int) :
    (∃ u, w.cell? ⟨g, i, none⟩ = some u) ∧ w.frozen? ⟨g, i, none⟩ = false ∧ (w.setCell ⟨g, i, none⟩ (.int .i64 v)).ownsRow B 3 1 (.slice (some ⟨g, 0, none⟩) n cap) n (cellsI (m.set i v)) := by
  have hl := h.1
  refine ⟨?_, h.frozenAt i, ?_⟩
  · refine ⟨_, (h.cellAt i (by omega)).trans (List.getElem?_eq_getElem (by omega))⟩
  · have st := (h.stored i (.int .i64 v)).1
    unfold cellsI at *
    rw [List.map_set]
    exact st
theorem ints_read {w : World} {B g cap n : Nat} {m : List Int} (h : w.ownsRow B 3 1 (.slice (some ⟨g, 0, none⟩) n cap) n (cellsI m)) (i : Nat) (hi : i < n) : w.cell? ⟨g, i, none⟩ = some (.int .i64 (atI m i)) := by
  have hl : m.length = n := by
    have := h.1
    unfold cellsI at this
    simpa using this
  rw [h.cellAt i (by omega)]
  unfold cellsI atI
  rw [List.getElem?_map, List.getElem?_eq_getElem (by omega), Int.toNat_natCast, List.getD_eq_getElem?_getD, List.getElem?_eq_getElem (by omega)]
  rfl
end Go.Proofs.Ytmjeaceabjinfaa
