/-
  Plain mathematics of circuits that grow: the gates of sums and comparisons, place by place.
  Circuits that grow: one gate laid behind them, by the program and by the model.
  Circuits that grow, with a wider frame: blocks of all types but circuits and gates stay.
  Loops of laid gates: sums and comparisons, of the program and of the model.
  Plain mathematics for terms as trees: a term's tree, its nodes in a row, its kind and size; what the pile makes of trees it makes of all that is read off them. No program stands in it.
  Plain mathematics of terms that are laid out as gates: what a node lays, what a tree lays, what the pile lays; how many gates, and which wires. No program stands in it.
  Plain mathematics of terms that are laid out as gates: which wires gates take, how the pile of wires goes with the pile of kinds. No program stands in it.
  Loops that lay one gate a place: bits, nots, pairs, of the program and of the model.
  The program's makers of layers: function values over a captured circuit.
-/
import Derived.Test.YtpjllhlbdcanlaaDoorPruneM
import Derived.Test.YtpjllhlbdcanlaaDoorBut
import Derived.Test.YtpjllhlbdcanlaaDoorValue
import Derived.Deep.RegionHeldLaw
import Derived.Laws.EntriesVeiled
namespace Go.Proofs.YtpjllhlbdcanlaaDoor
open Go
open M
set_option linter.unusedVariables false
set_option linter.unusedSimpArgs false

/-- the wire that carries on, k places behind the first, each of s gates the last of which is d behind its first -/
def onW (c n s d : Int) : Nat → Int
  | 0 => c
  | k + 1 => n + s * k + d
theorem onW_next (c n s d : Int) (k : Nat) : onW (n + d) (n + s) s d k = onW c n s d (k + 1) := by
  cases k with
  | zero => simp [onW]
  | succ k =>
    simp only [onW]
    rw [show ((k + 1 : Nat) : Int) = (k : Int) + 1 from by omega, Int.mul_add]
    omega
theorem addG_snoc : ∀ (xs ys : List Int) (x y c n : Int), xs.length = ys.length → addG (xs ++ [x]) (ys ++ [y]) c n = ((addG xs ys c n).1 ++ addOne x y (onW c n 5 4 xs.length) (n + 5 * xs.length), (addG xs ys c n).2 ++ [n + 5 * xs.length + 1])
  | [], [], x, y, c, n, _ => by simp [addG, onW]
  | x0 :: xs, y0 :: ys, x, y, c, n, h => by
    have ih := addG_snoc xs ys x y (n + 4) (n + 5) (by simpa using h)
    simp only [List.cons_append, addG, ih, List.length_cons]
    rw [onW_next c n 5 4 xs.length]
    have e : n + 5 + 5 * (xs.length : Int) = n + 5 * ((xs.length + 1 : Nat) : Int) := by omega
    rw [e]
    simp only [List.append_assoc]
  | [], _ :: _, _, _, _, _, h => by simp at h
  | _ :: _, [], _, _, _, _, h => by simp at h
theorem lessG_snoc : ∀ (xs ys : List Int) (x y c n : Int), xs.length = ys.length → (lessG (xs ++ [x]) (ys ++ [y]) c n).1 = (lessG xs ys c n).1 ++ lessOne x y (onW c n 6 5 xs.length) (n + 6 * xs.length)
  | [], [], x, y, c, n, _ => by simp [lessG, onW]
  | x0 :: xs, y0 :: ys, x, y, c, n, h => by
    have ih := lessG_snoc xs ys x y (n + 5) (n + 6) (by simpa using h)
    simp only [List.cons_append, lessG, ih, List.length_cons]
    rw [onW_next c n 6 5 xs.length]
    have e : n + 6 + 6 * (xs.length : Int) = n + 6 * ((xs.length + 1 : Nat) : Int) := by omega
    rw [e]
    simp only [List.append_assoc]
  | [], _ :: _, _, _, _, _, h => by simp at h
  | _ :: _, [], _, _, _, _, h => by simp at h
theorem eqG_snoc : ∀ (xs ys : List Int) (x y c n : Int), xs.length = ys.length → (eqG (xs ++ [x]) (ys ++ [y]) c n).1 = (eqG xs ys c n).1 ++ eqOne x y (onW c n 3 2 xs.length) (n + 3 * xs.length)
  | [], [], x, y, c, n, _ => by simp [eqG, onW]
  | x0 :: xs, y0 :: ys, x, y, c, n, h => by
    have ih := eqG_snoc xs ys x y (n + 2) (n + 3) (by simpa using h)
    simp only [List.cons_append, eqG, ih, List.length_cons]
    rw [onW_next c n 3 2 xs.length]
    have e : n + 3 + 3 * (xs.length : Int) = n + 3 * ((xs.length + 1 : Nat) : Int) := by omega
    rw [e]
    simp only [List.append_assoc]
  | [], _ :: _, _, _, _, _, h => by simp at h
  | _ :: _, [], _, _, _, _, h => by simp at h
theorem lessG_wire : ∀ (xs ys : List Int) (c n : Int), xs.length = ys.length → (lessG xs ys c n).2 = onW c n 6 5 xs.length
  | [], [], c, n, _ => rfl
  | x0 :: xs, y0 :: ys, c, n, h => by
    simp only [lessG, List.length_cons]
    rw [lessG_wire xs ys (n + 5) (n + 6) (by simpa using h), onW_next]
  | [], _ :: _, _, _, h => by simp at h
  | _ :: _, [], _, _, h => by simp at h
theorem eqG_wire : ∀ (xs ys : List Int) (c n : Int), xs.length = ys.length → (eqG xs ys c n).2 = onW c n 3 2 xs.length
  | [], [], c, n, _ => rfl
  | x0 :: xs, y0 :: ys, c, n, h => by
    simp only [eqG, List.length_cons]
    rw [eqG_wire xs ys (n + 2) (n + 3) (by simpa using h), onW_next]
  | [], _ :: _, _, _, h => by simp at h
  | _ :: _, [], _, _, h => by simp at h
theorem addG_len : ∀ (xs ys : List Int) (c n : Int), xs.length = ys.length → (addG xs ys c n).1.length = 5 * xs.length ∧ (addG xs ys c n).2.length = xs.length
  | [], [], c, n, _ => ⟨rfl, rfl⟩
  | x0 :: xs, y0 :: ys, c, n, h => by
    have := addG_len xs ys (n + 4) (n + 5) (by simpa using h)
    simp only [addG, addOne, List.length_append, List.length_cons, List.length_nil]
    omega
  | [], _ :: _, _, _, h => by simp at h
  | _ :: _, [], _, _, h => by simp at h
theorem lessG_len : ∀ (xs ys : List Int) (c n : Int), xs.length = ys.length → (lessG xs ys c n).1.length = 6 * xs.length
  | [], [], c, n, _ => rfl
  | x0 :: xs, y0 :: ys, c, n, h => by
    have := lessG_len xs ys (n + 5) (n + 6) (by simpa using h)
    simp only [lessG, lessOne, List.length_append, List.length_cons, List.length_nil]
    omega
  | [], _ :: _, _, _, h => by simp at h
  | _ :: _, [], _, _, h => by simp at h
theorem eqG_len : ∀ (xs ys : List Int) (c n : Int), xs.length = ys.length → (eqG xs ys c n).1.length = 3 * xs.length
  | [], [], c, n, _ => rfl
  | x0 :: xs, y0 :: ys, c, n, h => by
    have := eqG_len xs ys (n + 2) (n + 3) (by simpa using h)
    simp only [eqG, eqOne, List.length_append, List.length_cons, List.length_nil]
    omega
  | [], _ :: _, _, _, h => by simp at h
  | _ :: _, [], _, _, h => by simp at h
/-- gates whose numbers are small -/
def smG (m : Int) (g : Gt) : Prop := (0 ≤ g.1 ∧ g.1 ≤ 5) ∧ (0 ≤ g.2.1 ∧ g.2.1 ≤ m) ∧ (0 ≤ g.2.2 ∧ g.2.2 ≤ m)
theorem smG_ok {m : Int} {g : Gt} (h : smG m g) (hm : m ≤ 100000) : GtOk g := by
  unfold smG at h
  unfold GtOk Fit
  omega
theorem gateB_sm {own : Int} {g : Gt} (h : gateB own g = true) {m : Int} (hm : own ≤ m) (h1 : 1 ≤ m) : smG m g := by
  unfold smG
  rcases gateB_kind h with ⟨h1, _⟩ | ⟨h1, h2, _⟩ | ⟨h1, h2, h3⟩ <;> omega
theorem addG_sm (m : Int) : ∀ (xs ys : List Int) (c n : Int), (∀ x ∈ xs, 0 ≤ x ∧ x ≤ m) → (∀ x ∈ ys, 0 ≤ x ∧ x ≤ m) → 0 ≤ c → c ≤ m → 0 ≤ n → n + 5 * xs.length ≤ m → ∀ g ∈ (addG xs ys c n).1, smG m g
  | [], ys, c, n, _, _, _, _, _, _, g, hg => by simp [addG] at hg
  | _ :: _, [], c, n, _, _, _, _, _, _, g, hg => by simp [addG] at hg
  | x :: xs, y :: ys, c, n, hx, hy, hc0, hc, hn, hm, g, hg => by
    have h1 := hx x (by simp)
    have h2 := hy y (by simp)
    simp only [List.length_cons] at hm
    simp only [addG, addOne, List.mem_append, List.mem_cons, List.not_mem_nil, or_false] at hg
    rcases hg with (rfl | rfl | rfl | rfl | rfl) | hg
    · unfold smG; simp only; omega
    · unfold smG; simp only; omega
    · unfold smG; simp only; omega
    · unfold smG; simp only; omega
    · unfold smG; simp only; omega
    · exact addG_sm m xs ys (n + 4) (n + 5) (fun z hz => hx z (by simp [hz])) (fun z hz => hy z (by simp [hz])) (by omega) (by omega) (by omega) (by omega) g hg
theorem lessG_sm (m : Int) : ∀ (xs ys : List Int) (c n : Int), (∀ x ∈ xs, 0 ≤ x ∧ x ≤ m) → (∀ x ∈ ys, 0 ≤ x ∧ x ≤ m) → 0 ≤ c → c ≤ m → 0 ≤ n → n + 6 * xs.length ≤ m → ∀ g ∈ (lessG xs ys c n).1, smG m g
  | [], ys, c, n, _, _, _, _, _, _, g, hg => by simp [lessG] at hg
  | _ :: _, [], c, n, _, _, _, _, _, _, g, hg => by simp [lessG] at hg
  | x :: xs, y :: ys, c, n, hx, hy, hc0, hc, hn, hm, g, hg => by
    have h1 := hx x (by simp)
    have h2 := hy y (by simp)
    simp only [List.length_cons] at hm
    simp only [lessG, lessOne, List.mem_append, List.mem_cons, List.not_mem_nil, or_false] at hg
    rcases hg with (rfl | rfl | rfl | rfl | rfl | rfl) | hg
    · unfold smG; simp only; omega
    · unfold smG; simp only; omega
    · unfold smG; simp only; omega
    · unfold smG; simp only; omega
    · unfold smG; simp only; omega
    · unfold smG; simp only; omega
    · exact lessG_sm m xs ys (n + 5) (n + 6) (fun z hz => hx z (by simp [hz])) (fun z hz => hy z (by simp [hz])) (by omega) (by omega) (by omega) (by omega) g hg
theorem eqG_sm (m : Int) : ∀ (xs ys : List Int) (c n : Int), (∀ x ∈ xs, 0 ≤ x ∧ x ≤ m) → (∀ x ∈ ys, 0 ≤ x ∧ x ≤ m) → 0 ≤ c → c ≤ m → 0 ≤ n → n + 3 * xs.length ≤ m → ∀ g ∈ (eqG xs ys c n).1, smG m g
  | [], ys, c, n, _, _, _, _, _, _, g, hg => by simp [eqG] at hg
  | _ :: _, [], c, n, _, _, _, _, _, _, g, hg => by simp [eqG] at hg
  | x :: xs, y :: ys, c, n, hx, hy, hc0, hc, hn, hm, g, hg => by
    have h1 := hx x (by simp)
    have h2 := hy y (by simp)
    simp only [List.length_cons] at hm
    simp only [eqG, eqOne, List.mem_append, List.mem_cons, List.not_mem_nil, or_false] at hg
    rcases hg with (rfl | rfl | rfl) | hg
    · unfold smG; simp only; omega
    · unfold smG; simp only; omega
    · unfold smG; simp only; omega
    · exact eqG_sm m xs ys (n + 2) (n + 3) (fun z hz => hx z (by simp [hz])) (fun z hz => hy z (by simp [hz])) (by omega) (by omega) (by omega) (by omega) g hg
end Go.Proofs.YtpjllhlbdcanlaaDoor

namespace Go.Proofs.YtpjllhlbdcanlaaDoor
open Go Go.RowKit
open M
set_option linter.unusedVariables false
set_option linter.unusedSimpArgs false

/-- blocks of cells of type t stay as they are -/
structure KeepT (t : TypeId) (w w' : World) : Prop where
  block : ∀ (i : Nat) (cs : Array Value) (fr : Nat × Nat), w.heap[i]? = some (.cells cs t fr) → w'.heap[i]? = some (.cells cs t fr)
theorem KeepT.refl (t : TypeId) (w : World) : KeepT t w w := ⟨fun _ _ _ h => h⟩
theorem KeepT.trans {t : TypeId} {u v w : World} (h : KeepT t u v) (k : KeepT t v w) : KeepT t u w := ⟨fun i cs fr e => k.block i cs fr (h.block i cs fr e)⟩
theorem heap_lt {w : World} {i : Nat} {o : Obj} (h : w.heap[i]? = some o) : i < w.heap.size := by
  by_cases hb : i < w.heap.size
  · exact hb
  · rw [Array.getElem?_eq_none (by omega)] at h
    cases h
theorem KeepT.below {t : TypeId} {w w' : World} (h : Below w.heap.size w w') : KeepT t w w' := ⟨fun i cs fr e => by rw [h.block i (heap_lt e)]; exact e⟩
theorem KeepT.alloc (t : TypeId) (w : World) (o : Obj) : KeepT t w (w.alloc o) := KeepT.below ((Below.refl _ _).alloc (Nat.le_refl _) o)
theorem KeepT.set {t : TypeId} {w : World} {b o : Nat} {e : TypeId} {x y z v : Value} (h : Box3 w b e x y z) (he : e ≠ t) : KeepT t w (w.setCell ⟨b, o, none⟩ v) := ⟨fun i cs fr hi => by
  rw [Below.heap_setCell _ _ _ _ (show i ≠ b from fun e1 => by
    rw [e1, h.heap] at hi
    simp only [Option.some.injEq] at hi
    injection hi with _ h8
    exact he h8)]
  exact hi⟩
theorem KeepT.grown {t : TypeId} {w w' : World} {B n : Nat} {e : TypeId} {s : Nat} {v : Value} {xs : List Value} (h : w.ownsRow B e s v n xs) (k : w.grownBy w' v.ownBlock) (he : e ≠ t) : KeepT t w w' := ⟨fun i cs fr hi => by
  rw [k.block i (heap_lt hi) (fun e1 => by
    rcases h.2 with ⟨hv, _⟩ | ⟨g, cap, cur, hv, _, hh, _⟩
    · rw [hv] at e1
      cases e1
    · rw [hv] at e1
      have e2 : i = g := Option.some.inj e1
      rw [e2, hh] at hi
      simp only [Option.some.injEq] at hi
      injection hi with _ h8
      exact he h8)]
  exact hi⟩
theorem own_keepT {t : TypeId} {w w' : World} {B n : Nat} {s : Nat} {v : Value} {xs : List Value} (h : w.ownsRow B t s v n xs) (k : KeepT t w w') : w'.ownsRow B t s v n xs := by
  obtain ⟨h1, h2⟩ := h
  refine ⟨h1, ?_⟩
  rcases h2 with h2 | ⟨g, cap, cur, hv, hB, hh, r⟩
  · exact Or.inl h2
  · exact Or.inr ⟨g, cap, cur, hv, hB, k.block g _ _ hh, r⟩
theorem own_not {w : World} {B n b : Nat} {t e : TypeId} {s : Nat} {v x y z : Value} {xs : List Value} (h : w.ownsRow B t s v n xs) (k : Box3 w b e x y z) (he : e ≠ t) : v.ownBlock ≠ some b := by
  intro e1
  rcases h.2 with ⟨hv, _⟩ | ⟨g, cap, cur, hv, _, hh, _⟩
  · rw [hv] at e1
    cases e1
  · rw [hv] at e1
    have e2 : g = b := Option.some.inj e1
    rw [e2, k.heap] at hh
    simp only [Option.some.injEq] at hh
    injection hh with _ h8
    exact he h8
/-- a circuit that is being built, at block b, its rows from lo on, its outs below hi -/
def Bld (w : World) (lo hi b : Nat) (e : TypeId) (c : Ci) : Prop := lo ≤ b ∧ ∃ gsl osl, Box3 w b e (.int .i64 c.1) gsl osl ∧ w.ownsRow lo 107 3 gsl c.2.1.length (flat3 c.2.1) ∧ w.ownsRow lo 3 1 osl c.2.2.length (cellsI c.2.2) ∧ ∀ k, osl.ownBlock = some k → k < hi
theorem Bld.drew {w : World} {lo hi b : Nat} {e : TypeId} {c : Ci} (h : Bld w lo hi b e c) : Bld w.drew lo hi b e c := by
  obtain ⟨h0, gsl, osl, h1, h2, h3, h4⟩ := h
  exact ⟨h0, gsl, osl, ⟨h1.heap⟩, h2, h3, h4⟩
theorem KeepT.drew {t : TypeId} {u w : World} (h : KeepT t u w) : KeepT t u w.drew := ⟨h.block⟩
theorem Bld.size {w : World} {lo hi b : Nat} {e : TypeId} {c : Ci} (h : Bld w lo hi b e c) : lo ≤ w.heap.size := by
  obtain ⟨h0, _, _, h1, _⟩ := h
  have := h1.lt
  omega
/-- a list of numbers that has grown leaves what is being built -/
theorem Bld.sum {w w' : World} {lo hi b B n : Nat} {e : TypeId} {c : Ci} {v : Value} {xs : List Value} (h : Bld w lo hi b e c) (ho : w.ownsRow B 3 1 v n xs) (hB : hi ≤ B) (he : e ≠ 3) (g : w.grownBy w' v.ownBlock) : Bld w' lo hi b e c := by
  obtain ⟨h0, gsl, osl, h1, h2, h3, h4⟩ := h
  refine ⟨h0, gsl, osl, h1.grown g (own_not ho h1 he), own_keepT h2 (KeepT.grown ho g (by decide)), own_keep h3 (fun k hk => g.block k (own_block h3 hk).2 (fun e1 => ?_)), h4⟩
  have i1 := h4 k hk
  have i2 := (own_block ho e1.symm).1
  omega
/-- what a gate that is laid does to what is being built -/
theorem bld_grown {w w8 : World} {lo hi b : Nat} {e : TypeId} {c : Ci} {gsl osl v8 : Value} {k x y : Int} (heg : e ≠ 107) (hei : e ≠ 3) (hlo : lo ≤ b) (hx : Box3 w b e (.int .i64 c.1) gsl osl) (hg : w.ownsRow lo 107 3 gsl c.2.1.length (flat3 c.2.1)) (ho : w.ownsRow lo 3 1 osl c.2.2.length (cellsI c.2.2)) (hos : ∀ k, osl.ownBlock = some k → k < hi)
    (own8 : w8.ownsRow lo 107 3 v8 (c.2.1.length + 1) (flat3 c.2.1 ++ [.int .i64 k, .int .i64 x, .int .i64 y])) (grow8 : (w.alloc (.cells #[.int .i64 k, .int .i64 x, .int .i64 y] 107)).grownBy w8 gsl.ownBlock) :
    Box3 w8 b e (.int .i64 c.1) gsl osl ∧ Bld (w8.setCell ⟨b, 1, none⟩ v8) lo hi b e (c.1, c.2.1 ++ [(k, x, y)], c.2.2) ∧ Below lo w (w8.setCell ⟨b, 1, none⟩ v8) ∧ KeepT 3 w (w8.setCell ⟨b, 1, none⟩ v8) := by
  have hxa := hx.alloc (.cells #[.int .i64 k, .int .i64 x, .int .i64 y] 107)
  have hga := hg.alloc (.cells #[.int .i64 k, .int .i64 x, .int .i64 y] 107)
  have hoa := ho.alloc (.cells #[.int .i64 k, .int .i64 x, .int .i64 y] 107)
  have hx8 := hxa.grown grow8 (own_not hga hxa heg)
  have ho8 : w8.ownsRow lo 3 1 osl c.2.2.length (cellsI c.2.2) := own_keepT hoa (KeepT.grown hga grow8 (by decide))
  have hlt := hx.lt
  have hb : Below lo w (w.alloc (.cells #[.int .i64 k, .int .i64 x, .int .i64 y] 107)) := (Below.refl _ _).alloc (by omega) _
  have hb8 : Below lo w w8 := hb.grown grow8 (by simp; omega) (fun kk hk => (own_block hga hk).1)
  refine ⟨hx8, ⟨hlo, v8, osl, hx8.set1 v8, ?_, ?_, hos⟩, hb8.setCell hlo _, ?_⟩
  · have h1 := own_keep (w' := w8.setCell ⟨b, 1, none⟩ v8) own8 (fun g hg' => Below.heap_setCell _ _ _ _ (by show g ≠ b; intro e1; exact own_not own8 hx8 heg (e1 ▸ hg')))
    rw [List.length_append, flat3_append]
    exact h1
  · exact own_keepT ho8 (KeepT.set hx8 hei)
  · exact ((KeepT.alloc _ _ _).trans (KeepT.grown hga grow8 (by decide))).trans (KeepT.set hx8 hei)
set_option maxRecDepth 100000 in
set_option maxHeartbeats 4000000 in
theorem lay_any (lo hi b : Nat) (c : Ci) (k x y : Int) (hI0 : 0 ≤ c.1) (hI1 : c.1 ≤ 16) (hn : c.2.1.length ≤ 1000) (w : World) (h : Bld w lo hi b 41 c) :
    Calls Tryd.prog 117 #[.pointer (some ⟨b, 0, none⟩), .int .i64 k, .int .i64 x, .int .i64 y] w fun e w' => e = .returned (.int .i64 (c.1 + c.2.1.length)) ∧ Bld w' lo hi b 41 (c.1, c.2.1 ++ [(k, x, y)], c.2.2) ∧ Below lo w w' ∧ KeepT 3 w w' := by
  obtain ⟨hlo, gsl, osl, hx, hg, ho, hob⟩ := h
  obtain ⟨i0, hif, hz0, hz1, hz2⟩ := info_parts infoGate
  obtain ⟨ga, gcap, hgs⟩ := own_shape hg
  obtain ⟨oa, ocap, hos⟩ := own_shape ho
  subst hgs hos
  obtain ⟨ins, gs, os⟩ := c
  simp only at *
  have hlt := hx.lt
  obtain ⟨c0, c1, c2⟩ := hx.cells
  have hh := hx.heap
  have hE := fun v8 w8 => bld_grown (k := k) (x := x) (y := y) (c := (ins, gs, os)) (v8 := v8) (w8 := w8) (e := 41) (by decide) (by decide) hlo hx hg ho hob
  have HE : Hid _ := hE
  have hga := hg.alloc (.cells #[.int .i64 k, .int .i64 x, .int .i64 y] 107)
  have hsa : lo ≤ (w.alloc (.cells #[.int .i64 k, .int .i64 x, .int .i64 y] 107)).heap.size := by rw [World.size_alloc]; omega
  clear hE hx hg ho hob
  go_enter Tryd.func117, Tryd.ntmps117
  go_wp2_with (at_builtin; refine wpList_append_own _ rfl _ _ 38 rfl lo 107 i0 (.agg #[.int .i64 0, .int .i64 0, .int .i64 0]) 3 24 Tryd.underlying38 hif hz0 hz1 hz2 rfl (by decide) _ _ _ rfl hga ⟨w.heap.size, 0, none⟩ 1 1 [.int .i64 k, .int .i64 x, .int .i64 y] rfl rfl (oneG_cells w k x y) (flat3_one [(k, x, y)]) (by unfold maxLen; omega) (by omega) hsa ?_)
  intro v8 w8 own8 grow8 _
  obtain ⟨hx8, hB, hBl, hK⟩ := HE.out v8 w8 own8 grow8
  obtain ⟨va, vcap, hv8⟩ := own_shape own8
  subst hv8
  clear c0 c1 c2 hh hlt
  have hlt := hx8.lt
  obtain ⟨c0, c1, c2⟩ := hx8.cells
  have hh := hx8.heap
  have hf1 := hx8.frozen 1
  have y8 := hx8.set1 (.slice va (gs.length + 1) vcap)
  have hlt9 := y8.lt
  obtain ⟨d0, d1, d2⟩ := y8.cells
  have hh9 := y8.heap
  have g2 := size_raw ins va (gs.length + 1) vcap (.slice oa os.length ocap) (by omega) (by omega) (by omega) (w8.setCell ⟨b, 1, none⟩ (.slice va (gs.length + 1) vcap))
  obtain ⟨V, hV⟩ : ∃ V : Int, ins + ((gs.length + 1 : Nat) : Int) = V := ⟨_, rfl⟩
  rw [hV] at g2
  have hV0 : 0 ≤ V := by omega
  have hV1 : V ≤ 10000 := by omega
  have HV2 : Hid (V - 1 = ins + gs.length) := by
    show V - 1 = ins + gs.length
    omega
  have HB : Hid _ := hB
  have HBl : Hid _ := hBl
  have HK : Hid _ := hK
  clear hB hBl hK own8 grow8 hga hx8 y8 HE hV
  go_wp2_with fail
  refine g2.mono ?_
  rintro e w9 ⟨rfl, hw9⟩
  have HB9 : Hid (Bld w9 lo hi b 41 (ins, gs ++ [(k, x, y)], os)) := by
    obtain ⟨h0, gsl, osl, h1, h2, h3, h4⟩ := HB.out
    show Bld w9 lo hi b 41 (ins, gs ++ [(k, x, y)], os)
    rw [hw9]
    exact ⟨h0, gsl, osl, h1.alloc _, h2.alloc _, h3.alloc _, h4⟩
  have HBl9 : Hid (Below lo w w9) := by
    show Below lo w w9
    rw [hw9]
    exact HBl.out.alloc (by have := HBl.out.size; have := hlt9; omega) _
  have HK9 : Hid (KeepT 3 w w9) := by
    show KeepT 3 w w9
    rw [hw9]
    exact HK.out.trans (KeepT.alloc _ _ _)
  clear g2 hw9 HB HBl HK
  go_wp2_with fail
  go_ret
  exact ⟨ret_int HV2.out, HB9.out, HBl9.out, HK9.out⟩
set_option maxRecDepth 100000 in
set_option maxHeartbeats 4000000 in
theorem gate_any (lo hi b : Nat) (c : Ci) (k x y : Int) (hI0 : 0 ≤ c.1) (hI1 : c.1 ≤ 16) (hn : c.2.1.length ≤ 1000) (w : World) (h : Bld w lo hi b 99 c) :
    Calls Tryd.prog 95 #[.pointer (some ⟨b, 0, none⟩), .int .i64 k, .int .i64 x, .int .i64 y] w fun e w' => e = .returned (.int .i64 (c.1 + c.2.1.length)) ∧ Bld w' lo hi b 99 (c.1, c.2.1 ++ [(k, x, y)], c.2.2) ∧ Below lo w w' ∧ KeepT 3 w w' := by
  obtain ⟨hlo, gsl, osl, hx, hg, ho, hob⟩ := h
  obtain ⟨i0, hif, hz0, hz1, hz2⟩ := info_parts infoGate
  obtain ⟨ga, gcap, hgs⟩ := own_shape hg
  obtain ⟨oa, ocap, hos⟩ := own_shape ho
  subst hgs hos
  obtain ⟨ins, gs, os⟩ := c
  simp only at *
  have hlt := hx.lt
  obtain ⟨c0, c1, c2⟩ := hx.cells
  have hh := hx.heap
  have hE := fun v8 w8 => bld_grown (k := k) (x := x) (y := y) (c := (ins, gs, os)) (v8 := v8) (w8 := w8) (e := 99) (by decide) (by decide) hlo hx hg ho hob
  have HE : Hid _ := hE
  have hga := hg.alloc (.cells #[.int .i64 k, .int .i64 x, .int .i64 y] 107)
  have hsa : lo ≤ (w.alloc (.cells #[.int .i64 k, .int .i64 x, .int .i64 y] 107)).heap.size := by rw [World.size_alloc]; omega
  clear hE hx hg ho hob
  go_enter Tryd.func95, Tryd.ntmps95
  go_wp2_with (at_builtin; refine wpList_append_own _ rfl _ _ 38 rfl lo 107 i0 (.agg #[.int .i64 0, .int .i64 0, .int .i64 0]) 3 24 Tryd.underlying38 hif hz0 hz1 hz2 rfl (by decide) _ _ _ rfl hga ⟨w.heap.size, 0, none⟩ 1 1 [.int .i64 k, .int .i64 x, .int .i64 y] rfl rfl (oneG_cells w k x y) (flat3_one [(k, x, y)]) (by unfold maxLen; omega) (by omega) hsa ?_)
  intro v8 w8 own8 grow8 _
  obtain ⟨hx8, hB, hBl, hK⟩ := HE.out v8 w8 own8 grow8
  obtain ⟨va, vcap, hv8⟩ := own_shape own8
  subst hv8
  clear c0 c1 c2 hh hlt
  have hlt := hx8.lt
  obtain ⟨c0, c1, c2⟩ := hx8.cells
  have hh := hx8.heap
  have hf1 := hx8.frozen 1
  have y8 := hx8.set1 (.slice va (gs.length + 1) vcap)
  have hlt9 := y8.lt
  obtain ⟨d0, d1, d2⟩ := y8.cells
  have hh9 := y8.heap
  have g2 := l4Wires_raw ins va (gs.length + 1) vcap (.slice oa os.length ocap) (by omega) (by omega) (by omega) (w8.setCell ⟨b, 1, none⟩ (.slice va (gs.length + 1) vcap))
  obtain ⟨V, hV⟩ : ∃ V : Int, ins + ((gs.length + 1 : Nat) : Int) = V := ⟨_, rfl⟩
  rw [hV] at g2
  have hV0 : 0 ≤ V := by omega
  have hV1 : V ≤ 10000 := by omega
  have HV2 : Hid (V - 1 = ins + gs.length) := by
    show V - 1 = ins + gs.length
    omega
  have HB : Hid _ := hB
  have HBl : Hid _ := hBl
  have HK : Hid _ := hK
  clear hB hBl hK own8 grow8 hga hx8 y8 HE hV
  go_wp2_with fail
  refine g2.mono ?_
  rintro e w9 ⟨rfl, hw9⟩
  have HB9 : Hid (Bld w9 lo hi b 99 (ins, gs ++ [(k, x, y)], os)) := by
    obtain ⟨h0, gsl, osl, h1, h2, h3, h4⟩ := HB.out
    show Bld w9 lo hi b 99 (ins, gs ++ [(k, x, y)], os)
    rw [hw9]
    exact ⟨h0, gsl, osl, h1.alloc _, h2.alloc _, h3.alloc _, h4⟩
  have HBl9 : Hid (Below lo w w9) := by
    show Below lo w w9
    rw [hw9]
    exact HBl.out.alloc (by have := HBl.out.size; have := hlt9; omega) _
  have HK9 : Hid (KeepT 3 w w9) := by
    show KeepT 3 w w9
    rw [hw9]
    exact HK.out.trans (KeepT.alloc _ _ _)
  clear g2 hw9 HB HBl HK
  go_wp2_with fail
  go_ret
  exact ⟨ret_int HV2.out, HB9.out, HBl9.out, HK9.out⟩
end Go.Proofs.YtpjllhlbdcanlaaDoor

namespace Go.Proofs.YtpjllhlbdcanlaaDoor
open Go Go.RowKit
open M
set_option linter.unusedVariables false
set_option linter.unusedSimpArgs false

/-- blocks of all types but circuits and gates stay as they are -/
structure KeepC (w w' : World) : Prop where
  block : ∀ (i : Nat) (cs : Array Value) (t : TypeId) (fr : Nat × Nat), w.heap[i]? = some (.cells cs t fr) → t ≠ 41 → t ≠ 99 → t ≠ 107 → w'.heap[i]? = some (.cells cs t fr)
theorem KeepC.refl (w : World) : KeepC w w := ⟨fun _ _ _ _ h _ _ _ => h⟩
theorem KeepC.trans {u v w : World} (h : KeepC u v) (k : KeepC v w) : KeepC u w := ⟨fun i cs t fr e n1 n2 n3 => k.block i cs t fr (h.block i cs t fr e n1 n2 n3) n1 n2 n3⟩
theorem KeepC.below {w w' : World} (h : Below w.heap.size w w') : KeepC w w' := ⟨fun i cs t fr e _ _ _ => by rw [h.block i (heap_lt e)]; exact e⟩
theorem KeepC.alloc (w : World) (o : Obj) : KeepC w (w.alloc o) := KeepC.below ((Below.refl _ _).alloc (Nat.le_refl _) o)
theorem KeepC.drew {u w : World} (h : KeepC u w) : KeepC u w.drew := ⟨h.block⟩
theorem KeepC.of_drew {u w : World} (h : KeepC u.drew w) : KeepC u w := ⟨h.block⟩
theorem KeepC.int {w w' : World} (h : KeepC w w') : KeepT 3 w w' := ⟨fun i cs fr e => h.block i cs _ fr e (by decide) (by decide) (by decide)⟩
theorem KeepC.set {w : World} {b o : Nat} {e : TypeId} {x y z v : Value} (h : Box3 w b e x y z) (he : e = 41 ∨ e = 99) : KeepC w (w.setCell ⟨b, o, none⟩ v) := ⟨fun i cs t fr hi n1 n2 n3 => by
  rw [Below.heap_setCell _ _ _ _ (show i ≠ b from fun e1 => by
    rw [e1, h.heap] at hi
    simp only [Option.some.injEq] at hi
    injection hi with _ h8
    rcases he with he | he
    · exact n1 (h8.symm.trans he)
    · exact n2 (h8.symm.trans he))]
  exact hi⟩
theorem KeepC.grown {w w' : World} {B n : Nat} {s : Nat} {v : Value} {xs : List Value} (h : w.ownsRow B 107 s v n xs) (k : w.grownBy w' v.ownBlock) : KeepC w w' := ⟨fun i cs t fr hi n1 n2 n3 => by
  rw [k.block i (heap_lt hi) (fun e1 => by
    rcases h.2 with ⟨hv, _⟩ | ⟨g, cap, cur, hv, _, hh, _⟩
    · rw [hv] at e1
      cases e1
    · rw [hv] at e1
      have e2 : i = g := Option.some.inj e1
      rw [e2, hh] at hi
      simp only [Option.some.injEq] at hi
      injection hi with _ h8
      exact n3 h8.symm)]
  exact hi⟩
/-- a row that was made since has grown -/
theorem KeepC.since {u w w' : World} {row : Option Nat} (h : KeepC u w) (hs : u.heap.size ≤ w.heap.size) (g : w.grownBy w' row) (hr : ∀ k, row = some k → u.heap.size ≤ k) : KeepC u w' := ⟨fun i cs t fr hi n1 n2 n3 => by
  have hl := heap_lt hi
  rw [g.block i (by omega) (fun e1 => by have := hr i e1.symm; omega)]
  exact h.block i cs t fr hi n1 n2 n3⟩
/-- what lies below lo stays, and all blocks but those of circuits and gates -/
structure Fr (lo : Nat) (w w' : World) : Prop where
  bel : Below lo w w'
  keep : KeepC w w'
theorem Fr.refl (lo : Nat) (w : World) : Fr lo w w := ⟨Below.refl _ _, KeepC.refl _⟩
theorem Fr.trans {lo : Nat} {u v w : World} (h : Fr lo u v) (k : Fr lo v w) : Fr lo u w := ⟨h.bel.trans k.bel, h.keep.trans k.keep⟩
theorem Fr.drew {lo : Nat} {u w : World} (h : Fr lo u w) : Fr lo u w.drew := ⟨h.bel.drew, h.keep.drew⟩
theorem Fr.size {lo : Nat} {u w : World} (h : Fr lo u w) : u.heap.size ≤ w.heap.size := h.bel.size
theorem Fr.alloc {lo : Nat} {u w : World} (h : Fr lo u w) (hs : lo ≤ w.heap.size) (o : Obj) : Fr lo u (w.alloc o) := ⟨h.bel.alloc hs o, h.keep.trans (KeepC.alloc _ _)⟩
theorem Fr.grown {lo : Nat} {u w w' : World} {row : Option Nat} (h : Fr lo u w) (g : w.grownBy w' row) (hlo : lo ≤ u.heap.size) (hr : ∀ k, row = some k → u.heap.size ≤ k) : Fr lo u w' :=
  ⟨h.bel.grown g (Nat.le_trans hlo h.size) (fun k hk => Nat.le_trans hlo (hr k hk)), h.keep.since h.size g hr⟩
theorem Fr.below {lo : Nat} {u w w' : World} (h : Fr lo u w) (hlo : lo ≤ w.heap.size) (k : Below w.heap.size w w') : Fr lo u w' := ⟨h.bel.trans (k.mono hlo), h.keep.trans (KeepC.below k)⟩
theorem own_keepC {w w' : World} {B n : Nat} {s : Nat} {t : TypeId} {v : Value} {xs : List Value} (h : w.ownsRow B t s v n xs) (k : KeepC w w') (n1 : t ≠ 41) (n2 : t ≠ 99) (n3 : t ≠ 107) : w'.ownsRow B t s v n xs :=
  own_keepT h ⟨fun i cs fr e => k.block i cs t fr e n1 n2 n3⟩
/-- what a gate that is laid does to what is being built -/
theorem bld_grown5 {w w8 : World} {lo hi b : Nat} {e : TypeId} {c : Ci} {gsl osl v8 : Value} {k x y : Int} (heg : e ≠ 107) (hei : e ≠ 3) (hec : e = 41 ∨ e = 99) (hlo : lo ≤ b) (hx : Box3 w b e (.int .i64 c.1) gsl osl) (hg : w.ownsRow lo 107 3 gsl c.2.1.length (flat3 c.2.1)) (ho : w.ownsRow lo 3 1 osl c.2.2.length (cellsI c.2.2)) (hos : ∀ k, osl.ownBlock = some k → k < hi)
    (own8 : w8.ownsRow lo 107 3 v8 (c.2.1.length + 1) (flat3 c.2.1 ++ [.int .i64 k, .int .i64 x, .int .i64 y])) (grow8 : (w.alloc (.cells #[.int .i64 k, .int .i64 x, .int .i64 y] 107)).grownBy w8 gsl.ownBlock) :
    Box3 w8 b e (.int .i64 c.1) gsl osl ∧ Bld (w8.setCell ⟨b, 1, none⟩ v8) lo hi b e (c.1, c.2.1 ++ [(k, x, y)], c.2.2) ∧ Fr lo w (w8.setCell ⟨b, 1, none⟩ v8) ∧ KeepC w (w8.setCell ⟨b, 1, none⟩ v8) := by
  have hxa := hx.alloc (.cells #[.int .i64 k, .int .i64 x, .int .i64 y] 107)
  have hga := hg.alloc (.cells #[.int .i64 k, .int .i64 x, .int .i64 y] 107)
  have hoa := ho.alloc (.cells #[.int .i64 k, .int .i64 x, .int .i64 y] 107)
  have hx8 := hxa.grown grow8 (own_not hga hxa heg)
  have ho8 : w8.ownsRow lo 3 1 osl c.2.2.length (cellsI c.2.2) := own_keepT hoa (KeepT.grown hga grow8 (by decide))
  have hlt := hx.lt
  have hb : Below lo w (w.alloc (.cells #[.int .i64 k, .int .i64 x, .int .i64 y] 107)) := (Below.refl _ _).alloc (by omega) _
  have hb8 : Below lo w w8 := hb.grown grow8 (by simp; omega) (fun kk hk => (own_block hga hk).1)
  have hkc : KeepC w (w8.setCell ⟨b, 1, none⟩ v8) := ((KeepC.alloc _ _).trans (KeepC.grown hga grow8)).trans (KeepC.set hx8 hec)
  refine ⟨hx8, ⟨hlo, v8, osl, hx8.set1 v8, ?_, ?_, hos⟩, ⟨hb8.setCell hlo _, hkc⟩, hkc⟩
  · have h1 := own_keep (w' := w8.setCell ⟨b, 1, none⟩ v8) own8 (fun g hg' => Below.heap_setCell _ _ _ _ (by show g ≠ b; intro e1; exact own_not own8 hx8 heg (e1 ▸ hg')))
    rw [List.length_append, flat3_append]
    exact h1
  · exact own_keepT ho8 (KeepT.set hx8 hei)
set_option maxRecDepth 100000 in
set_option maxHeartbeats 4000000 in
theorem lay5_any (lo hi b : Nat) (c : Ci) (k x y : Int) (hI0 : 0 ≤ c.1) (hI1 : c.1 ≤ 16) (hn : c.2.1.length ≤ 30000) (w : World) (h : Bld w lo hi b 41 c) :
    Calls Tryd.prog 117 #[.pointer (some ⟨b, 0, none⟩), .int .i64 k, .int .i64 x, .int .i64 y] w fun e w' => e = .returned (.int .i64 (c.1 + c.2.1.length)) ∧ Bld w' lo hi b 41 (c.1, c.2.1 ++ [(k, x, y)], c.2.2) ∧ Fr lo w w' ∧ KeepC w w' := by
  obtain ⟨hlo, gsl, osl, hx, hg, ho, hob⟩ := h
  obtain ⟨i0, hif, hz0, hz1, hz2⟩ := info_parts infoGate
  obtain ⟨ga, gcap, hgs⟩ := own_shape hg
  obtain ⟨oa, ocap, hos⟩ := own_shape ho
  subst hgs hos
  obtain ⟨ins, gs, os⟩ := c
  simp only at *
  have hlt := hx.lt
  obtain ⟨c0, c1, c2⟩ := hx.cells
  have hh := hx.heap
  have hE := fun v8 w8 => bld_grown5 (k := k) (x := x) (y := y) (c := (ins, gs, os)) (v8 := v8) (w8 := w8) (e := 41) (by decide) (by decide) (Or.inl rfl) hlo hx hg ho hob
  have HE : Hid _ := hE
  have hga := hg.alloc (.cells #[.int .i64 k, .int .i64 x, .int .i64 y] 107)
  have hsa : lo ≤ (w.alloc (.cells #[.int .i64 k, .int .i64 x, .int .i64 y] 107)).heap.size := by rw [World.size_alloc]; omega
  clear hE hx hg ho hob
  go_enter Tryd.func117, Tryd.ntmps117
  go_wp2_with (at_builtin; refine wpList_append_own _ rfl _ _ 38 rfl lo 107 i0 (.agg #[.int .i64 0, .int .i64 0, .int .i64 0]) 3 24 Tryd.underlying38 hif hz0 hz1 hz2 rfl (by decide) _ _ _ rfl hga ⟨w.heap.size, 0, none⟩ 1 1 [.int .i64 k, .int .i64 x, .int .i64 y] rfl rfl (oneG_cells w k x y) (flat3_one [(k, x, y)]) (by unfold maxLen; omega) (by omega) hsa ?_)
  intro v8 w8 own8 grow8 _
  obtain ⟨hx8, hB, hBl, hK⟩ := HE.out v8 w8 own8 grow8
  obtain ⟨va, vcap, hv8⟩ := own_shape own8
  subst hv8
  clear c0 c1 c2 hh hlt
  have hlt := hx8.lt
  obtain ⟨c0, c1, c2⟩ := hx8.cells
  have hh := hx8.heap
  have hf1 := hx8.frozen 1
  have y8 := hx8.set1 (.slice va (gs.length + 1) vcap)
  have hlt9 := y8.lt
  obtain ⟨d0, d1, d2⟩ := y8.cells
  have hh9 := y8.heap
  have g2 := size_raw ins va (gs.length + 1) vcap (.slice oa os.length ocap) (by omega) (by omega) (by omega) (w8.setCell ⟨b, 1, none⟩ (.slice va (gs.length + 1) vcap))
  obtain ⟨V, hV⟩ : ∃ V : Int, ins + ((gs.length + 1 : Nat) : Int) = V := ⟨_, rfl⟩
  rw [hV] at g2
  have hV0 : 0 ≤ V := by omega
  have hV1 : V ≤ 100000 := by omega
  have HV2 : Hid (V - 1 = ins + gs.length) := by
    show V - 1 = ins + gs.length
    omega
  have HB : Hid _ := hB
  have HBl : Hid _ := hBl
  have HK : Hid _ := hK
  clear hB hBl hK own8 grow8 hga hx8 y8 HE hV
  go_wp2_with fail
  refine g2.mono ?_
  rintro e w9 ⟨rfl, hw9⟩
  have HB9 : Hid (Bld w9 lo hi b 41 (ins, gs ++ [(k, x, y)], os)) := by
    obtain ⟨h0, gsl, osl, h1, h2, h3, h4⟩ := HB.out
    show Bld w9 lo hi b 41 (ins, gs ++ [(k, x, y)], os)
    rw [hw9]
    exact ⟨h0, gsl, osl, h1.alloc _, h2.alloc _, h3.alloc _, h4⟩
  have HBl9 : Hid (Fr lo w w9) := by
    show Fr lo w w9
    rw [hw9]
    exact HBl.out.alloc (by have := HBl.out.size; have := hlt9; omega) _
  have HK9 : Hid (KeepC w w9) := by
    show KeepC w w9
    rw [hw9]
    exact HK.out.trans (KeepC.alloc _ _)
  clear g2 hw9 HB HBl HK
  go_wp2_with fail
  go_ret
  exact ⟨ret_int HV2.out, HB9.out, HBl9.out, HK9.out⟩
set_option maxRecDepth 100000 in
set_option maxHeartbeats 4000000 in
theorem gate5_any (lo hi b : Nat) (c : Ci) (k x y : Int) (hI0 : 0 ≤ c.1) (hI1 : c.1 ≤ 16) (hn : c.2.1.length ≤ 30000) (w : World) (h : Bld w lo hi b 99 c) :
    Calls Tryd.prog 95 #[.pointer (some ⟨b, 0, none⟩), .int .i64 k, .int .i64 x, .int .i64 y] w fun e w' => e = .returned (.int .i64 (c.1 + c.2.1.length)) ∧ Bld w' lo hi b 99 (c.1, c.2.1 ++ [(k, x, y)], c.2.2) ∧ Fr lo w w' ∧ KeepC w w' := by
  obtain ⟨hlo, gsl, osl, hx, hg, ho, hob⟩ := h
  obtain ⟨i0, hif, hz0, hz1, hz2⟩ := info_parts infoGate
  obtain ⟨ga, gcap, hgs⟩ := own_shape hg
  obtain ⟨oa, ocap, hos⟩ := own_shape ho
  subst hgs hos
  obtain ⟨ins, gs, os⟩ := c
  simp only at *
  have hlt := hx.lt
  obtain ⟨c0, c1, c2⟩ := hx.cells
  have hh := hx.heap
  have hE := fun v8 w8 => bld_grown5 (k := k) (x := x) (y := y) (c := (ins, gs, os)) (v8 := v8) (w8 := w8) (e := 99) (by decide) (by decide) (Or.inr rfl) hlo hx hg ho hob
  have HE : Hid _ := hE
  have hga := hg.alloc (.cells #[.int .i64 k, .int .i64 x, .int .i64 y] 107)
  have hsa : lo ≤ (w.alloc (.cells #[.int .i64 k, .int .i64 x, .int .i64 y] 107)).heap.size := by rw [World.size_alloc]; omega
  clear hE hx hg ho hob
  go_enter Tryd.func95, Tryd.ntmps95
  go_wp2_with (at_builtin; refine wpList_append_own _ rfl _ _ 38 rfl lo 107 i0 (.agg #[.int .i64 0, .int .i64 0, .int .i64 0]) 3 24 Tryd.underlying38 hif hz0 hz1 hz2 rfl (by decide) _ _ _ rfl hga ⟨w.heap.size, 0, none⟩ 1 1 [.int .i64 k, .int .i64 x, .int .i64 y] rfl rfl (oneG_cells w k x y) (flat3_one [(k, x, y)]) (by unfold maxLen; omega) (by omega) hsa ?_)
  intro v8 w8 own8 grow8 _
  obtain ⟨hx8, hB, hBl, hK⟩ := HE.out v8 w8 own8 grow8
  obtain ⟨va, vcap, hv8⟩ := own_shape own8
  subst hv8
  clear c0 c1 c2 hh hlt
  have hlt := hx8.lt
  obtain ⟨c0, c1, c2⟩ := hx8.cells
  have hh := hx8.heap
  have hf1 := hx8.frozen 1
  have y8 := hx8.set1 (.slice va (gs.length + 1) vcap)
  have hlt9 := y8.lt
  obtain ⟨d0, d1, d2⟩ := y8.cells
  have hh9 := y8.heap
  have g2 := l4Wires_raw ins va (gs.length + 1) vcap (.slice oa os.length ocap) (by omega) (by omega) (by omega) (w8.setCell ⟨b, 1, none⟩ (.slice va (gs.length + 1) vcap))
  obtain ⟨V, hV⟩ : ∃ V : Int, ins + ((gs.length + 1 : Nat) : Int) = V := ⟨_, rfl⟩
  rw [hV] at g2
  have hV0 : 0 ≤ V := by omega
  have hV1 : V ≤ 100000 := by omega
  have HV2 : Hid (V - 1 = ins + gs.length) := by
    show V - 1 = ins + gs.length
    omega
  have HB : Hid _ := hB
  have HBl : Hid _ := hBl
  have HK : Hid _ := hK
  clear hB hBl hK own8 grow8 hga hx8 y8 HE hV
  go_wp2_with fail
  refine g2.mono ?_
  rintro e w9 ⟨rfl, hw9⟩
  have HB9 : Hid (Bld w9 lo hi b 99 (ins, gs ++ [(k, x, y)], os)) := by
    obtain ⟨h0, gsl, osl, h1, h2, h3, h4⟩ := HB.out
    show Bld w9 lo hi b 99 (ins, gs ++ [(k, x, y)], os)
    rw [hw9]
    exact ⟨h0, gsl, osl, h1.alloc _, h2.alloc _, h3.alloc _, h4⟩
  have HBl9 : Hid (Fr lo w w9) := by
    show Fr lo w w9
    rw [hw9]
    exact HBl.out.alloc (by have := HBl.out.size; have := hlt9; omega) _
  have HK9 : Hid (KeepC w w9) := by
    show KeepC w w9
    rw [hw9]
    exact HK.out.trans (KeepC.alloc _ _)
  clear g2 hw9 HB HBl HK
  go_wp2_with fail
  go_ret
  exact ⟨ret_int HV2.out, HB9.out, HBl9.out, HK9.out⟩
end Go.Proofs.YtpjllhlbdcanlaaDoor

namespace Go.Proofs.YtpjllhlbdcanlaaDoor
open Go Go.RowKit
open M
set_option linter.unusedVariables false
set_option linter.unusedSimpArgs false

theorem lay5_at (lo hi b : Nat) (ins : Int) (G : List Gt) (os : List Int) (S k x y : Int) (hS : ins + G.length = S) (hI0 : 0 ≤ ins) (hI1 : ins ≤ 16) (hn : G.length ≤ 30000) (w : World) (h : Bld w lo hi b 41 (ins, G, os)) :
    Calls Tryd.prog 117 #[.pointer (some ⟨b, 0, none⟩), .int .i64 k, .int .i64 x, .int .i64 y] w fun e w' => e = .returned (.int .i64 S) ∧ Bld w' lo hi b 41 (ins, G ++ [(k, x, y)], os) ∧ Fr lo w w' ∧ KeepC w w' := by
  have g := lay5_any lo hi b (ins, G, os) k x y hI0 hI1 hn w h
  simp only at g
  rw [hS] at g
  exact g
theorem gate5_at (lo hi b : Nat) (ins : Int) (G : List Gt) (os : List Int) (S k x y : Int) (hS : ins + G.length = S) (hI0 : 0 ≤ ins) (hI1 : ins ≤ 16) (hn : G.length ≤ 30000) (w : World) (h : Bld w lo hi b 99 (ins, G, os)) :
    Calls Tryd.prog 95 #[.pointer (some ⟨b, 0, none⟩), .int .i64 k, .int .i64 x, .int .i64 y] w fun e w' => e = .returned (.int .i64 S) ∧ Bld w' lo hi b 99 (ins, G ++ [(k, x, y)], os) ∧ Fr lo w w' ∧ KeepC w w' := by
  have g := gate5_any lo hi b (ins, G, os) k x y hI0 hI1 hn w h
  simp only at g
  rw [hS] at g
  exact g
set_option maxRecDepth 100000 in
set_option maxHeartbeats 8000000 in
theorem iEq5_any (lo hi b : Nat) (ins : Int) (gs : List Gt) (os : List Int) (av bv : Value) (a bb : List Int) (N : Int) (hN : ins + gs.length = N) (hI0 : 0 ≤ ins) (hI1 : ins ≤ 16) (hn : gs.length ≤ 20000) (hl : a.length = bb.length) (hl16 : a.length ≤ 16) (w : World) (h : Bld w lo hi b 41 (ins, gs, os)) (hhi : hi ≤ w.heap.size)
    (ha : ∀ w', Fr lo w w' → IntsAt w' av a) (hb : ∀ w', Fr lo w w' → IntsAt w' bv bb) :
    Calls Tryd.prog 110 #[.pointer (some ⟨b, 0, none⟩), av, bv] w fun e w' => e = .returned (.int .i64 (onW N (N + 1) 3 2 a.length)) ∧ Bld w' lo hi b 41 (ins, gs ++ [(1, 1, 0)] ++ (eqG a bb N (N + 1)).1, os) ∧ Fr lo w w' := by
  obtain ⟨aa, acap, hav, _⟩ := (ha w (Fr.refl _ _)).opened
  obtain ⟨ba, bcap, hbv, _⟩ := (hb w (Fr.refl _ _)).opened
  subst hav hbv
  have HA : Hid (∀ w', Fr lo w w' → ∀ (i : Nat) (x : Int), a[i]? = some x → ∃ g off : Nat, aa = some ⟨g, off, none⟩ ∧ g < w'.heap.size ∧ w'.cell? ⟨g, off + i, none⟩ = some (.int .i64 x)) := fun w' hw i x hx => by
    obtain ⟨_, _, e, hc⟩ := (ha w' hw).opened
    injection e with e1 e2 e3
    subst e1
    exact hc i x hx
  have HBB : Hid (∀ w', Fr lo w w' → ∀ (i : Nat) (x : Int), bb[i]? = some x → ∃ g off : Nat, ba = some ⟨g, off, none⟩ ∧ g < w'.heap.size ∧ w'.cell? ⟨g, off + i, none⟩ = some (.int .i64 x)) := fun w' hw i x hx => by
    obtain ⟨_, _, e, hc⟩ := (hb w' hw).opened
    injection e with e1 e2 e3
    subst e1
    exact hc i x hx
  have hlo := h.size
  have g1 := lay5_at lo hi b ins gs os N 1 1 0 hN hI0 hI1 (by omega) w h
  clear ha hb h
  generalize hal : a.length = an at *
  rw [← hl]
  have HAL : Hid (a.length = an) := hal
  have HBL : Hid (bb.length = an) := hl.symm
  clear hal hl
  go_enter Tryd.func110, Tryd.ntmps110
  go_wp2_with fail
  refine g1.mono ?_
  rintro e w1 ⟨rfl, hB1, hb1, _⟩
  have HB1 : Hid _ := hB1
  have Hb1 : Hid _ := hb1
  clear g1 hB1 hb1
  go_wp2_with fail
  go_loopw [7, 15] (fun vn i wr => ∃ j : Nat, j ≤ an ∧ i = .int .i64 j ∧ vn = .int .i64 (onW N (N + 1) 3 2 j) ∧ Hid (Bld wr lo hi b 41 (ins, gs ++ [(1, 1, 0)] ++ (eqG (a.take j) (bb.take j) N (N + 1)).1, os)) ∧ Hid (Fr lo w wr)) (fun _ i _ => an - (intOf i).toNat)
  case atStart =>
    refine ⟨0, by omega, rfl, rfl, ?_, Hb1⟩
    show Bld w1 lo hi b 41 (ins, gs ++ [(1, 1, 0)] ++ [], os)
    rw [List.append_nil]
    exact HB1.out
  case round =>
    obtain ⟨j, hj, rfl, rfl, HB, HBl⟩ := hrel
    clear HB1 Hb1
    by_cases hlt : j < an
    · have hal := HAL.out
      have hbl := HBL.out
      obtain ⟨x, hx⟩ : ∃ x, a[j]? = some x := ⟨a[j], List.getElem?_eq_getElem (by omega)⟩
      obtain ⟨y, hy⟩ : ∃ y, bb[j]? = some y := ⟨bb[j], List.getElem?_eq_getElem (by omega)⟩
      have hl1 : (a.take j).length = j := List.length_take_of_le (by omega)
      have hl2 : (bb.take j).length = j := List.length_take_of_le (by omega)
      have hsn := eqG_snoc (a.take j) (bb.take j) x y N (N + 1) (by rw [hl1, hl2])
      have hln := eqG_len (a.take j) (bb.take j) N (N + 1) (by rw [hl1, hl2])
      rw [hl1] at hsn hln
      have hta : a.take (j + 1) = a.take j ++ [x] := by rw [List.take_add_one, hx]; rfl
      have htb : bb.take (j + 1) = bb.take j ++ [y] := by rw [List.take_add_one, hy]; rfl
      rw [← hta, ← htb] at hsn
      obtain ⟨S0, hS⟩ : ∃ S0 : Int, N + 1 + 3 * (j : Int) = S0 := ⟨_, rfl⟩
      rw [hS] at hsn
      obtain ⟨C, hC⟩ : ∃ C : Int, onW N (N + 1) 3 2 j = C := ⟨_, rfl⟩
      rw [hC] at hsn ⊢
      obtain ⟨G, hG⟩ : ∃ G, gs ++ [(1, 1, 0)] ++ (eqG (a.take j) (bb.take j) N (N + 1)).1 = G := ⟨_, rfl⟩
      have hGl : ins + (G.length : Int) = S0 := by
        rw [← hG]
        simp only [List.length_append, hln, List.length_singleton]
        omega
      have hGn : G.length ≤ 21000 := by omega
      obtain ⟨S1, hS1⟩ : ∃ S1 : Int, S0 + 1 = S1 := ⟨_, rfl⟩
      obtain ⟨S2, hS2⟩ : ∃ S2 : Int, S0 + 2 = S2 := ⟨_, rfl⟩
      have HNEW : Hid (gs ++ [(1, 1, 0)] ++ (eqG (a.take (j + 1)) (bb.take (j + 1)) N (N + 1)).1 = G ++ [(5, x, y)] ++ [(2, S0, 0)] ++ [(3, S1, C)]) := by
        show gs ++ [(1, 1, 0)] ++ (eqG (a.take (j + 1)) (bb.take (j + 1)) N (N + 1)).1 = _
        rw [hsn, ← hG]
        simp [eqOne, ← hS, ← hS1, ← hS2]
        try omega
      have HON : Hid (onW N (N + 1) 3 2 (j + 1) = S2) := by
        show (N + 1) + 3 * (j : Int) + 2 = S2
        omega
      rw [hG] at HB
      clear hsn hln hta htb hG hC hl1 hl2
      obtain ⟨ag, aoff, rfl, _, _⟩ := HA.out wr HBl.out j x hx
      obtain ⟨bg, boff, rfl, _, _⟩ := HBB.out wr HBl.out j y hy
      have HAC : Hid (∀ w', Fr lo w w' → ag < w'.heap.size ∧ w'.cell? ⟨ag, aoff + j, none⟩ = some (.int .i64 x)) := fun w' hw => by
        obtain ⟨g, off, e, h1, h2⟩ := HA.out w' hw j x hx
        injection e with e1
        injection e1 with e2 e3
        subst e2 e3
        exact ⟨h1, h2⟩
      have HBC : Hid (∀ w', Fr lo w w' → bg < w'.heap.size ∧ w'.cell? ⟨bg, boff + j, none⟩ = some (.int .i64 y)) := fun w' hw => by
        obtain ⟨g, off, e, h1, h2⟩ := HBB.out w' hw j y hy
        injection e with e1
        injection e1 with e2 e3
        subst e2 e3
        exact ⟨h1, h2⟩
      have hjA : (j : Int) < (an : Int) := by omega
      clear hx hy HA HBB
      obtain ⟨ax0, ac0⟩ := HAC.out _ HBl.out
      obtain ⟨bx0, bc0⟩ := HBC.out _ HBl.out
      go_wp2_with fail
      go_region_with (go_at_call 117; refine (lay5_at lo hi b ins (G) os S0 5 x y (by first | omega | (simp only [List.length_append, List.length_singleton]; omega)) hI0 hI1 (by first | omega | (simp only [List.length_append, List.length_singleton]; omega)) _ ?_).mono ?_; (first | exact HB.out | exact HB.out.drew); rintro e w11 ⟨rfl, hB, hbl', hk'⟩; have HBw11 : Hid (Bld w11 lo hi b 41 (ins, G ++ [(5, x, y)], os)) := hB; have HBlw11 : Hid (Fr lo w w11) := (by first | exact HBl.out.trans hbl' | exact HBl.out.drew.trans hbl'); clear hB hbl' hk')
      all_goals
        clear HB HBl
        go_wp2_with fail
        refine (lay5_at lo hi b ins (G ++ [(5, x, y)]) os S1 2 S0 0 (by first | omega | (simp only [List.length_append, List.length_singleton]; omega)) hI0 hI1 (by first | omega | (simp only [List.length_append, List.length_singleton]; omega)) _ ?_).mono ?_
        · exact HBw11.out
        rintro e w12 ⟨rfl, hB, hbl', hk'⟩
        have HBw12 : Hid (Bld w12 lo hi b 41 (ins, G ++ [(5, x, y)] ++ [(2, S0, 0)], os)) := hB
        have HBlw12 : Hid (Fr lo w w12) := HBlw11.out.trans hbl'
        clear hB hbl' hk' HBw11 HBlw11
        go_wp2_with fail
        refine (lay5_at lo hi b ins (G ++ [(5, x, y)] ++ [(2, S0, 0)]) os S2 3 S1 C (by first | omega | (simp only [List.length_append, List.length_singleton]; omega)) hI0 hI1 (by first | omega | (simp only [List.length_append, List.length_singleton]; omega)) _ ?_).mono ?_
        · exact HBw12.out
        rintro e w13 ⟨rfl, hB, hbl', hk'⟩
        have HBw13 : Hid (Bld w13 lo hi b 41 (ins, G ++ [(5, x, y)] ++ [(2, S0, 0)] ++ [(3, S1, C)], os)) := hB
        have HBlw13 : Hid (Fr lo w w13) := HBlw12.out.trans hbl'
        clear hB hbl' hk' HBw12 HBlw12
        have HBF : Hid (Bld _ lo hi b 41 (ins, gs ++ [(1, 1, 0)] ++ (eqG (a.take (j + 1)) (bb.take (j + 1)) N (N + 1)).1, os)) := (by have h1 := HBw13.out; rw [← HNEW.out] at h1; exact h1)
        clear HNEW HAC HBC HBw13
        go_wp2_with fail
        go_roundw
        case rel => exact ⟨j + 1, by omega, by go_num, by rw [HON.out], HBF, HBlw13⟩
        case measure => simp [intOf]; omega
    · obtain rfl : j = an := by omega
      have ha1 : a.take j = a := List.take_of_length_le (by have := HAL.out; omega)
      have hb1 : bb.take j = bb := List.take_of_length_le (by have := HBL.out; omega)
      rw [ha1, hb1] at HB
      clear HA HBB ha1 hb1
      go_wp2_with fail
      go_ret
      exact ⟨rfl, HB.out, HBl.out⟩
set_option maxRecDepth 100000 in
set_option maxHeartbeats 8000000 in
theorem iLess5_any (lo hi b : Nat) (ins : Int) (gs : List Gt) (os : List Int) (av bv : Value) (a bb : List Int) (N : Int) (hN : ins + gs.length = N) (hI0 : 0 ≤ ins) (hI1 : ins ≤ 16) (hn : gs.length ≤ 20000) (hl : a.length = bb.length) (hl16 : a.length ≤ 16) (w : World) (h : Bld w lo hi b 41 (ins, gs, os)) (hhi : hi ≤ w.heap.size)
    (ha : ∀ w', Fr lo w w' → IntsAt w' av a) (hb : ∀ w', Fr lo w w' → IntsAt w' bv bb) :
    Calls Tryd.prog 111 #[.pointer (some ⟨b, 0, none⟩), av, bv] w fun e w' => e = .returned (.int .i64 (onW N (N + 1) 6 5 a.length)) ∧ Bld w' lo hi b 41 (ins, gs ++ [(1, 0, 0)] ++ (lessG a bb N (N + 1)).1, os) ∧ Fr lo w w' := by
  obtain ⟨aa, acap, hav, _⟩ := (ha w (Fr.refl _ _)).opened
  obtain ⟨ba, bcap, hbv, _⟩ := (hb w (Fr.refl _ _)).opened
  subst hav hbv
  have HA : Hid (∀ w', Fr lo w w' → ∀ (i : Nat) (x : Int), a[i]? = some x → ∃ g off : Nat, aa = some ⟨g, off, none⟩ ∧ g < w'.heap.size ∧ w'.cell? ⟨g, off + i, none⟩ = some (.int .i64 x)) := fun w' hw i x hx => by
    obtain ⟨_, _, e, hc⟩ := (ha w' hw).opened
    injection e with e1 e2 e3
    subst e1
    exact hc i x hx
  have HBB : Hid (∀ w', Fr lo w w' → ∀ (i : Nat) (x : Int), bb[i]? = some x → ∃ g off : Nat, ba = some ⟨g, off, none⟩ ∧ g < w'.heap.size ∧ w'.cell? ⟨g, off + i, none⟩ = some (.int .i64 x)) := fun w' hw i x hx => by
    obtain ⟨_, _, e, hc⟩ := (hb w' hw).opened
    injection e with e1 e2 e3
    subst e1
    exact hc i x hx
  have hlo := h.size
  have g1 := lay5_at lo hi b ins gs os N 1 0 0 hN hI0 hI1 (by omega) w h
  clear ha hb h
  generalize hal : a.length = an at *
  rw [← hl]
  have HAL : Hid (a.length = an) := hal
  have HBL : Hid (bb.length = an) := hl.symm
  clear hal hl
  go_enter Tryd.func111, Tryd.ntmps111
  go_wp2_with fail
  refine g1.mono ?_
  rintro e w1 ⟨rfl, hB1, hb1, _⟩
  have HB1 : Hid _ := hB1
  have Hb1 : Hid _ := hb1
  clear g1 hB1 hb1
  go_wp2_with fail
  go_loopw [7, 18] (fun vn i wr => ∃ j : Nat, j ≤ an ∧ i = .int .i64 j ∧ vn = .int .i64 (onW N (N + 1) 6 5 j) ∧ Hid (Bld wr lo hi b 41 (ins, gs ++ [(1, 0, 0)] ++ (lessG (a.take j) (bb.take j) N (N + 1)).1, os)) ∧ Hid (Fr lo w wr)) (fun _ i _ => an - (intOf i).toNat)
  case atStart =>
    refine ⟨0, by omega, rfl, rfl, ?_, Hb1⟩
    show Bld w1 lo hi b 41 (ins, gs ++ [(1, 0, 0)] ++ [], os)
    rw [List.append_nil]
    exact HB1.out
  case round =>
    obtain ⟨j, hj, rfl, rfl, HB, HBl⟩ := hrel
    clear HB1 Hb1
    by_cases hlt : j < an
    · have hal := HAL.out
      have hbl := HBL.out
      obtain ⟨x, hx⟩ : ∃ x, a[j]? = some x := ⟨a[j], List.getElem?_eq_getElem (by omega)⟩
      obtain ⟨y, hy⟩ : ∃ y, bb[j]? = some y := ⟨bb[j], List.getElem?_eq_getElem (by omega)⟩
      have hl1 : (a.take j).length = j := List.length_take_of_le (by omega)
      have hl2 : (bb.take j).length = j := List.length_take_of_le (by omega)
      have hsn := lessG_snoc (a.take j) (bb.take j) x y N (N + 1) (by rw [hl1, hl2])
      have hln := lessG_len (a.take j) (bb.take j) N (N + 1) (by rw [hl1, hl2])
      rw [hl1] at hsn hln
      have hta : a.take (j + 1) = a.take j ++ [x] := by rw [List.take_add_one, hx]; rfl
      have htb : bb.take (j + 1) = bb.take j ++ [y] := by rw [List.take_add_one, hy]; rfl
      rw [← hta, ← htb] at hsn
      obtain ⟨S0, hS⟩ : ∃ S0 : Int, N + 1 + 6 * (j : Int) = S0 := ⟨_, rfl⟩
      rw [hS] at hsn
      obtain ⟨C, hC⟩ : ∃ C : Int, onW N (N + 1) 6 5 j = C := ⟨_, rfl⟩
      rw [hC] at hsn ⊢
      obtain ⟨G, hG⟩ : ∃ G, gs ++ [(1, 0, 0)] ++ (lessG (a.take j) (bb.take j) N (N + 1)).1 = G := ⟨_, rfl⟩
      have hGl : ins + (G.length : Int) = S0 := by
        rw [← hG]
        simp only [List.length_append, hln, List.length_singleton]
        omega
      have hGn : G.length ≤ 21000 := by omega
      obtain ⟨S1, hS1⟩ : ∃ S1 : Int, S0 + 1 = S1 := ⟨_, rfl⟩
      obtain ⟨S2, hS2⟩ : ∃ S2 : Int, S0 + 2 = S2 := ⟨_, rfl⟩
      obtain ⟨S3, hS3⟩ : ∃ S3 : Int, S0 + 3 = S3 := ⟨_, rfl⟩
      obtain ⟨S4, hS4⟩ : ∃ S4 : Int, S0 + 4 = S4 := ⟨_, rfl⟩
      obtain ⟨S5, hS5⟩ : ∃ S5 : Int, S0 + 5 = S5 := ⟨_, rfl⟩
      have HNEW : Hid (gs ++ [(1, 0, 0)] ++ (lessG (a.take (j + 1)) (bb.take (j + 1)) N (N + 1)).1 = G ++ [(5, x, y)] ++ [(2, S0, 0)] ++ [(3, S1, C)] ++ [(2, x, 0)] ++ [(3, S3, y)] ++ [(4, S2, S4)]) := by
        show gs ++ [(1, 0, 0)] ++ (lessG (a.take (j + 1)) (bb.take (j + 1)) N (N + 1)).1 = _
        rw [hsn, ← hG]
        simp [lessOne, ← hS, ← hS1, ← hS2, ← hS3, ← hS4, ← hS5]
        try omega
      have HON : Hid (onW N (N + 1) 6 5 (j + 1) = S5) := by
        show (N + 1) + 6 * (j : Int) + 5 = S5
        omega
      rw [hG] at HB
      clear hsn hln hta htb hG hC hl1 hl2
      obtain ⟨ag, aoff, rfl, _, _⟩ := HA.out wr HBl.out j x hx
      obtain ⟨bg, boff, rfl, _, _⟩ := HBB.out wr HBl.out j y hy
      have HAC : Hid (∀ w', Fr lo w w' → ag < w'.heap.size ∧ w'.cell? ⟨ag, aoff + j, none⟩ = some (.int .i64 x)) := fun w' hw => by
        obtain ⟨g, off, e, h1, h2⟩ := HA.out w' hw j x hx
        injection e with e1
        injection e1 with e2 e3
        subst e2 e3
        exact ⟨h1, h2⟩
      have HBC : Hid (∀ w', Fr lo w w' → bg < w'.heap.size ∧ w'.cell? ⟨bg, boff + j, none⟩ = some (.int .i64 y)) := fun w' hw => by
        obtain ⟨g, off, e, h1, h2⟩ := HBB.out w' hw j y hy
        injection e with e1
        injection e1 with e2 e3
        subst e2 e3
        exact ⟨h1, h2⟩
      have hjA : (j : Int) < (an : Int) := by omega
      clear hx hy HA HBB
      obtain ⟨ax0, ac0⟩ := HAC.out _ HBl.out
      obtain ⟨bx0, bc0⟩ := HBC.out _ HBl.out
      go_wp2_with fail
      go_region_with (go_at_call 117; refine (lay5_at lo hi b ins (G) os S0 5 x y (by first | omega | (simp only [List.length_append, List.length_singleton]; omega)) hI0 hI1 (by first | omega | (simp only [List.length_append, List.length_singleton]; omega)) _ ?_).mono ?_; (first | exact HB.out | exact HB.out.drew); rintro e w11 ⟨rfl, hB, hbl', hk'⟩; have HBw11 : Hid (Bld w11 lo hi b 41 (ins, G ++ [(5, x, y)], os)) := hB; have HBlw11 : Hid (Fr lo w w11) := (by first | exact HBl.out.trans hbl' | exact HBl.out.drew.trans hbl'); clear hB hbl' hk')
      all_goals
        clear HB HBl
        go_wp2_with fail
        refine (lay5_at lo hi b ins (G ++ [(5, x, y)]) os S1 2 S0 0 (by first | omega | (simp only [List.length_append, List.length_singleton]; omega)) hI0 hI1 (by first | omega | (simp only [List.length_append, List.length_singleton]; omega)) _ ?_).mono ?_
        · exact HBw11.out
        rintro e w12 ⟨rfl, hB, hbl', hk'⟩
        have HBw12 : Hid (Bld w12 lo hi b 41 (ins, G ++ [(5, x, y)] ++ [(2, S0, 0)], os)) := hB
        have HBlw12 : Hid (Fr lo w w12) := HBlw11.out.trans hbl'
        clear hB hbl' hk' HBw11 HBlw11
        go_wp2_with fail
        refine (lay5_at lo hi b ins (G ++ [(5, x, y)] ++ [(2, S0, 0)]) os S2 3 S1 C (by first | omega | (simp only [List.length_append, List.length_singleton]; omega)) hI0 hI1 (by first | omega | (simp only [List.length_append, List.length_singleton]; omega)) _ ?_).mono ?_
        · exact HBw12.out
        rintro e w13 ⟨rfl, hB, hbl', hk'⟩
        have HBw13 : Hid (Bld w13 lo hi b 41 (ins, G ++ [(5, x, y)] ++ [(2, S0, 0)] ++ [(3, S1, C)], os)) := hB
        have HBlw13 : Hid (Fr lo w w13) := HBlw12.out.trans hbl'
        clear hB hbl' hk' HBw12 HBlw12
        obtain ⟨ax3, ac3⟩ := HAC.out _ HBlw13.out
        go_wp2_with fail
        refine (lay5_at lo hi b ins (G ++ [(5, x, y)] ++ [(2, S0, 0)] ++ [(3, S1, C)]) os S3 2 x 0 (by first | omega | (simp only [List.length_append, List.length_singleton]; omega)) hI0 hI1 (by first | omega | (simp only [List.length_append, List.length_singleton]; omega)) _ ?_).mono ?_
        · exact HBw13.out
        rintro e w14 ⟨rfl, hB, hbl', hk'⟩
        have HBw14 : Hid (Bld w14 lo hi b 41 (ins, G ++ [(5, x, y)] ++ [(2, S0, 0)] ++ [(3, S1, C)] ++ [(2, x, 0)], os)) := hB
        have HBlw14 : Hid (Fr lo w w14) := HBlw13.out.trans hbl'
        clear hB hbl' hk' HBw13 HBlw13
        obtain ⟨bx4, bc4⟩ := HBC.out _ HBlw14.out
        go_wp2_with fail
        refine (lay5_at lo hi b ins (G ++ [(5, x, y)] ++ [(2, S0, 0)] ++ [(3, S1, C)] ++ [(2, x, 0)]) os S4 3 S3 y (by first | omega | (simp only [List.length_append, List.length_singleton]; omega)) hI0 hI1 (by first | omega | (simp only [List.length_append, List.length_singleton]; omega)) _ ?_).mono ?_
        · exact HBw14.out
        rintro e w15 ⟨rfl, hB, hbl', hk'⟩
        have HBw15 : Hid (Bld w15 lo hi b 41 (ins, G ++ [(5, x, y)] ++ [(2, S0, 0)] ++ [(3, S1, C)] ++ [(2, x, 0)] ++ [(3, S3, y)], os)) := hB
        have HBlw15 : Hid (Fr lo w w15) := HBlw14.out.trans hbl'
        clear hB hbl' hk' HBw14 HBlw14
        go_wp2_with fail
        refine (lay5_at lo hi b ins (G ++ [(5, x, y)] ++ [(2, S0, 0)] ++ [(3, S1, C)] ++ [(2, x, 0)] ++ [(3, S3, y)]) os S5 4 S2 S4 (by first | omega | (simp only [List.length_append, List.length_singleton]; omega)) hI0 hI1 (by first | omega | (simp only [List.length_append, List.length_singleton]; omega)) _ ?_).mono ?_
        · exact HBw15.out
        rintro e w16 ⟨rfl, hB, hbl', hk'⟩
        have HBw16 : Hid (Bld w16 lo hi b 41 (ins, G ++ [(5, x, y)] ++ [(2, S0, 0)] ++ [(3, S1, C)] ++ [(2, x, 0)] ++ [(3, S3, y)] ++ [(4, S2, S4)], os)) := hB
        have HBlw16 : Hid (Fr lo w w16) := HBlw15.out.trans hbl'
        clear hB hbl' hk' HBw15 HBlw15
        have HBF : Hid (Bld _ lo hi b 41 (ins, gs ++ [(1, 0, 0)] ++ (lessG (a.take (j + 1)) (bb.take (j + 1)) N (N + 1)).1, os)) := (by have h1 := HBw16.out; rw [← HNEW.out] at h1; exact h1)
        clear HNEW HAC HBC HBw16
        go_wp2_with fail
        go_roundw
        case rel => exact ⟨j + 1, by omega, by go_num, by rw [HON.out], HBF, HBlw16⟩
        case measure => simp [intOf]; omega
    · obtain rfl : j = an := by omega
      have ha1 : a.take j = a := List.take_of_length_le (by have := HAL.out; omega)
      have hb1 : bb.take j = bb := List.take_of_length_le (by have := HBL.out; omega)
      rw [ha1, hb1] at HB
      clear HA HBB ha1 hb1
      go_wp2_with fail
      go_ret
      exact ⟨rfl, HB.out, HBl.out⟩
set_option maxRecDepth 100000 in
set_option maxHeartbeats 8000000 in
theorem iAdd5_any (lo hi b : Nat) (ins : Int) (gs : List Gt) (os : List Int) (av bv : Value) (a bb : List Int) (carry : Int) (N : Int) (hN : ins + gs.length = N) (hI0 : 0 ≤ ins) (hI1 : ins ≤ 16) (hn : gs.length ≤ 20000) (hl : a.length = bb.length) (hl16 : a.length ≤ 16) (w : World) (h : Bld w lo hi b 41 (ins, gs, os)) (hhi : hi ≤ w.heap.size)
    (ha : ∀ w', Fr lo w w' → IntsAt w' av a) (hb : ∀ w', Fr lo w w' → IntsAt w' bv bb) :
    Calls Tryd.prog 109 #[.pointer (some ⟨b, 0, none⟩), av, bv, .int .i64 carry] w fun e w' => ∃ r, e = .returned r ∧ w'.ownsRow w.heap.size 3 1 r (addG a bb carry N).2.length (cellsI (addG a bb carry N).2) ∧ Bld w' lo hi b 41 (ins, gs ++ (addG a bb carry N).1, os) ∧ Fr lo w w' := by
  obtain ⟨aa, acap, hav, _⟩ := (ha w (Fr.refl _ _)).opened
  obtain ⟨ba, bcap, hbv, _⟩ := (hb w (Fr.refl _ _)).opened
  subst hav hbv
  have HA : Hid (∀ w', Fr lo w w' → ∀ (i : Nat) (x : Int), a[i]? = some x → ∃ g off : Nat, aa = some ⟨g, off, none⟩ ∧ g < w'.heap.size ∧ w'.cell? ⟨g, off + i, none⟩ = some (.int .i64 x)) := fun w' hw i x hx => by
    obtain ⟨_, _, e, hc⟩ := (ha w' hw).opened
    injection e with e1 e2 e3
    subst e1
    exact hc i x hx
  have HBB : Hid (∀ w', Fr lo w w' → ∀ (i : Nat) (x : Int), bb[i]? = some x → ∃ g off : Nat, ba = some ⟨g, off, none⟩ ∧ g < w'.heap.size ∧ w'.cell? ⟨g, off + i, none⟩ = some (.int .i64 x)) := fun w' hw i x hx => by
    obtain ⟨_, _, e, hc⟩ := (hb w' hw).opened
    injection e with e1 e2 e3
    subst e1
    exact hc i x hx
  have hlo := h.size
  have HB1 : Hid _ := h
  obtain ⟨i0, hif, hz0, hz1, hz2⟩ := info_parts infoInt
  clear ha hb h
  generalize hal : a.length = an at *
  rw [← hl]
  have HAL : Hid (a.length = an) := hal
  have HBL : Hid (bb.length = an) := hl.symm
  clear hal hl
  go_enter Tryd.func109, Tryd.ntmps109
  go_wp2_with fail
  go_loopw [3, 9, 16] (fun vn vs i wr => ∃ j : Nat, j ≤ an ∧ i = .int .i64 j ∧ vn = .int .i64 (onW carry N 5 4 j) ∧ Hid (wr.ownsRow w.heap.size 3 1 vs (addG (a.take j) (bb.take j) carry N).2.length (cellsI (addG (a.take j) (bb.take j) carry N).2)) ∧ Hid (Bld wr lo hi b 41 (ins, gs ++ (addG (a.take j) (bb.take j) carry N).1, os)) ∧ Hid (Fr lo w wr)) (fun _ _ i _ => an - (intOf i).toNat)
  case atStart =>
    refine ⟨0, by omega, rfl, rfl, World.ownsRow_nil _ _ _ _, ?_, Fr.refl _ _⟩
    show Bld w lo hi b 41 (ins, gs ++ [], os)
    rw [List.append_nil]
    exact HB1.out
  case round =>
    obtain ⟨j, hj, rfl, rfl, HSU, HB, HBl⟩ := hrel
    clear HB1
    by_cases hlt : j < an
    · have hal := HAL.out
      have hbl := HBL.out
      obtain ⟨x, hx⟩ : ∃ x, a[j]? = some x := ⟨a[j], List.getElem?_eq_getElem (by omega)⟩
      obtain ⟨y, hy⟩ : ∃ y, bb[j]? = some y := ⟨bb[j], List.getElem?_eq_getElem (by omega)⟩
      have hl1 : (a.take j).length = j := List.length_take_of_le (by omega)
      have hl2 : (bb.take j).length = j := List.length_take_of_le (by omega)
      have hsn := addG_snoc (a.take j) (bb.take j) x y carry N (by rw [hl1, hl2])
      have hln := addG_len (a.take j) (bb.take j) carry N (by rw [hl1, hl2])
      rw [hl1] at hsn hln
      have hta : a.take (j + 1) = a.take j ++ [x] := by rw [List.take_add_one, hx]; rfl
      have htb : bb.take (j + 1) = bb.take j ++ [y] := by rw [List.take_add_one, hy]; rfl
      rw [← hta, ← htb] at hsn
      obtain ⟨S0, hS⟩ : ∃ S0 : Int, N + 5 * (j : Int) = S0 := ⟨_, rfl⟩
      rw [hS] at hsn
      obtain ⟨C, hC⟩ : ∃ C : Int, onW carry N 5 4 j = C := ⟨_, rfl⟩
      rw [hC] at hsn ⊢
      obtain ⟨G, hG⟩ : ∃ G, gs ++ (addG (a.take j) (bb.take j) carry N).1 = G := ⟨_, rfl⟩
      have hGl : ins + (G.length : Int) = S0 := by
        rw [← hG]
        simp only [List.length_append, hln.1, List.length_singleton]
        omega
      have hGn : G.length ≤ 21000 := by omega
      obtain ⟨S1, hS1⟩ : ∃ S1 : Int, S0 + 1 = S1 := ⟨_, rfl⟩
      obtain ⟨S2, hS2⟩ : ∃ S2 : Int, S0 + 2 = S2 := ⟨_, rfl⟩
      obtain ⟨S3, hS3⟩ : ∃ S3 : Int, S0 + 3 = S3 := ⟨_, rfl⟩
      obtain ⟨S4, hS4⟩ : ∃ S4 : Int, S0 + 4 = S4 := ⟨_, rfl⟩
      have HNEW : Hid (gs ++ (addG (a.take (j + 1)) (bb.take (j + 1)) carry N).1 = G ++ [(5, x, y)] ++ [(5, S0, C)] ++ [(3, x, y)] ++ [(3, S0, C)] ++ [(4, S2, S3)]) := by
        show gs ++ (addG (a.take (j + 1)) (bb.take (j + 1)) carry N).1 = _
        rw [hsn, ← hG]
        simp [addOne, ← hS, ← hS1, ← hS2, ← hS3, ← hS4]
        try omega
      have HON : Hid (onW carry N 5 4 (j + 1) = S4) := by
        show N + 5 * (j : Int) + 4 = S4
        omega
      have HNS : Hid ((addG (a.take (j + 1)) (bb.take (j + 1)) carry N).2 = (addG (a.take j) (bb.take j) carry N).2 ++ [S1]) := by
        show (addG (a.take (j + 1)) (bb.take (j + 1)) carry N).2 = _
        rw [hsn, ← hS1]
      have hsl : (addG (a.take j) (bb.take j) carry N).2.length = j := hln.2
      obtain ⟨SL, hSL⟩ : ∃ SL, (addG (a.take j) (bb.take j) carry N).2 = SL := ⟨_, rfl⟩
      rw [hSL] at HSU HNS hsl
      rw [hsl] at HSU
      clear hSL
      obtain ⟨va0, vc0, hv0⟩ := own_shape HSU.out
      subst hv0
      rw [hG] at HB
      clear hsn hln hta htb hG hC hl1 hl2
      obtain ⟨ag, aoff, rfl, _, _⟩ := HA.out wr HBl.out j x hx
      obtain ⟨bg, boff, rfl, _, _⟩ := HBB.out wr HBl.out j y hy
      have HAC : Hid (∀ w', Fr lo w w' → ag < w'.heap.size ∧ w'.cell? ⟨ag, aoff + j, none⟩ = some (.int .i64 x)) := fun w' hw => by
        obtain ⟨g, off, e, h1, h2⟩ := HA.out w' hw j x hx
        injection e with e1
        injection e1 with e2 e3
        subst e2 e3
        exact ⟨h1, h2⟩
      have HBC : Hid (∀ w', Fr lo w w' → bg < w'.heap.size ∧ w'.cell? ⟨bg, boff + j, none⟩ = some (.int .i64 y)) := fun w' hw => by
        obtain ⟨g, off, e, h1, h2⟩ := HBB.out w' hw j y hy
        injection e with e1
        injection e1 with e2 e3
        subst e2 e3
        exact ⟨h1, h2⟩
      have hjA : (j : Int) < (an : Int) := by omega
      clear hx hy HA HBB
      obtain ⟨ax0, ac0⟩ := HAC.out _ HBl.out
      obtain ⟨bx0, bc0⟩ := HBC.out _ HBl.out
      go_wp2_with fail
      go_region_with (go_at_call 117; refine (lay5_at lo hi b ins (G) os S0 5 x y (by first | omega | (simp only [List.length_append, List.length_singleton]; omega)) hI0 hI1 (by first | omega | (simp only [List.length_append, List.length_singleton]; omega)) _ ?_).mono ?_; (first | exact HB.out | exact HB.out.drew); rintro e w11 ⟨rfl, hB, hbl', hk'⟩; have HBw11 : Hid (Bld w11 lo hi b 41 (ins, G ++ [(5, x, y)], os)) := hB; have HBlw11 : Hid (Fr lo w w11) := (by first | exact HBl.out.trans hbl' | exact HBl.out.drew.trans hbl'); have HSw11 : Hid (w11.ownsRow w.heap.size 3 1 (.slice va0 j vc0) j (cellsI SL)) := own_keepT HSU.out (by first | exact hk'.int | exact ⟨hk'.int.block⟩); clear hB hbl' hk')
      all_goals
        clear HB HBl HSU
        go_wp2_with fail
        refine (lay5_at lo hi b ins (G ++ [(5, x, y)]) os S1 5 S0 C (by first | omega | (simp only [List.length_append, List.length_singleton]; omega)) hI0 hI1 (by first | omega | (simp only [List.length_append, List.length_singleton]; omega)) _ ?_).mono ?_
        · exact HBw11.out
        rintro e w12 ⟨rfl, hB, hbl', hk'⟩
        have HBw12 : Hid (Bld w12 lo hi b 41 (ins, G ++ [(5, x, y)] ++ [(5, S0, C)], os)) := hB
        have HBlw12 : Hid (Fr lo w w12) := HBlw11.out.trans hbl'
        have HSw12 : Hid (w12.ownsRow w.heap.size 3 1 (.slice va0 j vc0) j (cellsI SL)) := own_keepT HSw11.out hk'.int
        clear hB hbl' hk' HBw11 HBlw11 HSw11
        have own6 := World.ownsRow.alloc HSw12.out (.cells #[.int .i64 S1] 3)
        have hb6 : Hid (Fr lo w (w12.alloc (.cells #[.int .i64 S1] 3))) := HBlw12.out.alloc (by have := HBlw12.out.size; omega) _
        have hB6 : Hid (Bld (w12.alloc (.cells #[.int .i64 S1] 3)) lo hi b 41 (ins, G ++ [(5, x, y)] ++ [(5, S0, C)], os)) := by
          obtain ⟨q0, q1, q2, q3, q4, q5, q6⟩ := HBw12.out
          exact ⟨q0, q1, q2, q3.alloc _, q4.alloc _, q5.alloc _, q6⟩
        have hs6 : w.heap.size ≤ (w12.alloc (.cells #[.int .i64 S1] 3)).heap.size := hb6.out.size
        go_wp2_with (at_builtin; refine wpList_append_own _ rfl _ _ 39 rfl w.heap.size 3 i0 (.int .i64 0) 1 8 Tryd.underlying39 hif hz0 hz1 hz2 rfl (by decide) _ _ _ rfl own6 ⟨w12.heap.size, 0, none⟩ 1 1 [.int .i64 S1] rfl rfl (oneI_cells w12 S1) (ints_one [S1]) (by unfold maxLen; omega) (by omega) hs6 ?_)
        intro v7 w7 own7 grow7 _
        have HB7 : Hid (Bld w7 lo hi b 41 (ins, G ++ [(5, x, y)] ++ [(5, S0, C)], os)) := hB6.out.sum own6 hhi (by decide) grow7
        have HBl7 : Hid (Fr lo w w7) := hb6.out.grown grow7 hlo (fun kk hk => (own_block own6 hk).1)
        have HS7 : Hid (w7.ownsRow w.heap.size 3 1 v7 (j + 1) (cellsI (SL ++ [S1]))) := by
          show w7.ownsRow w.heap.size 3 1 v7 (j + 1) (cellsI (SL ++ [S1]))
          unfold cellsI
          rw [List.map_append]
          exact own7
        obtain ⟨va7, vc7, hv7⟩ := own_shape own7
        subst hv7
        clear own6 hb6 hB6 own7 grow7 HBw12 HBlw12 HSw12
        obtain ⟨ax2, ac2⟩ := HAC.out _ HBl7.out
        obtain ⟨bx2, bc2⟩ := HBC.out _ HBl7.out
        go_wp2_with fail
        go_region_with (go_at_call 117; refine (lay5_at lo hi b ins (G ++ [(5, x, y)] ++ [(5, S0, C)]) os S2 3 x y (by first | omega | (simp only [List.length_append, List.length_singleton]; omega)) hI0 hI1 (by first | omega | (simp only [List.length_append, List.length_singleton]; omega)) _ ?_).mono ?_; (first | exact HB7.out | exact HB7.out.drew); rintro e w13 ⟨rfl, hB, hbl', hk'⟩; have HBw13 : Hid (Bld w13 lo hi b 41 (ins, G ++ [(5, x, y)] ++ [(5, S0, C)] ++ [(3, x, y)], os)) := hB; have HBlw13 : Hid (Fr lo w w13) := (by first | exact HBl7.out.trans hbl' | exact HBl7.out.drew.trans hbl'); have HSw13 : Hid (w13.ownsRow w.heap.size 3 1 (.slice va7 (j + 1) vc7) (j + 1) (cellsI (SL ++ [S1]))) := own_keepT HS7.out (by first | exact hk'.int | exact ⟨hk'.int.block⟩); clear hB hbl' hk')
        all_goals
          clear HB7 HBl7 HS7
          go_wp2_with fail
          refine (lay5_at lo hi b ins (G ++ [(5, x, y)] ++ [(5, S0, C)] ++ [(3, x, y)]) os S3 3 S0 C (by first | omega | (simp only [List.length_append, List.length_singleton]; omega)) hI0 hI1 (by first | omega | (simp only [List.length_append, List.length_singleton]; omega)) _ ?_).mono ?_
          · exact HBw13.out
          rintro e w14 ⟨rfl, hB, hbl', hk'⟩
          have HBw14 : Hid (Bld w14 lo hi b 41 (ins, G ++ [(5, x, y)] ++ [(5, S0, C)] ++ [(3, x, y)] ++ [(3, S0, C)], os)) := hB
          have HBlw14 : Hid (Fr lo w w14) := HBlw13.out.trans hbl'
          have HSw14 : Hid (w14.ownsRow w.heap.size 3 1 (.slice va7 (j + 1) vc7) (j + 1) (cellsI (SL ++ [S1]))) := own_keepT HSw13.out hk'.int
          clear hB hbl' hk' HBw13 HBlw13 HSw13
          go_wp2_with fail
          refine (lay5_at lo hi b ins (G ++ [(5, x, y)] ++ [(5, S0, C)] ++ [(3, x, y)] ++ [(3, S0, C)]) os S4 4 S2 S3 (by first | omega | (simp only [List.length_append, List.length_singleton]; omega)) hI0 hI1 (by first | omega | (simp only [List.length_append, List.length_singleton]; omega)) _ ?_).mono ?_
          · exact HBw14.out
          rintro e w15 ⟨rfl, hB, hbl', hk'⟩
          have HBw15 : Hid (Bld w15 lo hi b 41 (ins, G ++ [(5, x, y)] ++ [(5, S0, C)] ++ [(3, x, y)] ++ [(3, S0, C)] ++ [(4, S2, S3)], os)) := hB
          have HBlw15 : Hid (Fr lo w w15) := HBlw14.out.trans hbl'
          have HSw15 : Hid (w15.ownsRow w.heap.size 3 1 (.slice va7 (j + 1) vc7) (j + 1) (cellsI (SL ++ [S1]))) := own_keepT HSw14.out hk'.int
          clear hB hbl' hk' HBw14 HBlw14 HSw14
          have HBF : Hid (Bld _ lo hi b 41 (ins, gs ++ (addG (a.take (j + 1)) (bb.take (j + 1)) carry N).1, os)) := (by have h1 := HBw15.out; rw [← HNEW.out] at h1; exact h1)
          have HSF : Hid (World.ownsRow _ w.heap.size 3 1 (.slice va7 (j + 1) vc7) (addG (a.take (j + 1)) (bb.take (j + 1)) carry N).2.length (cellsI (addG (a.take (j + 1)) (bb.take (j + 1)) carry N).2)) := (by have h1 := HSw15.out; rw [← HNS.out] at h1; rw [show (addG (a.take (j + 1)) (bb.take (j + 1)) carry N).2.length = j + 1 from by rw [HNS.out, List.length_append, hsl]; rfl]; exact h1)
          clear HNEW HNS HAC HBC HBw15 HSw15
          go_wp2_with fail
          go_roundw
          case rel => exact ⟨j + 1, by omega, by go_num, by rw [HON.out], HSF, HBF, HBlw15⟩
          case measure => simp [intOf]; omega
    · obtain rfl : j = an := by omega
      have ha1 : a.take j = a := List.take_of_length_le (by have := HAL.out; omega)
      have hb1 : bb.take j = bb := List.take_of_length_le (by have := HBL.out; omega)
      rw [ha1, hb1] at HB HSU
      clear HA HBB ha1 hb1
      go_wp2_with fail
      go_ret
      exact ⟨_, rfl, HSU.out, HB.out, HBl.out⟩
set_option maxRecDepth 100000 in
set_option maxHeartbeats 8000000 in
theorem sEq5_any (lo hi b : Nat) (ins : Int) (gs : List Gt) (os : List Int) (av bv : Value) (a bb : List Int) (N : Int) (hN : ins + gs.length = N) (hI0 : 0 ≤ ins) (hI1 : ins ≤ 16) (hn : gs.length ≤ 20000) (hl : a.length = bb.length) (hl16 : a.length ≤ 16) (w : World) (h : Bld w lo hi b 99 (ins, gs, os)) (hhi : hi ≤ w.heap.size)
    (ha : ∀ w', Fr lo w w' → IntsAt w' av a) (hb : ∀ w', Fr lo w w' → IntsAt w' bv bb) :
    Calls Tryd.prog 99 #[.pointer (some ⟨b, 0, none⟩), av, bv] w fun e w' => e = .returned (.int .i64 (onW N (N + 1) 3 2 a.length)) ∧ Bld w' lo hi b 99 (ins, gs ++ [(1, 1, 0)] ++ (eqG a bb N (N + 1)).1, os) ∧ Fr lo w w' := by
  obtain ⟨aa, acap, hav, _⟩ := (ha w (Fr.refl _ _)).opened
  obtain ⟨ba, bcap, hbv, _⟩ := (hb w (Fr.refl _ _)).opened
  subst hav hbv
  have HA : Hid (∀ w', Fr lo w w' → ∀ (i : Nat) (x : Int), a[i]? = some x → ∃ g off : Nat, aa = some ⟨g, off, none⟩ ∧ g < w'.heap.size ∧ w'.cell? ⟨g, off + i, none⟩ = some (.int .i64 x)) := fun w' hw i x hx => by
    obtain ⟨_, _, e, hc⟩ := (ha w' hw).opened
    injection e with e1 e2 e3
    subst e1
    exact hc i x hx
  have HBB : Hid (∀ w', Fr lo w w' → ∀ (i : Nat) (x : Int), bb[i]? = some x → ∃ g off : Nat, ba = some ⟨g, off, none⟩ ∧ g < w'.heap.size ∧ w'.cell? ⟨g, off + i, none⟩ = some (.int .i64 x)) := fun w' hw i x hx => by
    obtain ⟨_, _, e, hc⟩ := (hb w' hw).opened
    injection e with e1 e2 e3
    subst e1
    exact hc i x hx
  have hlo := h.size
  have g1 := gate5_at lo hi b ins gs os N 1 1 0 hN hI0 hI1 (by omega) w h
  clear ha hb h
  generalize hal : a.length = an at *
  rw [← hl]
  have HAL : Hid (a.length = an) := hal
  have HBL : Hid (bb.length = an) := hl.symm
  clear hal hl
  go_enter Tryd.func99, Tryd.ntmps99
  go_wp2_with fail
  refine g1.mono ?_
  rintro e w1 ⟨rfl, hB1, hb1, _⟩
  have HB1 : Hid _ := hB1
  have Hb1 : Hid _ := hb1
  clear g1 hB1 hb1
  go_wp2_with fail
  go_loopw [7, 15] (fun vn i wr => ∃ j : Nat, j ≤ an ∧ i = .int .i64 j ∧ vn = .int .i64 (onW N (N + 1) 3 2 j) ∧ Hid (Bld wr lo hi b 99 (ins, gs ++ [(1, 1, 0)] ++ (eqG (a.take j) (bb.take j) N (N + 1)).1, os)) ∧ Hid (Fr lo w wr)) (fun _ i _ => an - (intOf i).toNat)
  case atStart =>
    refine ⟨0, by omega, rfl, rfl, ?_, Hb1⟩
    show Bld w1 lo hi b 99 (ins, gs ++ [(1, 1, 0)] ++ [], os)
    rw [List.append_nil]
    exact HB1.out
  case round =>
    obtain ⟨j, hj, rfl, rfl, HB, HBl⟩ := hrel
    clear HB1 Hb1
    by_cases hlt : j < an
    · have hal := HAL.out
      have hbl := HBL.out
      obtain ⟨x, hx⟩ : ∃ x, a[j]? = some x := ⟨a[j], List.getElem?_eq_getElem (by omega)⟩
      obtain ⟨y, hy⟩ : ∃ y, bb[j]? = some y := ⟨bb[j], List.getElem?_eq_getElem (by omega)⟩
      have hl1 : (a.take j).length = j := List.length_take_of_le (by omega)
      have hl2 : (bb.take j).length = j := List.length_take_of_le (by omega)
      have hsn := eqG_snoc (a.take j) (bb.take j) x y N (N + 1) (by rw [hl1, hl2])
      have hln := eqG_len (a.take j) (bb.take j) N (N + 1) (by rw [hl1, hl2])
      rw [hl1] at hsn hln
      have hta : a.take (j + 1) = a.take j ++ [x] := by rw [List.take_add_one, hx]; rfl
      have htb : bb.take (j + 1) = bb.take j ++ [y] := by rw [List.take_add_one, hy]; rfl
      rw [← hta, ← htb] at hsn
      obtain ⟨S0, hS⟩ : ∃ S0 : Int, N + 1 + 3 * (j : Int) = S0 := ⟨_, rfl⟩
      rw [hS] at hsn
      obtain ⟨C, hC⟩ : ∃ C : Int, onW N (N + 1) 3 2 j = C := ⟨_, rfl⟩
      rw [hC] at hsn ⊢
      obtain ⟨G, hG⟩ : ∃ G, gs ++ [(1, 1, 0)] ++ (eqG (a.take j) (bb.take j) N (N + 1)).1 = G := ⟨_, rfl⟩
      have hGl : ins + (G.length : Int) = S0 := by
        rw [← hG]
        simp only [List.length_append, hln, List.length_singleton]
        omega
      have hGn : G.length ≤ 21000 := by omega
      obtain ⟨S1, hS1⟩ : ∃ S1 : Int, S0 + 1 = S1 := ⟨_, rfl⟩
      obtain ⟨S2, hS2⟩ : ∃ S2 : Int, S0 + 2 = S2 := ⟨_, rfl⟩
      have HNEW : Hid (gs ++ [(1, 1, 0)] ++ (eqG (a.take (j + 1)) (bb.take (j + 1)) N (N + 1)).1 = G ++ [(5, x, y)] ++ [(2, S0, 0)] ++ [(3, S1, C)]) := by
        show gs ++ [(1, 1, 0)] ++ (eqG (a.take (j + 1)) (bb.take (j + 1)) N (N + 1)).1 = _
        rw [hsn, ← hG]
        simp [eqOne, ← hS, ← hS1, ← hS2]
        try omega
      have HON : Hid (onW N (N + 1) 3 2 (j + 1) = S2) := by
        show (N + 1) + 3 * (j : Int) + 2 = S2
        omega
      rw [hG] at HB
      clear hsn hln hta htb hG hC hl1 hl2
      obtain ⟨ag, aoff, rfl, _, _⟩ := HA.out wr HBl.out j x hx
      obtain ⟨bg, boff, rfl, _, _⟩ := HBB.out wr HBl.out j y hy
      have HAC : Hid (∀ w', Fr lo w w' → ag < w'.heap.size ∧ w'.cell? ⟨ag, aoff + j, none⟩ = some (.int .i64 x)) := fun w' hw => by
        obtain ⟨g, off, e, h1, h2⟩ := HA.out w' hw j x hx
        injection e with e1
        injection e1 with e2 e3
        subst e2 e3
        exact ⟨h1, h2⟩
      have HBC : Hid (∀ w', Fr lo w w' → bg < w'.heap.size ∧ w'.cell? ⟨bg, boff + j, none⟩ = some (.int .i64 y)) := fun w' hw => by
        obtain ⟨g, off, e, h1, h2⟩ := HBB.out w' hw j y hy
        injection e with e1
        injection e1 with e2 e3
        subst e2 e3
        exact ⟨h1, h2⟩
      have hjA : (j : Int) < (an : Int) := by omega
      clear hx hy HA HBB
      obtain ⟨ax0, ac0⟩ := HAC.out _ HBl.out
      obtain ⟨bx0, bc0⟩ := HBC.out _ HBl.out
      go_wp2_with fail
      go_region_with (go_at_call 95; refine (gate5_at lo hi b ins (G) os S0 5 x y (by first | omega | (simp only [List.length_append, List.length_singleton]; omega)) hI0 hI1 (by first | omega | (simp only [List.length_append, List.length_singleton]; omega)) _ ?_).mono ?_; (first | exact HB.out | exact HB.out.drew); rintro e w11 ⟨rfl, hB, hbl', hk'⟩; have HBw11 : Hid (Bld w11 lo hi b 99 (ins, G ++ [(5, x, y)], os)) := hB; have HBlw11 : Hid (Fr lo w w11) := (by first | exact HBl.out.trans hbl' | exact HBl.out.drew.trans hbl'); clear hB hbl' hk')
      all_goals
        clear HB HBl
        go_wp2_with fail
        refine (gate5_at lo hi b ins (G ++ [(5, x, y)]) os S1 2 S0 0 (by first | omega | (simp only [List.length_append, List.length_singleton]; omega)) hI0 hI1 (by first | omega | (simp only [List.length_append, List.length_singleton]; omega)) _ ?_).mono ?_
        · exact HBw11.out
        rintro e w12 ⟨rfl, hB, hbl', hk'⟩
        have HBw12 : Hid (Bld w12 lo hi b 99 (ins, G ++ [(5, x, y)] ++ [(2, S0, 0)], os)) := hB
        have HBlw12 : Hid (Fr lo w w12) := HBlw11.out.trans hbl'
        clear hB hbl' hk' HBw11 HBlw11
        go_wp2_with fail
        refine (gate5_at lo hi b ins (G ++ [(5, x, y)] ++ [(2, S0, 0)]) os S2 3 S1 C (by first | omega | (simp only [List.length_append, List.length_singleton]; omega)) hI0 hI1 (by first | omega | (simp only [List.length_append, List.length_singleton]; omega)) _ ?_).mono ?_
        · exact HBw12.out
        rintro e w13 ⟨rfl, hB, hbl', hk'⟩
        have HBw13 : Hid (Bld w13 lo hi b 99 (ins, G ++ [(5, x, y)] ++ [(2, S0, 0)] ++ [(3, S1, C)], os)) := hB
        have HBlw13 : Hid (Fr lo w w13) := HBlw12.out.trans hbl'
        clear hB hbl' hk' HBw12 HBlw12
        have HBF : Hid (Bld _ lo hi b 99 (ins, gs ++ [(1, 1, 0)] ++ (eqG (a.take (j + 1)) (bb.take (j + 1)) N (N + 1)).1, os)) := (by have h1 := HBw13.out; rw [← HNEW.out] at h1; exact h1)
        clear HNEW HAC HBC HBw13
        go_wp2_with fail
        go_roundw
        case rel => exact ⟨j + 1, by omega, by go_num, by rw [HON.out], HBF, HBlw13⟩
        case measure => simp [intOf]; omega
    · obtain rfl : j = an := by omega
      have ha1 : a.take j = a := List.take_of_length_le (by have := HAL.out; omega)
      have hb1 : bb.take j = bb := List.take_of_length_le (by have := HBL.out; omega)
      rw [ha1, hb1] at HB
      clear HA HBB ha1 hb1
      go_wp2_with fail
      go_ret
      exact ⟨rfl, HB.out, HBl.out⟩
set_option maxRecDepth 100000 in
set_option maxHeartbeats 8000000 in
theorem sLess5_any (lo hi b : Nat) (ins : Int) (gs : List Gt) (os : List Int) (av bv : Value) (a bb : List Int) (N : Int) (hN : ins + gs.length = N) (hI0 : 0 ≤ ins) (hI1 : ins ≤ 16) (hn : gs.length ≤ 20000) (hl : a.length = bb.length) (hl16 : a.length ≤ 16) (w : World) (h : Bld w lo hi b 99 (ins, gs, os)) (hhi : hi ≤ w.heap.size)
    (ha : ∀ w', Fr lo w w' → IntsAt w' av a) (hb : ∀ w', Fr lo w w' → IntsAt w' bv bb) :
    Calls Tryd.prog 100 #[.pointer (some ⟨b, 0, none⟩), av, bv] w fun e w' => e = .returned (.int .i64 (onW N (N + 1) 6 5 a.length)) ∧ Bld w' lo hi b 99 (ins, gs ++ [(1, 0, 0)] ++ (lessG a bb N (N + 1)).1, os) ∧ Fr lo w w' := by
  obtain ⟨aa, acap, hav, _⟩ := (ha w (Fr.refl _ _)).opened
  obtain ⟨ba, bcap, hbv, _⟩ := (hb w (Fr.refl _ _)).opened
  subst hav hbv
  have HA : Hid (∀ w', Fr lo w w' → ∀ (i : Nat) (x : Int), a[i]? = some x → ∃ g off : Nat, aa = some ⟨g, off, none⟩ ∧ g < w'.heap.size ∧ w'.cell? ⟨g, off + i, none⟩ = some (.int .i64 x)) := fun w' hw i x hx => by
    obtain ⟨_, _, e, hc⟩ := (ha w' hw).opened
    injection e with e1 e2 e3
    subst e1
    exact hc i x hx
  have HBB : Hid (∀ w', Fr lo w w' → ∀ (i : Nat) (x : Int), bb[i]? = some x → ∃ g off : Nat, ba = some ⟨g, off, none⟩ ∧ g < w'.heap.size ∧ w'.cell? ⟨g, off + i, none⟩ = some (.int .i64 x)) := fun w' hw i x hx => by
    obtain ⟨_, _, e, hc⟩ := (hb w' hw).opened
    injection e with e1 e2 e3
    subst e1
    exact hc i x hx
  have hlo := h.size
  have g1 := gate5_at lo hi b ins gs os N 1 0 0 hN hI0 hI1 (by omega) w h
  clear ha hb h
  generalize hal : a.length = an at *
  rw [← hl]
  have HAL : Hid (a.length = an) := hal
  have HBL : Hid (bb.length = an) := hl.symm
  clear hal hl
  go_enter Tryd.func100, Tryd.ntmps100
  go_wp2_with fail
  refine g1.mono ?_
  rintro e w1 ⟨rfl, hB1, hb1, _⟩
  have HB1 : Hid _ := hB1
  have Hb1 : Hid _ := hb1
  clear g1 hB1 hb1
  go_wp2_with fail
  go_loopw [7, 18] (fun vn i wr => ∃ j : Nat, j ≤ an ∧ i = .int .i64 j ∧ vn = .int .i64 (onW N (N + 1) 6 5 j) ∧ Hid (Bld wr lo hi b 99 (ins, gs ++ [(1, 0, 0)] ++ (lessG (a.take j) (bb.take j) N (N + 1)).1, os)) ∧ Hid (Fr lo w wr)) (fun _ i _ => an - (intOf i).toNat)
  case atStart =>
    refine ⟨0, by omega, rfl, rfl, ?_, Hb1⟩
    show Bld w1 lo hi b 99 (ins, gs ++ [(1, 0, 0)] ++ [], os)
    rw [List.append_nil]
    exact HB1.out
  case round =>
    obtain ⟨j, hj, rfl, rfl, HB, HBl⟩ := hrel
    clear HB1 Hb1
    by_cases hlt : j < an
    · have hal := HAL.out
      have hbl := HBL.out
      obtain ⟨x, hx⟩ : ∃ x, a[j]? = some x := ⟨a[j], List.getElem?_eq_getElem (by omega)⟩
      obtain ⟨y, hy⟩ : ∃ y, bb[j]? = some y := ⟨bb[j], List.getElem?_eq_getElem (by omega)⟩
      have hl1 : (a.take j).length = j := List.length_take_of_le (by omega)
      have hl2 : (bb.take j).length = j := List.length_take_of_le (by omega)
      have hsn := lessG_snoc (a.take j) (bb.take j) x y N (N + 1) (by rw [hl1, hl2])
      have hln := lessG_len (a.take j) (bb.take j) N (N + 1) (by rw [hl1, hl2])
      rw [hl1] at hsn hln
      have hta : a.take (j + 1) = a.take j ++ [x] := by rw [List.take_add_one, hx]; rfl
      have htb : bb.take (j + 1) = bb.take j ++ [y] := by rw [List.take_add_one, hy]; rfl
      rw [← hta, ← htb] at hsn
      obtain ⟨S0, hS⟩ : ∃ S0 : Int, N + 1 + 6 * (j : Int) = S0 := ⟨_, rfl⟩
      rw [hS] at hsn
      obtain ⟨C, hC⟩ : ∃ C : Int, onW N (N + 1) 6 5 j = C := ⟨_, rfl⟩
      rw [hC] at hsn ⊢
      obtain ⟨G, hG⟩ : ∃ G, gs ++ [(1, 0, 0)] ++ (lessG (a.take j) (bb.take j) N (N + 1)).1 = G := ⟨_, rfl⟩
      have hGl : ins + (G.length : Int) = S0 := by
        rw [← hG]
        simp only [List.length_append, hln, List.length_singleton]
        omega
      have hGn : G.length ≤ 21000 := by omega
      obtain ⟨S1, hS1⟩ : ∃ S1 : Int, S0 + 1 = S1 := ⟨_, rfl⟩
      obtain ⟨S2, hS2⟩ : ∃ S2 : Int, S0 + 2 = S2 := ⟨_, rfl⟩
      obtain ⟨S3, hS3⟩ : ∃ S3 : Int, S0 + 3 = S3 := ⟨_, rfl⟩
      obtain ⟨S4, hS4⟩ : ∃ S4 : Int, S0 + 4 = S4 := ⟨_, rfl⟩
      obtain ⟨S5, hS5⟩ : ∃ S5 : Int, S0 + 5 = S5 := ⟨_, rfl⟩
      have HNEW : Hid (gs ++ [(1, 0, 0)] ++ (lessG (a.take (j + 1)) (bb.take (j + 1)) N (N + 1)).1 = G ++ [(5, x, y)] ++ [(2, S0, 0)] ++ [(3, S1, C)] ++ [(2, x, 0)] ++ [(3, S3, y)] ++ [(4, S2, S4)]) := by
        show gs ++ [(1, 0, 0)] ++ (lessG (a.take (j + 1)) (bb.take (j + 1)) N (N + 1)).1 = _
        rw [hsn, ← hG]
        simp [lessOne, ← hS, ← hS1, ← hS2, ← hS3, ← hS4, ← hS5]
        try omega
      have HON : Hid (onW N (N + 1) 6 5 (j + 1) = S5) := by
        show (N + 1) + 6 * (j : Int) + 5 = S5
        omega
      rw [hG] at HB
      clear hsn hln hta htb hG hC hl1 hl2
      obtain ⟨ag, aoff, rfl, _, _⟩ := HA.out wr HBl.out j x hx
      obtain ⟨bg, boff, rfl, _, _⟩ := HBB.out wr HBl.out j y hy
      have HAC : Hid (∀ w', Fr lo w w' → ag < w'.heap.size ∧ w'.cell? ⟨ag, aoff + j, none⟩ = some (.int .i64 x)) := fun w' hw => by
        obtain ⟨g, off, e, h1, h2⟩ := HA.out w' hw j x hx
        injection e with e1
        injection e1 with e2 e3
        subst e2 e3
        exact ⟨h1, h2⟩
      have HBC : Hid (∀ w', Fr lo w w' → bg < w'.heap.size ∧ w'.cell? ⟨bg, boff + j, none⟩ = some (.int .i64 y)) := fun w' hw => by
        obtain ⟨g, off, e, h1, h2⟩ := HBB.out w' hw j y hy
        injection e with e1
        injection e1 with e2 e3
        subst e2 e3
        exact ⟨h1, h2⟩
      have hjA : (j : Int) < (an : Int) := by omega
      clear hx hy HA HBB
      obtain ⟨ax0, ac0⟩ := HAC.out _ HBl.out
      obtain ⟨bx0, bc0⟩ := HBC.out _ HBl.out
      go_wp2_with fail
      go_region_with (go_at_call 95; refine (gate5_at lo hi b ins (G) os S0 5 x y (by first | omega | (simp only [List.length_append, List.length_singleton]; omega)) hI0 hI1 (by first | omega | (simp only [List.length_append, List.length_singleton]; omega)) _ ?_).mono ?_; (first | exact HB.out | exact HB.out.drew); rintro e w11 ⟨rfl, hB, hbl', hk'⟩; have HBw11 : Hid (Bld w11 lo hi b 99 (ins, G ++ [(5, x, y)], os)) := hB; have HBlw11 : Hid (Fr lo w w11) := (by first | exact HBl.out.trans hbl' | exact HBl.out.drew.trans hbl'); clear hB hbl' hk')
      all_goals
        clear HB HBl
        go_wp2_with fail
        refine (gate5_at lo hi b ins (G ++ [(5, x, y)]) os S1 2 S0 0 (by first | omega | (simp only [List.length_append, List.length_singleton]; omega)) hI0 hI1 (by first | omega | (simp only [List.length_append, List.length_singleton]; omega)) _ ?_).mono ?_
        · exact HBw11.out
        rintro e w12 ⟨rfl, hB, hbl', hk'⟩
        have HBw12 : Hid (Bld w12 lo hi b 99 (ins, G ++ [(5, x, y)] ++ [(2, S0, 0)], os)) := hB
        have HBlw12 : Hid (Fr lo w w12) := HBlw11.out.trans hbl'
        clear hB hbl' hk' HBw11 HBlw11
        go_wp2_with fail
        refine (gate5_at lo hi b ins (G ++ [(5, x, y)] ++ [(2, S0, 0)]) os S2 3 S1 C (by first | omega | (simp only [List.length_append, List.length_singleton]; omega)) hI0 hI1 (by first | omega | (simp only [List.length_append, List.length_singleton]; omega)) _ ?_).mono ?_
        · exact HBw12.out
        rintro e w13 ⟨rfl, hB, hbl', hk'⟩
        have HBw13 : Hid (Bld w13 lo hi b 99 (ins, G ++ [(5, x, y)] ++ [(2, S0, 0)] ++ [(3, S1, C)], os)) := hB
        have HBlw13 : Hid (Fr lo w w13) := HBlw12.out.trans hbl'
        clear hB hbl' hk' HBw12 HBlw12
        obtain ⟨ax3, ac3⟩ := HAC.out _ HBlw13.out
        go_wp2_with fail
        refine (gate5_at lo hi b ins (G ++ [(5, x, y)] ++ [(2, S0, 0)] ++ [(3, S1, C)]) os S3 2 x 0 (by first | omega | (simp only [List.length_append, List.length_singleton]; omega)) hI0 hI1 (by first | omega | (simp only [List.length_append, List.length_singleton]; omega)) _ ?_).mono ?_
        · exact HBw13.out
        rintro e w14 ⟨rfl, hB, hbl', hk'⟩
        have HBw14 : Hid (Bld w14 lo hi b 99 (ins, G ++ [(5, x, y)] ++ [(2, S0, 0)] ++ [(3, S1, C)] ++ [(2, x, 0)], os)) := hB
        have HBlw14 : Hid (Fr lo w w14) := HBlw13.out.trans hbl'
        clear hB hbl' hk' HBw13 HBlw13
        obtain ⟨bx4, bc4⟩ := HBC.out _ HBlw14.out
        go_wp2_with fail
        refine (gate5_at lo hi b ins (G ++ [(5, x, y)] ++ [(2, S0, 0)] ++ [(3, S1, C)] ++ [(2, x, 0)]) os S4 3 S3 y (by first | omega | (simp only [List.length_append, List.length_singleton]; omega)) hI0 hI1 (by first | omega | (simp only [List.length_append, List.length_singleton]; omega)) _ ?_).mono ?_
        · exact HBw14.out
        rintro e w15 ⟨rfl, hB, hbl', hk'⟩
        have HBw15 : Hid (Bld w15 lo hi b 99 (ins, G ++ [(5, x, y)] ++ [(2, S0, 0)] ++ [(3, S1, C)] ++ [(2, x, 0)] ++ [(3, S3, y)], os)) := hB
        have HBlw15 : Hid (Fr lo w w15) := HBlw14.out.trans hbl'
        clear hB hbl' hk' HBw14 HBlw14
        go_wp2_with fail
        refine (gate5_at lo hi b ins (G ++ [(5, x, y)] ++ [(2, S0, 0)] ++ [(3, S1, C)] ++ [(2, x, 0)] ++ [(3, S3, y)]) os S5 4 S2 S4 (by first | omega | (simp only [List.length_append, List.length_singleton]; omega)) hI0 hI1 (by first | omega | (simp only [List.length_append, List.length_singleton]; omega)) _ ?_).mono ?_
        · exact HBw15.out
        rintro e w16 ⟨rfl, hB, hbl', hk'⟩
        have HBw16 : Hid (Bld w16 lo hi b 99 (ins, G ++ [(5, x, y)] ++ [(2, S0, 0)] ++ [(3, S1, C)] ++ [(2, x, 0)] ++ [(3, S3, y)] ++ [(4, S2, S4)], os)) := hB
        have HBlw16 : Hid (Fr lo w w16) := HBlw15.out.trans hbl'
        clear hB hbl' hk' HBw15 HBlw15
        have HBF : Hid (Bld _ lo hi b 99 (ins, gs ++ [(1, 0, 0)] ++ (lessG (a.take (j + 1)) (bb.take (j + 1)) N (N + 1)).1, os)) := (by have h1 := HBw16.out; rw [← HNEW.out] at h1; exact h1)
        clear HNEW HAC HBC HBw16
        go_wp2_with fail
        go_roundw
        case rel => exact ⟨j + 1, by omega, by go_num, by rw [HON.out], HBF, HBlw16⟩
        case measure => simp [intOf]; omega
    · obtain rfl : j = an := by omega
      have ha1 : a.take j = a := List.take_of_length_le (by have := HAL.out; omega)
      have hb1 : bb.take j = bb := List.take_of_length_le (by have := HBL.out; omega)
      rw [ha1, hb1] at HB
      clear HA HBB ha1 hb1
      go_wp2_with fail
      go_ret
      exact ⟨rfl, HB.out, HBl.out⟩
set_option maxRecDepth 100000 in
set_option maxHeartbeats 8000000 in
theorem sAdd5_any (lo hi b : Nat) (ins : Int) (gs : List Gt) (os : List Int) (av bv : Value) (a bb : List Int) (carry : Int) (N : Int) (hN : ins + gs.length = N) (hI0 : 0 ≤ ins) (hI1 : ins ≤ 16) (hn : gs.length ≤ 20000) (hl : a.length = bb.length) (hl16 : a.length ≤ 16) (w : World) (h : Bld w lo hi b 99 (ins, gs, os)) (hhi : hi ≤ w.heap.size)
    (ha : ∀ w', Fr lo w w' → IntsAt w' av a) (hb : ∀ w', Fr lo w w' → IntsAt w' bv bb) :
    Calls Tryd.prog 96 #[.pointer (some ⟨b, 0, none⟩), av, bv, .int .i64 carry] w fun e w' => ∃ r, e = .returned r ∧ w'.ownsRow w.heap.size 3 1 r (addG a bb carry N).2.length (cellsI (addG a bb carry N).2) ∧ Bld w' lo hi b 99 (ins, gs ++ (addG a bb carry N).1, os) ∧ Fr lo w w' := by
  obtain ⟨aa, acap, hav, _⟩ := (ha w (Fr.refl _ _)).opened
  obtain ⟨ba, bcap, hbv, _⟩ := (hb w (Fr.refl _ _)).opened
  subst hav hbv
  have HA : Hid (∀ w', Fr lo w w' → ∀ (i : Nat) (x : Int), a[i]? = some x → ∃ g off : Nat, aa = some ⟨g, off, none⟩ ∧ g < w'.heap.size ∧ w'.cell? ⟨g, off + i, none⟩ = some (.int .i64 x)) := fun w' hw i x hx => by
    obtain ⟨_, _, e, hc⟩ := (ha w' hw).opened
    injection e with e1 e2 e3
    subst e1
    exact hc i x hx
  have HBB : Hid (∀ w', Fr lo w w' → ∀ (i : Nat) (x : Int), bb[i]? = some x → ∃ g off : Nat, ba = some ⟨g, off, none⟩ ∧ g < w'.heap.size ∧ w'.cell? ⟨g, off + i, none⟩ = some (.int .i64 x)) := fun w' hw i x hx => by
    obtain ⟨_, _, e, hc⟩ := (hb w' hw).opened
    injection e with e1 e2 e3
    subst e1
    exact hc i x hx
  have hlo := h.size
  have HB1 : Hid _ := h
  obtain ⟨i0, hif, hz0, hz1, hz2⟩ := info_parts infoInt
  clear ha hb h
  generalize hal : a.length = an at *
  rw [← hl]
  have HAL : Hid (a.length = an) := hal
  have HBL : Hid (bb.length = an) := hl.symm
  clear hal hl
  go_enter Tryd.func96, Tryd.ntmps96
  go_wp2_with fail
  go_loopw [3, 9, 17] (fun vn vs i wr => ∃ j : Nat, j ≤ an ∧ i = .int .i64 j ∧ vn = .int .i64 (onW carry N 5 4 j) ∧ Hid (wr.ownsRow w.heap.size 3 1 vs (addG (a.take j) (bb.take j) carry N).2.length (cellsI (addG (a.take j) (bb.take j) carry N).2)) ∧ Hid (Bld wr lo hi b 99 (ins, gs ++ (addG (a.take j) (bb.take j) carry N).1, os)) ∧ Hid (Fr lo w wr)) (fun _ _ i _ => an - (intOf i).toNat)
  case atStart =>
    refine ⟨0, by omega, rfl, rfl, World.ownsRow_nil _ _ _ _, ?_, Fr.refl _ _⟩
    show Bld w lo hi b 99 (ins, gs ++ [], os)
    rw [List.append_nil]
    exact HB1.out
  case round =>
    obtain ⟨j, hj, rfl, rfl, HSU, HB, HBl⟩ := hrel
    clear HB1
    by_cases hlt : j < an
    · have hal := HAL.out
      have hbl := HBL.out
      obtain ⟨x, hx⟩ : ∃ x, a[j]? = some x := ⟨a[j], List.getElem?_eq_getElem (by omega)⟩
      obtain ⟨y, hy⟩ : ∃ y, bb[j]? = some y := ⟨bb[j], List.getElem?_eq_getElem (by omega)⟩
      have hl1 : (a.take j).length = j := List.length_take_of_le (by omega)
      have hl2 : (bb.take j).length = j := List.length_take_of_le (by omega)
      have hsn := addG_snoc (a.take j) (bb.take j) x y carry N (by rw [hl1, hl2])
      have hln := addG_len (a.take j) (bb.take j) carry N (by rw [hl1, hl2])
      rw [hl1] at hsn hln
      have hta : a.take (j + 1) = a.take j ++ [x] := by rw [List.take_add_one, hx]; rfl
      have htb : bb.take (j + 1) = bb.take j ++ [y] := by rw [List.take_add_one, hy]; rfl
      rw [← hta, ← htb] at hsn
      obtain ⟨S0, hS⟩ : ∃ S0 : Int, N + 5 * (j : Int) = S0 := ⟨_, rfl⟩
      rw [hS] at hsn
      obtain ⟨C, hC⟩ : ∃ C : Int, onW carry N 5 4 j = C := ⟨_, rfl⟩
      rw [hC] at hsn ⊢
      obtain ⟨G, hG⟩ : ∃ G, gs ++ (addG (a.take j) (bb.take j) carry N).1 = G := ⟨_, rfl⟩
      have hGl : ins + (G.length : Int) = S0 := by
        rw [← hG]
        simp only [List.length_append, hln.1, List.length_singleton]
        omega
      have hGn : G.length ≤ 21000 := by omega
      obtain ⟨S1, hS1⟩ : ∃ S1 : Int, S0 + 1 = S1 := ⟨_, rfl⟩
      obtain ⟨S2, hS2⟩ : ∃ S2 : Int, S0 + 2 = S2 := ⟨_, rfl⟩
      obtain ⟨S3, hS3⟩ : ∃ S3 : Int, S0 + 3 = S3 := ⟨_, rfl⟩
      obtain ⟨S4, hS4⟩ : ∃ S4 : Int, S0 + 4 = S4 := ⟨_, rfl⟩
      have HNEW : Hid (gs ++ (addG (a.take (j + 1)) (bb.take (j + 1)) carry N).1 = G ++ [(5, x, y)] ++ [(5, S0, C)] ++ [(3, x, y)] ++ [(3, S0, C)] ++ [(4, S2, S3)]) := by
        show gs ++ (addG (a.take (j + 1)) (bb.take (j + 1)) carry N).1 = _
        rw [hsn, ← hG]
        simp [addOne, ← hS, ← hS1, ← hS2, ← hS3, ← hS4]
        try omega
      have HON : Hid (onW carry N 5 4 (j + 1) = S4) := by
        show N + 5 * (j : Int) + 4 = S4
        omega
      have HNS : Hid ((addG (a.take (j + 1)) (bb.take (j + 1)) carry N).2 = (addG (a.take j) (bb.take j) carry N).2 ++ [S1]) := by
        show (addG (a.take (j + 1)) (bb.take (j + 1)) carry N).2 = _
        rw [hsn, ← hS1]
      have hsl : (addG (a.take j) (bb.take j) carry N).2.length = j := hln.2
      obtain ⟨SL, hSL⟩ : ∃ SL, (addG (a.take j) (bb.take j) carry N).2 = SL := ⟨_, rfl⟩
      rw [hSL] at HSU HNS hsl
      rw [hsl] at HSU
      clear hSL
      obtain ⟨va0, vc0, hv0⟩ := own_shape HSU.out
      subst hv0
      rw [hG] at HB
      clear hsn hln hta htb hG hC hl1 hl2
      obtain ⟨ag, aoff, rfl, _, _⟩ := HA.out wr HBl.out j x hx
      obtain ⟨bg, boff, rfl, _, _⟩ := HBB.out wr HBl.out j y hy
      have HAC : Hid (∀ w', Fr lo w w' → ag < w'.heap.size ∧ w'.cell? ⟨ag, aoff + j, none⟩ = some (.int .i64 x)) := fun w' hw => by
        obtain ⟨g, off, e, h1, h2⟩ := HA.out w' hw j x hx
        injection e with e1
        injection e1 with e2 e3
        subst e2 e3
        exact ⟨h1, h2⟩
      have HBC : Hid (∀ w', Fr lo w w' → bg < w'.heap.size ∧ w'.cell? ⟨bg, boff + j, none⟩ = some (.int .i64 y)) := fun w' hw => by
        obtain ⟨g, off, e, h1, h2⟩ := HBB.out w' hw j y hy
        injection e with e1
        injection e1 with e2 e3
        subst e2 e3
        exact ⟨h1, h2⟩
      have hjA : (j : Int) < (an : Int) := by omega
      clear hx hy HA HBB
      obtain ⟨ax0, ac0⟩ := HAC.out _ HBl.out
      obtain ⟨bx0, bc0⟩ := HBC.out _ HBl.out
      go_wp2_with fail
      go_region_with (go_at_call 95; refine (gate5_at lo hi b ins (G) os S0 5 x y (by first | omega | (simp only [List.length_append, List.length_singleton]; omega)) hI0 hI1 (by first | omega | (simp only [List.length_append, List.length_singleton]; omega)) _ ?_).mono ?_; (first | exact HB.out | exact HB.out.drew); rintro e w11 ⟨rfl, hB, hbl', hk'⟩; have HBw11 : Hid (Bld w11 lo hi b 99 (ins, G ++ [(5, x, y)], os)) := hB; have HBlw11 : Hid (Fr lo w w11) := (by first | exact HBl.out.trans hbl' | exact HBl.out.drew.trans hbl'); have HSw11 : Hid (w11.ownsRow w.heap.size 3 1 (.slice va0 j vc0) j (cellsI SL)) := own_keepT HSU.out (by first | exact hk'.int | exact ⟨hk'.int.block⟩); clear hB hbl' hk')
      all_goals
        clear HB HBl HSU
        go_wp2_with fail
        refine (gate5_at lo hi b ins (G ++ [(5, x, y)]) os S1 5 S0 C (by first | omega | (simp only [List.length_append, List.length_singleton]; omega)) hI0 hI1 (by first | omega | (simp only [List.length_append, List.length_singleton]; omega)) _ ?_).mono ?_
        · exact HBw11.out
        rintro e w12 ⟨rfl, hB, hbl', hk'⟩
        have HBw12 : Hid (Bld w12 lo hi b 99 (ins, G ++ [(5, x, y)] ++ [(5, S0, C)], os)) := hB
        have HBlw12 : Hid (Fr lo w w12) := HBlw11.out.trans hbl'
        have HSw12 : Hid (w12.ownsRow w.heap.size 3 1 (.slice va0 j vc0) j (cellsI SL)) := own_keepT HSw11.out hk'.int
        clear hB hbl' hk' HBw11 HBlw11 HSw11
        obtain ⟨ax2, ac2⟩ := HAC.out _ HBlw12.out
        obtain ⟨bx2, bc2⟩ := HBC.out _ HBlw12.out
        go_wp2_with fail
        go_region_with (go_at_call 95; refine (gate5_at lo hi b ins (G ++ [(5, x, y)] ++ [(5, S0, C)]) os S2 3 x y (by first | omega | (simp only [List.length_append, List.length_singleton]; omega)) hI0 hI1 (by first | omega | (simp only [List.length_append, List.length_singleton]; omega)) _ ?_).mono ?_; (first | exact HBw12.out | exact HBw12.out.drew); rintro e w13 ⟨rfl, hB, hbl', hk'⟩; have HBw13 : Hid (Bld w13 lo hi b 99 (ins, G ++ [(5, x, y)] ++ [(5, S0, C)] ++ [(3, x, y)], os)) := hB; have HBlw13 : Hid (Fr lo w w13) := (by first | exact HBlw12.out.trans hbl' | exact HBlw12.out.drew.trans hbl'); have HSw13 : Hid (w13.ownsRow w.heap.size 3 1 (.slice va0 j vc0) j (cellsI SL)) := own_keepT HSw12.out (by first | exact hk'.int | exact ⟨hk'.int.block⟩); clear hB hbl' hk')
        all_goals
          clear HBw12 HBlw12 HSw12
          go_wp2_with fail
          refine (gate5_at lo hi b ins (G ++ [(5, x, y)] ++ [(5, S0, C)] ++ [(3, x, y)]) os S3 3 S0 C (by first | omega | (simp only [List.length_append, List.length_singleton]; omega)) hI0 hI1 (by first | omega | (simp only [List.length_append, List.length_singleton]; omega)) _ ?_).mono ?_
          · exact HBw13.out
          rintro e w14 ⟨rfl, hB, hbl', hk'⟩
          have HBw14 : Hid (Bld w14 lo hi b 99 (ins, G ++ [(5, x, y)] ++ [(5, S0, C)] ++ [(3, x, y)] ++ [(3, S0, C)], os)) := hB
          have HBlw14 : Hid (Fr lo w w14) := HBlw13.out.trans hbl'
          have HSw14 : Hid (w14.ownsRow w.heap.size 3 1 (.slice va0 j vc0) j (cellsI SL)) := own_keepT HSw13.out hk'.int
          clear hB hbl' hk' HBw13 HBlw13 HSw13
          go_wp2_with fail
          refine (gate5_at lo hi b ins (G ++ [(5, x, y)] ++ [(5, S0, C)] ++ [(3, x, y)] ++ [(3, S0, C)]) os S4 4 S2 S3 (by first | omega | (simp only [List.length_append, List.length_singleton]; omega)) hI0 hI1 (by first | omega | (simp only [List.length_append, List.length_singleton]; omega)) _ ?_).mono ?_
          · exact HBw14.out
          rintro e w15 ⟨rfl, hB, hbl', hk'⟩
          have HBw15 : Hid (Bld w15 lo hi b 99 (ins, G ++ [(5, x, y)] ++ [(5, S0, C)] ++ [(3, x, y)] ++ [(3, S0, C)] ++ [(4, S2, S3)], os)) := hB
          have HBlw15 : Hid (Fr lo w w15) := HBlw14.out.trans hbl'
          have HSw15 : Hid (w15.ownsRow w.heap.size 3 1 (.slice va0 j vc0) j (cellsI SL)) := own_keepT HSw14.out hk'.int
          clear hB hbl' hk' HBw14 HBlw14 HSw14
          have own6 := World.ownsRow.alloc HSw15.out (.cells #[.int .i64 S1] 3)
          have hb6 : Hid (Fr lo w (w15.alloc (.cells #[.int .i64 S1] 3))) := HBlw15.out.alloc (by have := HBlw15.out.size; omega) _
          have hB6 : Hid (Bld (w15.alloc (.cells #[.int .i64 S1] 3)) lo hi b 99 (ins, G ++ [(5, x, y)] ++ [(5, S0, C)] ++ [(3, x, y)] ++ [(3, S0, C)] ++ [(4, S2, S3)], os)) := by
            obtain ⟨q0, q1, q2, q3, q4, q5, q6⟩ := HBw15.out
            exact ⟨q0, q1, q2, q3.alloc _, q4.alloc _, q5.alloc _, q6⟩
          have hs6 : w.heap.size ≤ (w15.alloc (.cells #[.int .i64 S1] 3)).heap.size := hb6.out.size
          go_wp2_with (at_builtin; refine wpList_append_own _ rfl _ _ 39 rfl w.heap.size 3 i0 (.int .i64 0) 1 8 Tryd.underlying39 hif hz0 hz1 hz2 rfl (by decide) _ _ _ rfl own6 ⟨w15.heap.size, 0, none⟩ 1 1 [.int .i64 S1] rfl rfl (oneI_cells w15 S1) (ints_one [S1]) (by unfold maxLen; omega) (by omega) hs6 ?_)
          intro v7 w7 own7 grow7 _
          have HB7 : Hid (Bld w7 lo hi b 99 (ins, G ++ [(5, x, y)] ++ [(5, S0, C)] ++ [(3, x, y)] ++ [(3, S0, C)] ++ [(4, S2, S3)], os)) := hB6.out.sum own6 hhi (by decide) grow7
          have HBl7 : Hid (Fr lo w w7) := hb6.out.grown grow7 hlo (fun kk hk => (own_block own6 hk).1)
          have HS7 : Hid (w7.ownsRow w.heap.size 3 1 v7 (j + 1) (cellsI (SL ++ [S1]))) := by
            show w7.ownsRow w.heap.size 3 1 v7 (j + 1) (cellsI (SL ++ [S1]))
            unfold cellsI
            rw [List.map_append]
            exact own7
          obtain ⟨va7, vc7, hv7⟩ := own_shape own7
          subst hv7
          clear own6 hb6 hB6 own7 grow7 HBw15 HBlw15 HSw15
          have HBF : Hid (Bld _ lo hi b 99 (ins, gs ++ (addG (a.take (j + 1)) (bb.take (j + 1)) carry N).1, os)) := (by have h1 := HB7.out; rw [← HNEW.out] at h1; exact h1)
          have HSF : Hid (World.ownsRow _ w.heap.size 3 1 (.slice va7 (j + 1) vc7) (addG (a.take (j + 1)) (bb.take (j + 1)) carry N).2.length (cellsI (addG (a.take (j + 1)) (bb.take (j + 1)) carry N).2)) := (by have h1 := HS7.out; rw [← HNS.out] at h1; rw [show (addG (a.take (j + 1)) (bb.take (j + 1)) carry N).2.length = j + 1 from by rw [HNS.out, List.length_append, hsl]; rfl]; exact h1)
          clear HNEW HNS HAC HBC HB7 HS7
          go_wp2_with fail
          go_roundw
          case rel => exact ⟨j + 1, by omega, by go_num, by rw [HON.out], HSF, HBF, HBl7⟩
          case measure => simp [intOf]; omega
    · obtain rfl : j = an := by omega
      have ha1 : a.take j = a := List.take_of_length_le (by have := HAL.out; omega)
      have hb1 : bb.take j = bb := List.take_of_length_le (by have := HBL.out; omega)
      rw [ha1, hb1] at HB HSU
      clear HA HBB ha1 hb1
      go_wp2_with fail
      go_ret
      exact ⟨_, rfl, HSU.out, HB.out, HBl.out⟩
end Go.Proofs.YtpjllhlbdcanlaaDoor

namespace Go.Proofs.YtpjllhlbdcanlaaDoor.M
open Go

/-- a term as a tree -/
inductive Tr where
  | leaf (x : Nd)
  | one (x : Nd) (a : Tr)
  | two (x : Nd) (a b : Tr)
def Tr.nd : Tr → Nd
  | .leaf x => x
  | .one x _ => x
  | .two x _ _ => x
def Tr.parts : Tr → List Tr
  | .leaf _ => []
  | .one _ a => [a]
  | .two _ a b => [a, b]
def Tr.size : Tr → Nat
  | .leaf _ => 1
  | .one _ a => 1 + a.size
  | .two _ a b => 1 + a.size + b.size
def Tr.flat : Tr → List Nd
  | .leaf x => [x]
  | .one x a => a.flat ++ [x]
  | .two x a b => a.flat ++ b.flat ++ [x]
def Tr.kind (t : Tr) : Int := ownOf t.nd.1
/-- each node has the parts that its op wants -/
def Tr.Ok (wide vars : Int) : Tr → Prop
  | .leaf x => ¬ ownOf x.1 = 0 ∧ okN wide vars x.1 x.2 = true ∧ manyOf x.1 = 0
  | .one x a => ¬ ownOf x.1 = 0 ∧ okN wide vars x.1 x.2 = true ∧ manyOf x.1 = 1 ∧ a.kind = partOf x.1 ∧ a.Ok wide vars
  | .two x a b => ¬ ownOf x.1 = 0 ∧ okN wide vars x.1 x.2 = true ∧ manyOf x.1 = 2 ∧ a.kind = partOf x.1 ∧ b.kind = partOf x.1 ∧ a.Ok wide vars ∧ b.Ok wide vars
theorem Tr.flat_len : ∀ t : Tr, t.flat.length = t.size
  | .leaf _ => rfl
  | .one _ a => by
    have := a.flat_len
    simp only [Tr.flat, Tr.size, List.length_append, List.length_singleton]
    omega
  | .two _ a b => by
    have := a.flat_len
    have := b.flat_len
    simp only [Tr.flat, Tr.size, List.length_append, List.length_singleton]
    omega
theorem Tr.size_pos : ∀ t : Tr, 1 ≤ t.size
  | .leaf _ => Nat.le_refl _
  | .one _ a => by simp only [Tr.size]; omega
  | .two _ a b => by simp only [Tr.size]; omega
theorem Tr.ind {P : Tr → Prop} (h : ∀ t, (∀ q ∈ t.parts, P q) → P t) : ∀ t, P t
  | .leaf x => h _ (fun q hq => by cases hq)
  | .one x a => h _ (fun q hq => by
    have ha := Tr.ind h a
    simp only [Tr.parts, List.mem_singleton] at hq
    subst hq
    exact ha)
  | .two x a b => h _ (fun q hq => by
    have ha := Tr.ind h a
    have hb := Tr.ind h b
    simp only [Tr.parts, List.mem_cons, List.not_mem_nil, or_false] at hq
    rcases hq with rfl | rfl
    · exact ha
    · exact hb)
def sizes : List Tr → Nat
  | [] => 0
  | a :: l => a.size + sizes l
theorem sizes_append : ∀ l m : List Tr, sizes (l ++ m) = sizes l + sizes m
  | [], m => by simp [sizes]
  | a :: l, m => by
    have := sizes_append l m
    simp only [List.cons_append, sizes]
    omega
theorem Tr.size_eq (t : Tr) : t.size = 1 + sizes t.parts := by
  cases t <;> simp only [Tr.size, Tr.parts, sizes] <;> omega
theorem Tr.flat_eq (t : Tr) : t.flat = t.parts.flatMap Tr.flat ++ [t.nd] := by
  cases t <;> simp [Tr.flat, Tr.parts, Tr.nd]
theorem Tr.ok_nd {wide vars : Int} {t : Tr} (h : t.Ok wide vars) : ¬ ownOf t.nd.1 = 0 ∧ okN wide vars t.nd.1 t.nd.2 = true ∧ manyOf t.nd.1 = t.parts.length := by
  cases t with
  | leaf x => exact ⟨h.1, h.2.1, h.2.2⟩
  | one x a => exact ⟨h.1, h.2.1, h.2.2.1⟩
  | two x a b => exact ⟨h.1, h.2.1, h.2.2.1⟩
theorem Tr.ok_parts {wide vars : Int} {t : Tr} (h : t.Ok wide vars) : ∀ q ∈ t.parts, q.kind = partOf t.nd.1 ∧ q.Ok wide vars := by
  cases t with
  | leaf x => intro q hq; cases hq
  | one x a =>
    intro q hq
    simp only [Tr.parts, List.mem_singleton] at hq
    subst hq
    exact ⟨h.2.2.2.1, h.2.2.2.2⟩
  | two x a b =>
    intro q hq
    simp only [Tr.parts, List.mem_cons, List.not_mem_nil, or_false] at hq
    rcases hq with rfl | rfl
    · exact ⟨h.2.2.2.1, h.2.2.2.2.2.1⟩
    · exact ⟨h.2.2.2.2.1, h.2.2.2.2.2.2⟩
/-- a tree over parts -/
def Tr.over (x : Nd) : List Tr → Tr
  | [a] => .one x a
  | [a, b] => .two x a b
  | _ => .leaf x
theorem Tr.over_parts (x : Nd) (l : List Tr) (h : l.length ≤ 2) : (Tr.over x l).parts = l ∧ (Tr.over x l).nd = x := by
  match l, h with
  | [], _ => exact ⟨rfl, rfl⟩
  | [a], _ => exact ⟨rfl, rfl⟩
  | [a, b], _ => exact ⟨rfl, rfl⟩
  | _ :: _ :: _ :: _, h => simp at h
theorem Tr.over_ok {wide vars : Int} {x : Nd} {l : List Tr} (h1 : ¬ ownOf x.1 = 0) (h2 : okN wide vars x.1 x.2 = true) (h3 : manyOf x.1 = l.length) (h4 : ∀ q ∈ l, q.kind = partOf x.1 ∧ q.Ok wide vars) : (Tr.over x l).Ok wide vars := by
  have := manyOf_le x.1
  match l, h3, h4 with
  | [], h3, h4 => exact ⟨h1, h2, h3⟩
  | [a], h3, h4 => exact ⟨h1, h2, h3, (h4 a (by simp)).1, (h4 a (by simp)).2⟩
  | [a, b], h3, h4 => exact ⟨h1, h2, h3, (h4 a (by simp)).1, (h4 b (by simp)).1, (h4 a (by simp)).2, (h4 b (by simp)).2⟩
  | _ :: _ :: _ :: _, h3, _ => simp at h3; omega
theorem Tr.over_self (t : Tr) : Tr.over t.nd t.parts = t := by
  cases t <;> rfl
/-- a tree's nodes lay its kind on the pile -/
theorem Tr.fold_flat {wide vars : Int} : ∀ (t : Tr) (p : List Int), t.Ok wide vars → foldK wide vars t.flat p = some (p ++ [t.kind])
  | .leaf x, p, h => by
    obtain ⟨h1, h2, h3⟩ := h
    simp only [Tr.flat, foldK, stepK]
    rw [if_neg (by rw [h2, h3]; simp [h1]), h3]
    rfl
  | .one x a, p, h => by
    obtain ⟨h1, h2, h3, h4, h5⟩ := h
    have ia := Tr.fold_flat a p h5
    rw [Tr.flat, foldK_append, ia]
    simp only [Option.bind_some, foldK, stepK]
    rw [if_neg (by rw [h2, h3]; simp [h1]), h3]
    rw [show (Tr.one x a).kind = ownOf x.1 from rfl]
    simp [popN, h4]
  | .two x a b, p, h => by
    obtain ⟨h1, h2, h3, h4, h4', h5, h6⟩ := h
    have ia := Tr.fold_flat a p h5
    have ib := Tr.fold_flat b (p ++ [a.kind]) h6
    rw [Tr.flat, foldK_append, foldK_append, ia]
    simp only [Option.bind_some]
    rw [ib]
    simp only [Option.bind_some, foldK, stepK]
    rw [if_neg (by rw [h2, h3]; simp [h1]), h3]
    rw [show (Tr.two x a b).kind = ownOf x.1 from rfl]
    simp [popN, h4, h4']
theorem Tr.kind_pos {wide vars : Int} {t : Tr} (h : t.Ok wide vars) : t.kind = 1 ∨ t.kind = 2 := by
  have h1 := (Tr.ok_nd h).1
  have := ownOf_range t.nd.1
  unfold Tr.kind
  omega
theorem Tr.kindL_eq {wide vars : Int} {t : Tr} (h : t.Ok wide vars) (hw : wideB wide = true) (h1 : 1 ≤ vars) (h4 : vars ≤ 4) (hs : t.size ≤ 48) : kindL wide vars t.flat = t.kind := by
  have hl := t.flat_len
  have hp := t.size_pos
  unfold kindL
  rw [if_pos ⟨hw, h1, h4, by omega, by omega⟩, Tr.fold_flat t [] h]
  rfl
theorem Tr.kindL_long {wide vars : Int} {t : Tr} (hs : 48 < t.size) : kindL wide vars t.flat = 0 := by
  have hl := t.flat_len
  unfold kindL
  rw [if_neg (by intro h; omega)]
/-- what is read off entries -/
def Ent.map {α β : Type} (h : α → β) (e : Ent α) : Ent β := ⟨e.at0, e.kind, h e.val⟩
section
variable {α β : Type} {wide vars : Int} {f0 : Nd → α} {f1 : Nd → α → α} {f2 : Nd → α → α → α} {g0 : Nd → β} {g1 : Nd → β → β} {g2 : Nd → β → β → β}
theorem stepE_map (h : α → β) (h0 : ∀ x, h (f0 x) = g0 x) (h1 : ∀ x a, h (f1 x a) = g1 x (h a)) (h2 : ∀ x a b, h (f2 x a b) = g2 x (h a) (h b)) (i : Nat) (p : List (Ent α)) (x : Nd) :
    stepE wide vars g0 g1 g2 i (p.map (Ent.map h)) x = (stepE wide vars f0 f1 f2 i p x).map (List.map (Ent.map h)) := by
  unfold stepE
  split
  · rfl
  split
  · simp [Ent.map, h0]
  split
  · match p with
    | [] => rfl
    | d :: r =>
      simp only [List.map_cons]
      show (if d.kind = _ then _ else _) = _
      split
      · simp [Ent.map, h1]
      · rfl
  · match p with
    | [] => rfl
    | [_] => rfl
    | d :: c :: r =>
      simp only [List.map_cons]
      show (if d.kind = _ ∧ c.kind = _ then _ else _) = _
      split
      · simp [Ent.map, h2]
      · rfl
theorem pileE_map (h : α → β) (h0 : ∀ x, h (f0 x) = g0 x) (h1 : ∀ x a, h (f1 x a) = g1 x (h a)) (h2 : ∀ x a b, h (f2 x a b) = g2 x (h a) (h b)) (t : List Nd) :
    ∀ j, pileE wide vars g0 g1 g2 t j = (pileE wide vars f0 f1 f2 t j).map (List.map (Ent.map h))
  | 0 => rfl
  | j + 1 => by
    simp only [pileE]
    rw [pileE_map h h0 h1 h2 t j]
    cases pileE wide vars f0 f1 f2 t j with
    | none => rfl
    | some p =>
      simp only [Option.map_some, Option.bind_some]
      cases t[j]? with
      | none => rfl
      | some x =>
        simp only [Option.bind_some]
        exact stepE_map h h0 h1 h2 j p x
end
/-- the pile of trees -/
abbrev pileT (wide vars : Int) (t : List Nd) (j : Nat) : Option (List (Ent Tr)) := pileE wide vars Tr.leaf Tr.one Tr.two t j
abbrev EntOk (wide vars : Int) (e : Ent Tr) : Prop := e.val.Ok wide vars ∧ e.kind = e.val.kind
theorem pileT_ok {wide vars : Int} {t : List Nd} : ∀ (j : Nat) (p : List (Ent Tr)), pileT wide vars t j = some p → (∀ e ∈ p, EntOk wide vars e) ∧ (p.reverse.flatMap fun e => e.val.flat) = t.take j
  | 0, p, h => by
    simp only [pileE, Option.some.injEq] at h
    subst h
    exact ⟨fun e he => (by cases he), rfl⟩
  | j + 1, q, h => by
    obtain ⟨p, x, hp, hx, hs⟩ := pileE_step h
    obtain ⟨i1, i2⟩ := pileT_ok j p hp
    have e : t.take (j + 1) = t.take j ++ [x] := by
      rw [List.take_add_one, hx]
      rfl
    rw [e, ← i2]
    obtain ⟨n1, n2, ⟨m0, rfl⟩ | ⟨m1, d, r, rfl, hd, rfl⟩ | ⟨m2, d, c, r, rfl, hd, hc, rfl⟩⟩ := stepE_inv hs
    · refine ⟨?_, by simp [Tr.flat]⟩
      intro e he
      rcases List.mem_cons.1 he with rfl | he
      · exact ⟨⟨n1, n2, m0⟩, rfl⟩
      · exact i1 e he
    · have id := i1 d (by simp)
      refine ⟨?_, by simp [Tr.flat]⟩
      intro e he
      rcases List.mem_cons.1 he with rfl | he
      · exact ⟨⟨n1, n2, m1, by rw [← id.2, hd], id.1⟩, rfl⟩
      · exact i1 e (by simp [he])
    · have id := i1 d (by simp)
      have ic := i1 c (by simp)
      refine ⟨?_, by simp [Tr.flat]⟩
      intro e he
      rcases List.mem_cons.1 he with rfl | he
      · exact ⟨⟨n1, n2, m2, by rw [← ic.2, hc], by rw [← id.2, hd], ic.1, id.1⟩, rfl⟩
      · exact i1 e (by simp [he])
/-- the pile stands just where the plain one does -/
theorem foldK_of_pileT {wide vars : Int} {t : List Nd} {j : Nat} {p : List (Ent Tr)} (h : pileT wide vars t j = some p) : foldK wide vars (t.take j) [] = some (p.map Ent.kind).reverse := by
  obtain ⟨h1, h2⟩ := pileT_ok j p h
  rw [← h2]
  have aux : ∀ (l : List (Ent Tr)) (q : List Int), (∀ e ∈ l, EntOk wide vars e) → foldK wide vars (l.flatMap fun e => e.val.flat) q = some (q ++ l.map Ent.kind) := by
    intro l
    induction l with
    | nil => intro q _; simp [foldK]
    | cons e l ih =>
      intro q hq
      have he := hq e (by simp)
      rw [List.flatMap_cons, foldK_append, Tr.fold_flat e.val q he.1]
      simp only [Option.bind_some]
      rw [ih _ (fun e he => hq e (by simp [he])), ← he.2]
      simp
  rw [aux p.reverse [] (fun e he => h1 e (by simpa using he))]
  simp
/-- the tree of a good term -/
theorem root_tree {wide vars : Int} {t : List Nd} (h : 0 < kindL wide vars t) : wideB wide = true ∧ 1 ≤ vars ∧ vars ≤ 4 ∧ 1 ≤ t.length ∧ t.length ≤ 48 ∧ ∃ r : Tr, pileT wide vars t t.length = some [⟨0, r.kind, r⟩] ∧ r.Ok wide vars ∧ r.flat = t ∧ r.kind = kindL wide vars t := by
  obtain ⟨g1, g2, g3, g4, g5, e, ⟨r, hr⟩, hk⟩ := tree_root (f0 := Tr.leaf) (f1 := Tr.one) (f2 := Tr.two) h
  refine ⟨g1, g2, g3, g4, g5, e.val, ?_⟩
  rw [show t.length - 1 + 1 = t.length from by omega] at hr
  have hf := foldK_of_pileT hr
  rw [List.take_length] at hf
  have hr0 : r = [] := by
    unfold kindL at h
    rw [if_pos ⟨g1, g2, g3, g4, g5⟩, hf] at h
    cases r with
    | nil => rfl
    | cons d r =>
      exfalso
      generalize hq : (List.map Ent.kind (e :: d :: r)).reverse = q at h
      have hl := congrArg List.length hq
      simp at hl
      match q, hl, h with
      | [], hl, h => simp at h
      | [_], hl, h => simp at hl
      | _ :: _ :: _, hl, h => simp at h
  subst hr0
  obtain ⟨k1, k2⟩ := pileT_ok t.length [e] hr
  obtain ⟨k3, k4⟩ := k1 e (by simp)
  have hb := pile_below (t.length - 1) (t.length - 1) (Nat.le_refl _) e [] (by rw [show t.length - 1 + 1 = t.length from by omega]; exact hr)
  have h0 : e.at0 = 0 := by
    have h2 := (pileT_ok _ _ hb.2).2
    simp at h2
    rcases h2 with h2 | h2
    · exact h2
    · rw [h2] at g4
      simp at g4
  refine ⟨?_, k3, by simpa using k2, by rw [← k4, hk]⟩
  show pileE wide vars Tr.leaf Tr.one Tr.two t t.length = _
  rw [hr, ← k4, ← h0]
end Go.Proofs.YtpjllhlbdcanlaaDoor.M

namespace Go.Proofs.YtpjllhlbdcanlaaDoor
open Go
open M
set_option linter.unusedVariables false
set_option linter.unusedSimpArgs false

/-- bit j of a number -/
def bitI (n : Int) (j : Nat) : Int := n / pw j % 2
theorem bitI_range (n : Int) (j : Nat) : 0 ≤ bitI n j ∧ bitI n j ≤ 1 := by
  unfold bitI
  omega
def bitsG (n : Int) (k : Nat) : List Gt := (List.range k).map fun (j : Nat) => (1, bitI n j, 0)
def wiresF (s : Int) (k : Nat) : List Int := (List.range k).map fun (j : Nat) => s + (j : Int)
def notsG (a : List Int) : List Gt := a.map fun x => (2, x, 0)
def pairG (kind : Int) (a b : List Int) : List Gt := List.zipWith (fun x y => (kind, x, y)) a b
theorem bitsG_len (n : Int) (k : Nat) : (bitsG n k).length = k := by simp [bitsG]
theorem wiresF_len (s : Int) (k : Nat) : (wiresF s k).length = k := by simp [wiresF]
theorem notsG_len (a : List Int) : (notsG a).length = a.length := by simp [notsG]
theorem pairG_len (kind : Int) (a b : List Int) (h : a.length = b.length) : (pairG kind a b).length = a.length := by simp [pairG, h]
theorem bitsG_snoc (n : Int) (k : Nat) : bitsG n (k + 1) = bitsG n k ++ [(1, bitI n k, 0)] := by simp [bitsG, List.range_succ]
theorem wiresF_snoc (s : Int) (k : Nat) : wiresF s (k + 1) = wiresF s k ++ [s + (k : Int)] := by simp [wiresF, List.range_succ]
theorem notsG_snoc (a : List Int) (x : Int) : notsG (a ++ [x]) = notsG a ++ [(2, x, 0)] := by simp [notsG]
theorem pairG_snoc (kind : Int) (a b : List Int) (x y : Int) (h : a.length = b.length) : pairG kind (a ++ [x]) (b ++ [y]) = pairG kind a b ++ [(kind, x, y)] := by
  unfold pairG
  rw [List.zipWith_append h]
  rfl
theorem wiresF_mem {s : Int} {k : Nat} {x : Int} (h : x ∈ wiresF s k) : s ≤ x ∧ x < s + k := by
  simp only [wiresF, List.mem_map, List.mem_range] at h
  obtain ⟨j, hj, rfl⟩ := h
  omega
/-- the gates of one row of a product: place k of the second number -/
def mulRow (x : List Int) (y : Int) (k : Nat) : List Gt := List.replicate k (1, 0, 0) ++ (x.take (x.length - k)).map fun w => (3, w, y)
theorem mulRow_len (x : List Int) (y : Int) (k : Nat) (h : k ≤ x.length) : (mulRow x y k).length = x.length := by
  simp [mulRow]
  omega
/-- the rows of a product from place k on: the sum so far, the number of wires so far -/
def mulF (x : List Int) : List Int → Nat → List Int → Int → List Gt × List Int
  | [], _, sum, _ => ([], sum)
  | y :: ys, k, sum, S =>
    (mulRow x y k ++ [(1, 0, 0)] ++ (addG sum (wiresF S x.length) (S + x.length) (S + x.length + 1)).1 ++ (mulF x ys (k + 1) (addG sum (wiresF S x.length) (S + x.length) (S + x.length + 1)).2 (S + 6 * x.length + 1)).1,
      (mulF x ys (k + 1) (addG sum (wiresF S x.length) (S + x.length) (S + x.length + 1)).2 (S + 6 * x.length + 1)).2)
def mulG (x y : List Int) (S : Int) : List Gt × List Int := (bitsG 0 x.length ++ (mulF x y 0 (wiresF S x.length) (S + x.length)).1, (mulF x y 0 (wiresF S x.length) (S + x.length)).2)
theorem mulF_len (x : List Int) : ∀ (ys : List Int) (k : Nat) (sum : List Int) (S : Int), k + ys.length ≤ x.length → sum.length = x.length → (mulF x ys k sum S).1.length = (6 * x.length + 1) * ys.length ∧ (mulF x ys k sum S).2.length = x.length
  | [], _, sum, _, _, hs => by simp [mulF, hs]
  | y :: ys, k, sum, S, h, hs => by
    have hl := addG_len sum (wiresF S x.length) (S + x.length) (S + x.length + 1) (by rw [wiresF_len, hs])
    simp only [List.length_cons] at h
    have ih := mulF_len x ys (k + 1) (addG sum (wiresF S x.length) (S + x.length) (S + x.length + 1)).2 (S + 6 * x.length + 1) (by omega) (by omega)
    simp only [mulF, List.length_append, List.length_cons, List.length_nil, mulRow_len x y k (by omega), hl.1, ih.1, ih.2, hs, and_true]
    rw [Nat.mul_add]
    omega
/-- a number's wires with its uppermost one turned -/
def topW (a : List Int) (s : Int) : List Int := a.take (a.length - 1) ++ [s]
/-- what a node lays behind S wires, and its wires; a, b: the wires of its parts -/
def layN (wide : Nat) (op n : Int) (a b : List Int) (S : Int) : List Gt × List Int :=
  if op = 2 then ([], wiresF (n * wide) wide)
  else if op = 1 then (bitsG n wide, wiresF S wide)
  else if op = 20 then (bitsG n 1, wiresF S 1)
  else if op = 13 ∨ op = 19 then (notsG a, wiresF S a.length)
  else if op = 8 ∨ op = 17 then (pairG 3 a b, wiresF S a.length)
  else if op = 9 ∨ op = 18 then (pairG 4 a b, wiresF S a.length)
  else if op = 10 then (pairG 5 a b, wiresF S a.length)
  else if op = 3 then ([(1, 0, 0)] ++ (addG a b S (S + 1)).1, (addG a b S (S + 1)).2)
  else if op = 4 then (notsG b ++ [(1, 1, 0)] ++ (addG a (wiresF S b.length) (S + b.length) (S + b.length + 1)).1, (addG a (wiresF S b.length) (S + b.length) (S + b.length + 1)).2)
  else if op = 5 then mulG a b S
  else if op = 14 then ([(1, 1, 0)] ++ (eqG a b S (S + 1)).1, [onW S (S + 1) 3 2 a.length])
  else if op = 15 then ([(1, 0, 0)] ++ (lessG a b S (S + 1)).1, [onW S (S + 1) 6 5 a.length])
  else if op = 16 then ([(2, a.getD (a.length - 1) 0, 0), (2, b.getD (b.length - 1) 0, 0)] ++ [(1, 0, 0)] ++ (lessG (topW a S) (topW b (S + 1)) (S + 2) (S + 3)).1, [onW (S + 2) (S + 3) 6 5 a.length])
  else ([], [])
/-- how many wires a kind has -/
def lenK (wide : Nat) (k : Int) : Nat := if k = 1 then wide else 1
/-- what a tree lays behind S wires -/
def layT (wide : Nat) : Tr → Int → List Gt × List Int
  | .leaf x, S => layN wide x.1 x.2 [] [] S
  | .one x a, S => ((layT wide a S).1 ++ (layN wide x.1 x.2 (layT wide a S).2 [] (S + (layT wide a S).1.length)).1, (layN wide x.1 x.2 (layT wide a S).2 [] (S + (layT wide a S).1.length)).2)
  | .two x a b, S => ((layT wide a S).1 ++ (layT wide b (S + (layT wide a S).1.length)).1 ++ (layN wide x.1 x.2 (layT wide a S).2 (layT wide b (S + (layT wide a S).1.length)).2 (S + (layT wide a S).1.length + (layT wide b (S + (layT wide a S).1.length)).1.length)).1,
      (layN wide x.1 x.2 (layT wide a S).2 (layT wide b (S + (layT wide a S).1.length)).2 (S + (layT wide a S).1.length + (layT wide b (S + (layT wide a S).1.length)).1.length)).2)
/-- the parts that a node finds on the pile (its top is its end) -/
def firstP (op : Int) (p : List (List Int)) : List Int := p.getD (p.length - manyOf op) []
def secondP (op : Int) (p : List (List Int)) : List Int := if manyOf op = 2 then p.getD (p.length - 1) [] else []
def layP (wide : Nat) : List Nd → List (List Int) → Int → List Gt × List (List Int)
  | [], p, _ => ([], p)
  | x :: t, p, S =>
    ((layN wide x.1 x.2 (firstP x.1 p) (secondP x.1 p) S).1 ++ (layP wide t (p.take (p.length - manyOf x.1) ++ [(layN wide x.1 x.2 (firstP x.1 p) (secondP x.1 p) S).2]) (S + (layN wide x.1 x.2 (firstP x.1 p) (secondP x.1 p) S).1.length)).1,
      (layP wide t (p.take (p.length - manyOf x.1) ++ [(layN wide x.1 x.2 (firstP x.1 p) (secondP x.1 p) S).2]) (S + (layN wide x.1 x.2 (firstP x.1 p) (secondP x.1 p) S).1.length)).2)
theorem layP_append (wide : Nat) : ∀ (s t : List Nd) (p : List (List Int)) (S : Int), layP wide (s ++ t) p S = ((layP wide s p S).1 ++ (layP wide t (layP wide s p S).2 (S + (layP wide s p S).1.length)).1, (layP wide t (layP wide s p S).2 (S + (layP wide s p S).1.length)).2)
  | [], t, p, S => by simp [layP]
  | x :: s, t, p, S => by
    simp only [List.cons_append, layP]
    rw [layP_append wide s t]
    simp only [List.append_assoc, List.length_append]
    have e : ∀ (A : Int) (m n : Nat), A + (m : Int) + (n : Int) = A + ((m + n : Nat) : Int) := fun A m n => by omega
    rw [e]
theorem firstP_zero {op : Int} (h : manyOf op = 0) (p : List (List Int)) : firstP op p = [] := by
  unfold firstP
  rw [h]
  simp
theorem firstP_one {op : Int} (h : manyOf op = 1) (p : List (List Int)) (a : List Int) : firstP op (p ++ [a]) = a := by
  unfold firstP
  rw [h]
  simp
theorem firstP_two {op : Int} (h : manyOf op = 2) (p : List (List Int)) (a b : List Int) : firstP op (p ++ [a] ++ [b]) = a := by
  unfold firstP
  rw [h]
  simp
theorem secondP_two {op : Int} (h : manyOf op = 2) (p : List (List Int)) (b : List Int) : secondP op (p ++ [b]) = b := by
  unfold secondP
  rw [h]
  simp
/-- the pile lays a tree's nodes as the tree does -/
theorem layP_flat (wide : Nat) {k vars : Int} : ∀ (r : Tr), r.Ok k vars → ∀ (t : List Nd) (p : List (List Int)) (S : Int),
    layP wide (r.flat ++ t) p S = ((layT wide r S).1 ++ (layP wide t (p ++ [(layT wide r S).2]) (S + (layT wide r S).1.length)).1, (layP wide t (p ++ [(layT wide r S).2]) (S + (layT wide r S).1.length)).2)
  | .leaf x, hok, t, p, S => by
    obtain ⟨_, _, hm⟩ := hok
    simp only [Tr.flat, List.singleton_append, layP, layT]
    rw [firstP_zero hm, show secondP x.1 p = [] from by unfold secondP; rw [hm]; simp, hm]
    simp
  | .one x a, hok, t, p, S => by
    obtain ⟨_, _, hm, _, ha⟩ := hok
    have ih := layP_flat wide a ha ([x] ++ t) p S
    simp only [Tr.flat, List.append_assoc]
    rw [ih]
    simp only [List.singleton_append, layP, layT]
    rw [firstP_one hm, show secondP x.1 (p ++ [(layT wide a S).2]) = [] from by unfold secondP; rw [hm]; simp, hm]
    have e1 : (p ++ [(layT wide a S).2]).take ((p ++ [(layT wide a S).2]).length - 1) = p := by simp
    rw [e1]
    simp only [List.append_assoc, List.length_append]
    have e : ∀ (A : Int) (m n : Nat), A + (m : Int) + (n : Int) = A + ((m + n : Nat) : Int) := fun A m n => by omega
    rw [e]
  | .two x a b, hok, t, p, S => by
    obtain ⟨_, _, hm, _, _, ha, hb⟩ := hok
    have ih := layP_flat wide a ha (b.flat ++ ([x] ++ t)) p S
    have ih2 := layP_flat wide b hb ([x] ++ t) (p ++ [(layT wide a S).2]) (S + (layT wide a S).1.length)
    simp only [Tr.flat, List.append_assoc]
    rw [ih, ih2]
    simp only [List.singleton_append, layP, layT]
    rw [firstP_two hm, secondP_two hm, hm]
    have e1 : (p ++ [(layT wide a S).2] ++ [(layT wide b (S + ((layT wide a S).1.length : Int))).2]).take ((p ++ [(layT wide a S).2] ++ [(layT wide b (S + ((layT wide a S).1.length : Int))).2]).length - 2) = p := by simp
    rw [e1]
    simp only [List.append_assoc, List.length_append]
    have e : ∀ (A : Int) (m n o : Nat), A + (m : Int) + (n : Int) + (o : Int) = A + ((m + (n + o) : Nat) : Int) := fun A m n o => by omega
    rw [e]
/-- how many gates and wires a node has -/
theorem layN_len (wide : Nat) (hw : wide ≤ 4) (op n : Int) (a b : List Int) (S : Int) (ho : ¬ ownOf op = 0) (hpl : op ≠ 6 ∧ op ≠ 7 ∧ op ≠ 11 ∧ op ≠ 12)
    (ha : 1 ≤ manyOf op → a.length = lenK wide (partOf op)) (hb : manyOf op = 2 → b.length = lenK wide (partOf op)) :
    (layN wide op n a b S).1.length ≤ 110 ∧ (layN wide op n a b S).2.length = lenK wide (ownOf op) := by
  have hr : 1 ≤ op ∧ op ≤ 20 := by
    unfold ownOf at ho
    split at ho
    · omega
    · split at ho <;> omega
  have hm : op = 1 ∨ op = 2 ∨ op = 3 ∨ op = 4 ∨ op = 5 ∨ op = 8 ∨ op = 9 ∨ op = 10 ∨ op = 13 ∨ op = 14 ∨ op = 15 ∨ op = 16 ∨ op = 17 ∨ op = 18 ∨ op = 19 ∨ op = 20 := by omega
  rcases hm with rfl | rfl | rfl | rfl | rfl | rfl | rfl | rfl | rfl | rfl | rfl | rfl | rfl | rfl | rfl | rfl
  all_goals
    clear ho hpl hr
    simp (config := {decide := true}) only [manyOf, partOf, lenK, ownOf, if_true, if_false, forall_const, layN] at ha hb ⊢
  · simp only [bitsG_len, wiresF_len]; first | omega | exact ⟨by omega, trivial⟩
  · simp [wiresF_len]
  · have h := addG_len a b S (S + 1) (by omega)
    simp only [List.length_append, List.length_cons, List.length_nil, h.1, h.2]; first | omega | exact ⟨by omega, trivial⟩
  · have h := addG_len a (wiresF S b.length) (S + b.length) (S + b.length + 1) (by rw [wiresF_len]; omega)
    simp only [List.length_append, List.length_cons, List.length_nil, h.1, h.2, notsG_len]; first | omega | exact ⟨by omega, trivial⟩
  · have h := mulF_len a b 0 (wiresF S a.length) (S + a.length) (by omega) (wiresF_len _ _)
    simp only [mulG, List.length_append, bitsG_len, h.1, h.2]
    refine ⟨?_, ha⟩
    rw [ha, hb]
    have : wide = 0 ∨ wide = 1 ∨ wide = 2 ∨ wide = 3 ∨ wide = 4 := by omega
    rcases this with rfl | rfl | rfl | rfl | rfl <;> decide
  · rw [pairG_len _ _ _ (by omega), wiresF_len]; first | omega | exact ⟨by omega, trivial⟩
  · rw [pairG_len _ _ _ (by omega), wiresF_len]; first | omega | exact ⟨by omega, trivial⟩
  · rw [pairG_len _ _ _ (by omega), wiresF_len]; first | omega | exact ⟨by omega, trivial⟩
  · rw [notsG_len, wiresF_len]; first | omega | exact ⟨by omega, trivial⟩
  · have h := eqG_len a b S (S + 1) (by omega)
    simp only [List.length_append, List.length_cons, List.length_nil, h]; first | omega | exact ⟨by omega, trivial⟩
  · have h := lessG_len a b S (S + 1) (by omega)
    simp only [List.length_append, List.length_cons, List.length_nil, h]; first | omega | exact ⟨by omega, trivial⟩
  · have hl : (topW a S).length = (topW b (S + 1)).length := by simp [topW]; first | omega | exact ⟨by omega, trivial⟩
    have hl2 : (topW a S).length ≤ 5 := by simp [topW]; first | omega | exact ⟨by omega, trivial⟩
    have h := lessG_len (topW a S) (topW b (S + 1)) (S + 2) (S + 3) hl
    simp only [List.length_append, List.length_cons, List.length_nil, h]; first | omega | exact ⟨by omega, trivial⟩
  · rw [pairG_len _ _ _ (by omega), wiresF_len]; first | omega | exact ⟨by omega, trivial⟩
  · rw [pairG_len _ _ _ (by omega), wiresF_len]; first | omega | exact ⟨by omega, trivial⟩
  · rw [notsG_len, wiresF_len]; first | omega | exact ⟨by omega, trivial⟩
  · simp only [bitsG_len, wiresF_len]; first | omega | exact ⟨by omega, trivial⟩
end Go.Proofs.YtpjllhlbdcanlaaDoor

namespace Go.Proofs.YtpjllhlbdcanlaaDoor
open Go
open M
set_option linter.unusedVariables false
set_option linter.unusedSimpArgs false

/-- no node divides or shifts -/
def plainN (x : Nd) : Prop := x.1 ≠ 6 ∧ x.1 ≠ 7 ∧ x.1 ≠ 11 ∧ x.1 ≠ 12
theorem stepK_cases {wide vars : Int} {ks ks' : List Int} {x : Nd} (h : stepK wide vars ks x = some ks') : ¬ ownOf x.1 = 0 ∧ okN wide vars x.1 x.2 = true ∧
    ((manyOf x.1 = 0 ∧ ks' = ks ++ [ownOf x.1]) ∨ (manyOf x.1 = 1 ∧ ∃ q, ks = q ++ [partOf x.1] ∧ ks' = q ++ [ownOf x.1]) ∨ (manyOf x.1 = 2 ∧ ∃ q, ks = q ++ [partOf x.1] ++ [partOf x.1] ∧ ks' = q ++ [ownOf x.1])) := by
  unfold stepK at h
  split at h
  · cases h
  rename_i hn
  have h1 : ¬ ownOf x.1 = 0 := fun e => hn (Or.inl e)
  have h2 : okN wide vars x.1 x.2 = true := by
    cases e : okN wide vars x.1 x.2
    · exact absurd (Or.inr (Or.inl e)) hn
    · rfl
  refine ⟨h1, h2, ?_⟩
  have hm : manyOf x.1 = 0 ∨ manyOf x.1 = 1 ∨ manyOf x.1 = 2 := by
    unfold manyOf
    split
    · omega
    · split <;> omega
  rcases hm with hm | hm | hm
  · left
    rw [hm] at h
    simp [popN] at h
    exact ⟨hm, h.symm⟩
  · right; left
    refine ⟨hm, ?_⟩
    rw [hm] at h
    simp only [popN] at h
    split at h
    · rename_i hl
      simp only [Option.map_some, Option.some.injEq] at h
      obtain ⟨q, hq⟩ := List.getLast?_eq_some_iff.1 hl
      refine ⟨q, hq, ?_⟩
      rw [← h, hq]
      simp
    · cases h
  · right; right
    refine ⟨hm, ?_⟩
    rw [hm] at h
    simp only [popN] at h
    split at h
    · rename_i hl
      obtain ⟨q, hq⟩ := List.getLast?_eq_some_iff.1 hl
      split at h
      · rename_i hl2
        simp only [Option.map_some, Option.some.injEq] at h
        rw [hq] at hl2 h
        simp only [List.dropLast_concat] at hl2 h
        obtain ⟨q2, hq2⟩ := List.getLast?_eq_some_iff.1 hl2
        refine ⟨q2, by rw [hq, hq2], ?_⟩
        rw [← h, hq2]
        simp
      · cases h
    · cases h
/-- the pile of wires goes with the pile of kinds -/
def LensOk (W : Nat) (p : List (List Int)) (ks : List Int) : Prop := p.map List.length = ks.map (lenK W)
theorem LensOk.snoc {W : Nat} {p : List (List Int)} {ks : List Int} {k : Int} (h : LensOk W p (ks ++ [k])) : ∃ q a, p = q ++ [a] ∧ LensOk W q ks ∧ a.length = lenK W k := by
  unfold LensOk at h
  rw [List.map_append] at h
  obtain ⟨q, l, rfl, h1, h2⟩ := List.map_eq_append_iff.1 h
  simp only [List.map_cons, List.map_nil] at h2
  obtain ⟨a, r, rfl, h3, h4⟩ := List.map_eq_cons_iff.1 h2
  simp only [List.map_eq_nil_iff] at h4
  subst h4
  exact ⟨q, a, rfl, h1, h3⟩
theorem LensOk.add {W : Nat} {p : List (List Int)} {ks : List Int} {k : Int} {a : List Int} (h : LensOk W p ks) (ha : a.length = lenK W k) : LensOk W (p ++ [a]) (ks ++ [k]) := by
  unfold LensOk at h ⊢
  simp [h, ha]
/-- what a node finds on the pile -/
theorem pile_step {W : Nat} (hW : W ≤ 4) {wide vars : Int} {p : List (List Int)} {ks ks' : List Int} {x : Nd} (hp : LensOk W p ks) (hx : plainN x) (h : stepK wide vars ks x = some ks') (S : Int) :
    manyOf x.1 ≤ p.length ∧ (1 ≤ manyOf x.1 → (firstP x.1 p).length = lenK W (partOf x.1) ∧ p[p.length - manyOf x.1]? = some (firstP x.1 p)) ∧ (manyOf x.1 = 2 → (secondP x.1 p).length = lenK W (partOf x.1) ∧ p[p.length - 1]? = some (secondP x.1 p)) ∧
    (layN W x.1 x.2 (firstP x.1 p) (secondP x.1 p) S).1.length ≤ 110 ∧ (layN W x.1 x.2 (firstP x.1 p) (secondP x.1 p) S).2.length = lenK W (ownOf x.1) ∧
    LensOk W (p.take (p.length - manyOf x.1) ++ [(layN W x.1 x.2 (firstP x.1 p) (secondP x.1 p) S).2]) ks' := by
  obtain ⟨h1, h2, hc⟩ := stepK_cases h
  rcases hc with ⟨hm, rfl⟩ | ⟨hm, q, rfl, rfl⟩ | ⟨hm, q, rfl, rfl⟩
  · have hl := layN_len W hW x.1 x.2 (firstP x.1 p) (secondP x.1 p) S h1 hx (fun h => by omega) (fun h => by omega)
    refine ⟨by omega, fun h => by omega, fun h => by omega, hl.1, hl.2, ?_⟩
    rw [hm, Nat.sub_zero, List.take_length]
    exact hp.add hl.2
  · obtain ⟨p0, a, rfl, hp0, ha⟩ := hp.snoc
    have e1 := firstP_one hm p0 a
    have hl := layN_len W hW x.1 x.2 (firstP x.1 (p0 ++ [a])) (secondP x.1 (p0 ++ [a])) S h1 hx (fun _ => by rw [e1]; exact ha) (fun h => by omega)
    refine ⟨by simp; omega, fun _ => ⟨by rw [e1]; exact ha, by rw [e1, hm]; simp⟩, fun h => by omega, hl.1, hl.2, ?_⟩
    rw [hm, show (p0 ++ [a]).take ((p0 ++ [a]).length - 1) = p0 from by simp]
    exact hp0.add hl.2
  · obtain ⟨p1, b, rfl, hp1, hb⟩ := hp.snoc
    obtain ⟨p0, a, rfl, hp0, ha⟩ := hp1.snoc
    have e1 := firstP_two hm p0 a b
    have e2 := secondP_two hm (p0 ++ [a]) b
    have hl := layN_len W hW x.1 x.2 (firstP x.1 (p0 ++ [a] ++ [b])) (secondP x.1 (p0 ++ [a] ++ [b])) S h1 hx (fun _ => by rw [e1]; exact ha) (fun _ => by rw [e2]; exact hb)
    refine ⟨by simp; omega, fun _ => ⟨by rw [e1]; exact ha, by rw [e1, hm]; simp⟩, fun _ => ⟨by rw [e2]; exact hb, by rw [e2]; simp⟩, hl.1, hl.2, ?_⟩
    rw [hm, show (p0 ++ [a] ++ [b]).take ((p0 ++ [a] ++ [b]).length - 2) = p0 from by simp]
    exact hp0.add hl.2
theorem layP_lens (W : Nat) (hW : W ≤ 4) {wide vars : Int} : ∀ (s : List Nd) (p : List (List Int)) (ks0 ks : List Int) (S : Int), LensOk W p ks0 → (∀ x ∈ s, plainN x) → foldK wide vars s ks0 = some ks →
    LensOk W (layP W s p S).2 ks ∧ (layP W s p S).1.length ≤ 110 * s.length
  | [], p, ks0, ks, S, hp, _, h => by
    simp only [foldK, Option.some.injEq] at h
    subst h
    exact ⟨hp, by simp [layP]⟩
  | x :: s, p, ks0, ks, S, hp, hx, h => by
    simp only [foldK] at h
    cases e : stepK wide vars ks0 x with
    | none => rw [e] at h; cases h
    | some ks1 =>
      rw [e] at h
      obtain ⟨_, _, _, hg, _, hl⟩ := pile_step hW hp (hx x (by simp)) e S
      have ih := layP_lens W hW s _ ks1 ks (S + (layN W x.1 x.2 (firstP x.1 p) (secondP x.1 p) S).1.length) hl (fun y hy => hx y (by simp [hy])) h
      refine ⟨ih.1, ?_⟩
      simp only [layP, List.length_append, List.length_cons]
      omega
theorem addG_in : ∀ (xs ys : List Int) (c n : Int), ∀ x ∈ (addG xs ys c n).2, n ≤ x ∧ x < n + 5 * xs.length
  | [], ys, c, n, x, h => by simp [addG] at h
  | _ :: _, [], c, n, x, h => by simp [addG] at h
  | a :: xs, b :: ys, c, n, x, h => by
    simp only [addG, List.mem_cons] at h
    simp only [List.length_cons]
    rcases h with rfl | h
    · omega
    · have := addG_in xs ys (n + 4) (n + 5) x h
      omega
theorem onW_in (c n s d : Int) (k : Nat) (hs : 0 ≤ d) (hd : d < s) : onW c n s d k = c ∨ (n ≤ onW c n s d k ∧ onW c n s d k < n + s * k) := by
  cases k with
  | zero => left; rfl
  | succ k =>
    right
    simp only [onW]
    have e : s * ((k + 1 : Nat) : Int) = s * k + s := by rw [show ((k + 1 : Nat) : Int) = (k : Int) + 1 from by omega, Int.mul_add, Int.mul_one]
    have : 0 ≤ s * (k : Int) := Int.mul_nonneg (by omega) (by omega)
    omega
/-- the wires that are made lie below the count behind, the gates take such ones -/
def InW (S : Int) (r : List Gt × List Int) : Prop := (∀ x ∈ r.2, 0 ≤ x ∧ x < S + r.1.length) ∧ ∀ m : Int, 1 ≤ m → S + r.1.length ≤ m → ∀ g ∈ r.1, smG m g
theorem bitsG_sm (n : Int) (k : Nat) (m : Int) (hm : 1 ≤ m) : ∀ g ∈ bitsG n k, smG m g := by
  intro g hg
  simp only [bitsG, List.mem_map, List.mem_range] at hg
  obtain ⟨j, _, rfl⟩ := hg
  have := bitI_range n j
  exact ⟨by simp, by simp only; omega, by simp only; omega⟩
theorem notsG_sm (a : List Int) (m : Int) (hm : 0 ≤ m) (h : ∀ x ∈ a, 0 ≤ x ∧ x ≤ m) : ∀ g ∈ notsG a, smG m g := by
  intro g hg
  simp only [notsG, List.mem_map] at hg
  obtain ⟨x, hx, rfl⟩ := hg
  exact ⟨by simp, h x hx, by simp; omega⟩
theorem pairG_sm (kind : Int) (hk : 0 ≤ kind ∧ kind ≤ 5) (m : Int) : ∀ (a b : List Int), (∀ x ∈ a, 0 ≤ x ∧ x ≤ m) → (∀ x ∈ b, 0 ≤ x ∧ x ≤ m) → ∀ g ∈ pairG kind a b, smG m g
  | [], b, _, _, g, hg => by simp [pairG] at hg
  | _ :: _, [], _, _, g, hg => by simp [pairG] at hg
  | x :: a, y :: b, ha, hb, g, hg => by
    simp only [pairG, List.zipWith_cons_cons, List.mem_cons] at hg
    rcases hg with rfl | hg
    · exact ⟨hk, ha x (by simp), hb y (by simp)⟩
    · exact pairG_sm kind hk m a b (fun z hz => ha z (by simp [hz])) (fun z hz => hb z (by simp [hz])) g hg
theorem bit_sm (n m : Int) (h0 : 0 ≤ n) (h1 : n ≤ 1) (hm : 1 ≤ m) : smG m (1, n, 0) := ⟨by simp, by simp only; omega, by simp only; omega⟩
theorem mulRow_sm (x : List Int) (y : Int) (k : Nat) (m : Int) (hm : 1 ≤ m) (hx : ∀ z ∈ x, 0 ≤ z ∧ z ≤ m) (hy : 0 ≤ y ∧ y ≤ m) : ∀ g ∈ mulRow x y k, smG m g := by
  intro g hg
  simp only [mulRow, List.mem_append, List.mem_replicate, List.mem_map] at hg
  rcases hg with ⟨_, rfl⟩ | ⟨z, hz, rfl⟩
  · exact bit_sm 0 m (by omega) (by omega) hm
  · exact ⟨by simp, hx z (List.mem_of_mem_take hz), hy⟩
theorem mulF_in (x : List Int) : ∀ (ys : List Int) (k : Nat) (sum : List Int) (S : Int), k + ys.length ≤ x.length → sum.length = x.length → 0 ≤ S → (∀ z ∈ x, 0 ≤ z ∧ z < S) → (∀ z ∈ ys, 0 ≤ z ∧ z < S) → (∀ z ∈ sum, 0 ≤ z ∧ z < S) → InW S (mulF x ys k sum S)
  | [], _, sum, S, _, _, h0, _, _, hs => ⟨fun z hz => by have := hs z hz; simp [mulF]; omega, fun m _ _ g hg => by simp [mulF] at hg⟩
  | y :: ys, k, sum, S, h, hl, h0, hx, hy, hs => by
    simp only [List.length_cons] at h
    have hA := addG_len sum (wiresF S x.length) (S + x.length) (S + x.length + 1) (by rw [wiresF_len, hl])
    have hAi := addG_in sum (wiresF S x.length) (S + x.length) (S + x.length + 1)
    have hR := mulRow_len x y k (by omega)
    have ih := mulF_in x ys (k + 1) (addG sum (wiresF S x.length) (S + x.length) (S + x.length + 1)).2 (S + 6 * x.length + 1) (by omega) (by omega) (by omega) (fun z hz => by have := hx z hz; omega) (fun z hz => by have := hy z (by simp [hz]); omega) (fun z hz => by have := hAi z hz; omega)
    have hAm := fun m => addG_sm m sum (wiresF S x.length) (S + x.length) (S + x.length + 1)
    have hRs := fun m hm => mulRow_sm x y k m hm
    generalize hAA : addG sum (wiresF S x.length) (S + x.length) (S + x.length + 1) = A at *
    generalize hMM : mulF x ys (k + 1) A.2 (S + 6 * x.length + 1) = M at *
    generalize hRR : mulRow x y k = R at *
    have hT : (mulF x (y :: ys) k sum S) = (R ++ [(1, 0, 0)] ++ A.1 ++ M.1, M.2) := by simp only [mulF, hAA, hMM, hRR]
    rw [hT]
    constructor
    · intro z hz
      have := ih.1 z hz
      simp only [List.length_append, List.length_cons, List.length_nil, hR, hA.1]
      omega
    · intro m hm hle g hg
      simp only [List.length_append, List.length_cons, List.length_nil, hR, hA.1] at hle
      simp only [List.mem_append, List.mem_singleton] at hg
      rcases hg with ((hg | rfl) | hg) | hg
      · exact hRs m hm (fun z hz => by have := hx z hz; omega) (by have := hy y (by simp); omega) g hg
      · exact bit_sm 0 m (by omega) (by omega) hm
      · exact hAm m (fun z hz => by have := hs z hz; omega) (fun z hz => by have := wiresF_mem hz; omega) (by omega) (by omega) (by omega) (by omega) g hg
      · exact ih.2 m hm (by omega) g hg
theorem topW_in {a : List Int} {s : Int} {P : Int → Prop} (ha : ∀ x ∈ a, P x) (hs : P s) : ∀ x ∈ topW a s, P x := by
  intro x hx
  simp only [topW, List.mem_append, List.mem_singleton] at hx
  rcases hx with hx | rfl
  · exact ha x (List.mem_of_mem_take hx)
  · exact hs
theorem getD_in {a : List Int} {S : Int} (ha : ∀ x ∈ a, 0 ≤ x ∧ x < S) (h0 : 0 < S) (i : Nat) : 0 ≤ a.getD i 0 ∧ a.getD i 0 < S := by
  rw [List.getD_eq_getElem?_getD]
  cases e : a[i]? with
  | none => simp; omega
  | some x => exact ha x (List.mem_of_getElem? e)
theorem layN_in (W : Nat) (hW : 1 ≤ W) (hW4 : W ≤ 4) (op n : Int) (a b : List Int) (S : Int) (hS : 1 ≤ S) (hlen : manyOf op = 2 → a.length = b.length) (ho : ¬ ownOf op = 0) (hv : op = 2 → 0 ≤ n ∧ n * W + W ≤ S)
    (ha : ∀ x ∈ a, 0 ≤ x ∧ x < S) (hb : ∀ x ∈ b, 0 ≤ x ∧ x < S) : InW S (layN W op n a b S) := by
  have hnil : InW S (([] : List Gt), ([] : List Int)) := ⟨fun x hx => by simp at hx, fun m _ _ g hg => by simp at hg⟩
  have hr : 1 ≤ op ∧ op ≤ 20 := by
    unfold ownOf at ho
    split at ho
    · omega
    · split at ho <;> omega
  have hm : op = 1 ∨ op = 2 ∨ op = 3 ∨ op = 4 ∨ op = 5 ∨ op = 6 ∨ op = 7 ∨ op = 8 ∨ op = 9 ∨ op = 10 ∨ op = 11 ∨ op = 12 ∨ op = 13 ∨ op = 14 ∨ op = 15 ∨ op = 16 ∨ op = 17 ∨ op = 18 ∨ op = 19 ∨ op = 20 := by omega
  clear hr ho
  rcases hm with rfl | rfl | rfl | rfl | rfl | rfl | rfl | rfl | rfl | rfl | rfl | rfl | rfl | rfl | rfl | rfl | rfl | rfl | rfl | rfl
  all_goals simp (config := {decide := true}) only [layN, if_true, if_false]
  · exact ⟨fun x hx => by have := wiresF_mem hx; simp only [bitsG_len]; omega, fun m hm _ => bitsG_sm n W m hm⟩
  · exact ⟨fun x hx => by have := wiresF_mem hx; have := hv rfl; have : 0 ≤ n * W := Int.mul_nonneg (by omega) (by omega); simp; omega, fun m _ _ g hg => by simp at hg⟩
  · have hl := hlen (by decide)
    have hA := addG_len a b S (S + 1) hl
    refine ⟨fun x hx => ?_, fun m hm hle g hg => ?_⟩
    · have := addG_in a b S (S + 1) x hx
      simp only [List.length_append, List.length_cons, List.length_nil, hA.1]
      omega
    · simp only [List.length_append, List.length_cons, List.length_nil, hA.1] at hle
      simp only [List.mem_append, List.mem_singleton] at hg
      rcases hg with rfl | hg
      · exact bit_sm 0 m (by omega) (by omega) hm
      · exact addG_sm m a b S (S + 1) (fun x hx => by have := ha x hx; omega) (fun x hx => by have := hb x hx; omega) (by omega) (by omega) (by omega) (by omega) g hg
  · have hl := hlen (by decide)
    have hA := addG_len a (wiresF S b.length) (S + b.length) (S + b.length + 1) (by rw [wiresF_len]; exact hl)
    refine ⟨fun x hx => ?_, fun m hm hle g hg => ?_⟩
    · have := addG_in a (wiresF S b.length) (S + b.length) (S + b.length + 1) x hx
      simp only [List.length_append, List.length_cons, List.length_nil, hA.1, notsG_len]
      omega
    · simp only [List.length_append, List.length_cons, List.length_nil, hA.1, notsG_len] at hle
      simp only [List.mem_append, List.mem_singleton] at hg
      rcases hg with (hg | rfl) | hg
      · exact notsG_sm b m (by omega) (fun x hx => by have := hb x hx; omega) g hg
      · exact bit_sm 1 m (by omega) (by omega) hm
      · exact addG_sm m a (wiresF S b.length) (S + b.length) (S + b.length + 1) (fun x hx => by have := ha x hx; omega) (fun x hx => by have := wiresF_mem hx; omega) (by omega) (by omega) (by omega) (by omega) g hg
  · have hl := hlen (by decide)
    have hM := mulF_in a b 0 (wiresF S a.length) (S + a.length) (by omega) (wiresF_len _ _) (by omega) (fun x hx => by have := ha x hx; omega) (fun x hx => by have := hb x hx; omega) (fun x hx => by have := wiresF_mem hx; omega)
    refine ⟨fun x hx => ?_, fun m hm hle g hg => ?_⟩
    · have := hM.1 x hx
      simp only [mulG, List.length_append, bitsG_len]
      omega
    · simp only [mulG, List.length_append, bitsG_len] at hle
      simp only [mulG, List.mem_append] at hg
      rcases hg with hg | hg
      · exact bitsG_sm 0 _ m hm g hg
      · exact hM.2 m hm (by omega) g hg
  · exact hnil
  · exact hnil
  · have hl := hlen (by decide)
    exact ⟨fun x hx => by have := wiresF_mem hx; simp only [pairG_len _ _ _ hl]; omega, fun m hm hle => pairG_sm 3 (by omega) m a b (fun x hx => by have := ha x hx; omega) (fun x hx => by have := hb x hx; omega)⟩
  · have hl := hlen (by decide)
    exact ⟨fun x hx => by have := wiresF_mem hx; simp only [pairG_len _ _ _ hl]; omega, fun m hm hle => pairG_sm 4 (by omega) m a b (fun x hx => by have := ha x hx; omega) (fun x hx => by have := hb x hx; omega)⟩
  · have hl := hlen (by decide)
    exact ⟨fun x hx => by have := wiresF_mem hx; simp only [pairG_len _ _ _ hl]; omega, fun m hm hle => pairG_sm 5 (by omega) m a b (fun x hx => by have := ha x hx; omega) (fun x hx => by have := hb x hx; omega)⟩
  · exact hnil
  · exact hnil
  · exact ⟨fun x hx => by have := wiresF_mem hx; simp only [notsG_len]; omega, fun m hm hle => notsG_sm a m (by omega) (fun x hx => by have := ha x hx; omega)⟩
  · have hl := hlen (by decide)
    have hA := eqG_len a b S (S + 1) hl
    refine ⟨fun x hx => ?_, fun m hm hle g hg => ?_⟩
    · have h1 := onW_in S (S + 1) 3 2 a.length (by omega) (by omega)
      simp only [List.mem_singleton] at hx
      subst hx
      simp only [List.length_append, List.length_cons, List.length_nil, hA]
      omega
    · simp only [List.length_append, List.length_cons, List.length_nil, hA] at hle
      simp only [List.mem_append, List.mem_singleton] at hg
      rcases hg with rfl | hg
      · exact bit_sm 1 m (by omega) (by omega) hm
      · exact eqG_sm m a b S (S + 1) (fun x hx => by have := ha x hx; omega) (fun x hx => by have := hb x hx; omega) (by omega) (by omega) (by omega) (by omega) g hg
  · have hl := hlen (by decide)
    have hA := lessG_len a b S (S + 1) hl
    refine ⟨fun x hx => ?_, fun m hm hle g hg => ?_⟩
    · have h1 := onW_in S (S + 1) 6 5 a.length (by omega) (by omega)
      simp only [List.mem_singleton] at hx
      subst hx
      simp only [List.length_append, List.length_cons, List.length_nil, hA]
      omega
    · simp only [List.length_append, List.length_cons, List.length_nil, hA] at hle
      simp only [List.mem_append, List.mem_singleton] at hg
      rcases hg with rfl | hg
      · exact bit_sm 0 m (by omega) (by omega) hm
      · exact lessG_sm m a b S (S + 1) (fun x hx => by have := ha x hx; omega) (fun x hx => by have := hb x hx; omega) (by omega) (by omega) (by omega) (by omega) g hg
  · have hl := hlen (by decide)
    have htl : (topW a S).length = (topW b (S + 1)).length := by simp [topW]; omega
    have hta : (topW a S).length = (a.length - 1) + 1 := by simp [topW]
    have hA := lessG_len (topW a S) (topW b (S + 1)) (S + 2) (S + 3) htl
    refine ⟨fun x hx => ?_, fun m hm hle g hg => ?_⟩
    · have h1 := onW_in (S + 2) (S + 3) 6 5 a.length (by omega) (by omega)
      simp only [List.mem_singleton] at hx
      subst hx
      simp only [List.length_append, List.length_cons, List.length_nil, hA]
      omega
    · simp only [List.length_append, List.length_cons, List.length_nil, hA] at hle
      simp only [List.mem_append, List.mem_singleton, List.mem_cons, List.not_mem_nil, or_false] at hg
      rcases hg with ((rfl | rfl) | rfl) | hg
      · exact ⟨by simp, by have := getD_in ha (by omega) (a.length - 1); simp only; omega, by simp only; omega⟩
      · exact ⟨by simp, by have := getD_in hb (by omega) (b.length - 1); simp only; omega, by simp only; omega⟩
      · exact bit_sm 0 m (by omega) (by omega) hm
      · exact lessG_sm m _ _ (S + 2) (S + 3) (topW_in (fun x hx => by have := ha x hx; omega) (by omega)) (topW_in (fun x hx => by have := hb x hx; omega) (by omega)) (by omega) (by omega) (by omega) (by omega) g hg
  · have hl := hlen (by decide)
    exact ⟨fun x hx => by have := wiresF_mem hx; simp only [pairG_len _ _ _ hl]; omega, fun m hm hle => pairG_sm 3 (by omega) m a b (fun x hx => by have := ha x hx; omega) (fun x hx => by have := hb x hx; omega)⟩
  · have hl := hlen (by decide)
    exact ⟨fun x hx => by have := wiresF_mem hx; simp only [pairG_len _ _ _ hl]; omega, fun m hm hle => pairG_sm 4 (by omega) m a b (fun x hx => by have := ha x hx; omega) (fun x hx => by have := hb x hx; omega)⟩
  · exact ⟨fun x hx => by have := wiresF_mem hx; simp only [notsG_len]; omega, fun m hm hle => notsG_sm a m (by omega) (fun x hx => by have := ha x hx; omega)⟩
  · exact ⟨fun x hx => by have := wiresF_mem hx; simp only [bitsG_len]; omega, fun m hm _ => bitsG_sm n 1 m hm⟩
end Go.Proofs.YtpjllhlbdcanlaaDoor

namespace Go.Proofs.YtpjllhlbdcanlaaDoor
open Go Go.RowKit
open M
set_option linter.unusedVariables false
set_option linter.unusedSimpArgs false

/-- a variable of one cell -/
def CellT (w : World) (cb : Nat) (t : TypeId) (v : Value) : Prop := w.heap[cb]? = some (.cells #[v] t (0, 0))
theorem CellT.keep {w w' : World} {cb : Nat} {t : TypeId} {v : Value} (h : CellT w cb t v) (k : KeepC w w') (n1 : t ≠ 41 := by decide) (n2 : t ≠ 99 := by decide) (n3 : t ≠ 107 := by decide) : CellT w' cb t v := k.block cb _ t _ h n1 n2 n3
theorem CellT.cell {w : World} {cb : Nat} {t : TypeId} {v : Value} (h : CellT w cb t v) : cb < w.heap.size ∧ w.cell? ⟨cb, 0, none⟩ = some v := by
  refine ⟨heap_lt h, ?_⟩
  have e : w.heap[cb]? = some (.cells #[v] t (0, 0)) := h
  simp [World.cell?, e]
theorem Bld.alloc {w : World} {lo hi b : Nat} {e : TypeId} {c : Ci} (h : Bld w lo hi b e c) (o : Obj) : Bld (w.alloc o) lo hi b e c := by
  obtain ⟨q0, q1, q2, q3, q4, q5, q6⟩ := h
  exact ⟨q0, q1, q2, q3.alloc _, q4.alloc _, q5.alloc _, q6⟩
theorem bits_bitI (n : Int) (h0 : 0 ≤ n) (h1 : n ≤ 18446744073709551615) (j : Nat) : bits BinOp.and IntKind.u64 (n / 2 ^ j) 1 = bitI n j := by
  have e : n / 2 ^ j = n / pw j := by rw [pw_int]
  have hp := pw_pos j
  have h2 : 0 ≤ n / pw j := Int.ediv_nonneg h0 (by omega)
  have h3 : n / pw j ≤ n := Int.ediv_le_self _ h0
  rw [e, and_one_u64 _ h2 (by omega)]
  rfl
theorem ints_keep {w w' : World} {B : Nat} {v : Value} {t : List Int} (h : w.ownsRow B 3 1 v t.length (cellsI t)) (k : KeepC w w') (hl : t.length ≤ 9223372036854775807) : IntsAt w' v t := ints_of_own hl (own_keepT h k.int)
set_option maxRecDepth 100000 in
set_option maxHeartbeats 8000000 in
theorem iBits5_any (lo hi b : Nat) (cb : Nat) (ins : Int) (gs : List Gt) (os : List Int) (kk : Nat) (hk : kk ≤ 16) (n : Int) (hn0 : 0 ≤ n) (hn1 : n ≤ 18446744073709551615) (N : Int) (hN : ins + gs.length = N) (hI0 : 0 ≤ ins) (hI1 : ins ≤ 16) (hn : gs.length ≤ 20000) (w : World) (h : Bld w lo hi b 41 (ins, gs, os)) (hhi : hi ≤ w.heap.size) (hcb : CellT w cb 118 (.pointer (some ⟨b, 0, none⟩))) :
    Calls Tryd.prog 116 #[.int .i64 kk, .int .u64 n, .pointer (some ⟨cb, 0, none⟩)] w fun e w' => ∃ r, e = .returned r ∧ w'.ownsRow w.heap.size 3 1 r kk (cellsI (wiresF N kk)) ∧ Bld w' lo hi b 41 (ins, gs ++ bitsG n kk, os) ∧ Fr lo w w' := by
  have HC : Hid (∀ w', Fr lo w w' → cb < w'.heap.size ∧ w'.cell? ⟨cb, 0, none⟩ = some (.pointer (some ⟨b, 0, none⟩))) := fun w' hw => (hcb.keep hw.keep).cell
  clear hcb
  have hlo := h.size
  have HB1 : Hid _ := h
  clear h
  obtain ⟨i0, hif, hz0, hz1, hz2⟩ := info_parts infoInt
  go_enter Tryd.func116, Tryd.ntmps116
  go_wp2_with fail
  go_loopw [6, 9] (fun vs i wr => ∃ j : Nat, j ≤ kk ∧ i = .int .i64 j ∧ Hid (wr.ownsRow w.heap.size 3 1 vs j (cellsI (wiresF N j))) ∧ Hid (Bld wr lo hi b 41 (ins, gs ++ bitsG n j, os)) ∧ Hid (Fr lo w wr)) (fun _ i _ => kk - (intOf i).toNat)
  case atStart =>
    refine ⟨0, by omega, rfl, World.ownsRow_nil _ _ _ _, ?_, Fr.refl _ _⟩
    show Bld w lo hi b 41 (ins, gs ++ bitsG n 0, os)
    rw [show bitsG n 0 = [] from rfl, List.append_nil]
    exact HB1.out
  case round =>
    obtain ⟨j, hj, rfl, HSU, HB, HBl⟩ := hrel
    clear HB1
    by_cases hlt : j < kk
    · obtain ⟨va0, vc0, hv0⟩ := own_shape HSU.out
      subst hv0
      obtain ⟨B, hB⟩ : ∃ B : Int, bitI n j = B := ⟨_, rfl⟩
      have hbit := bits_bitI n hn0 hn1 j
      rw [hB] at hbit
      have hBr := bitI_range n j
      rw [hB] at hBr
      obtain ⟨hB0, hB1⟩ := hBr
      have hwB : IntKind.i64.wrap B = B := IntWalk.i64_in _ ⟨by omega, by omega⟩
      obtain ⟨G, hG⟩ : ∃ G, gs ++ bitsG n j = G := ⟨_, rfl⟩
      have hGl : G.length = gs.length + j := by
        rw [← hG]
        simp only [List.length_append, bitsG_len]
      have HNEW : Hid (gs ++ bitsG n (j + 1) = G ++ [(1, B, 0)]) := by
        show gs ++ bitsG n (j + 1) = _
        rw [bitsG_snoc, hB, ← hG, List.append_assoc]
      obtain ⟨S0, hS⟩ : ∃ S0 : Int, N + (j : Int) = S0 := ⟨_, rfl⟩
      have hSG : ins + (G.length : Int) = S0 := by omega
      have HNS : Hid (wiresF N (j + 1) = wiresF N j ++ [S0]) := by
        show wiresF N (j + 1) = _
        rw [wiresF_snoc, hS]
      obtain ⟨SL, hSL⟩ : ∃ SL, wiresF N j = SL := ⟨_, rfl⟩
      rw [hSL] at HSU HNS
      have hGn : G.length ≤ 21000 := by omega
      rw [hG] at HB
      have HGL : Hid (G.length = gs.length + j) := hGl
      clear hSL hG hGl
      clear hB
      obtain ⟨lc, cc⟩ := HC.out _ HBl.out
      have hjA : (j : Int) < (kk : Int) := by omega
      go_wp2_with fail
      go_region_held_law (fun w' => w'.cell? ⟨cb, 0, none⟩ = some (.pointer (some ⟨b, 0, none⟩))) (first | exact (HC.out _ HBl7.out).2 | exact (HC.out _ HBlw.out).2 | go_keep) (first | (refine step_append_own rfl _ _ 39 rfl w.heap.size 3 i0 (.int .i64 0) 1 8 Tryd.underlying39 hif hz0 hz1 hz2 rfl (by decide) (.slice va0 j vc0) _ _ (by simp [Act.eval, Act.put]) own6 ⟨w1.heap.size, 0, none⟩ 1 1 [.int .i64 S0] (by simp [Act.eval, Act.put]) rfl (oneI_cells w1 S0) (ints_one [S0]) (by unfold maxLen; omega) (by omega) hs6 ?_; intro v7 w7 own7 grow7; have HBl7 : Hid (Fr lo w w7) := hb6.out.grown grow7 hlo (fun kk hk => (own_block own6 hk).1)) | (go_simp; go_at_call 117; (try rw [hbit]); refine (lay5_at lo hi b ins G os S0 1 B 0 (by omega) hI0 hI1 (by omega) _ ?_).mono ?_; (first | exact HB.out | exact HB.out.drew | exact HB.out.drew.drew); rintro e w1 ⟨rfl, hB1', hbl', hk'⟩; have HBw : Hid (Bld w1 lo hi b 41 (ins, G ++ [(1, B, 0)], os)) := hB1'; have HBlw : Hid (Fr lo w w1) := (by first | exact HBl.out.trans hbl' | exact HBl.out.drew.trans hbl'); have HSw : Hid (w1.ownsRow w.heap.size 3 1 (.slice va0 j vc0) j (cellsI SL)) := own_keepT HSU.out (by first | exact hk'.int | exact ⟨hk'.int.block⟩); clear hB1' hbl' hk'; have own6 := World.ownsRow.alloc HSw.out (.cells #[.int .i64 S0] 3); have hb6 : Hid (Fr lo w (w1.alloc (.cells #[.int .i64 S0] 3))) := HBlw.out.alloc (by have := HBlw.out.size; omega) _; have hB6 : Hid (Bld (w1.alloc (.cells #[.int .i64 S0] 3)) lo hi b 41 (ins, G ++ [(1, B, 0)], os)) := HBw.out.alloc _; have hs6 : w.heap.size ≤ (w1.alloc (.cells #[.int .i64 S0] 3)).heap.size := hb6.out.size))
      all_goals
        clear HB HBl HSU
        have HB7 : Hid (Bld w7 lo hi b 41 (ins, gs ++ bitsG n (j + 1), os)) := by
          have h1 := hB6.out.sum own6 hhi (by decide) grow7
          rw [← HNEW.out] at h1
          exact h1
        have HS7 : Hid (w7.ownsRow w.heap.size 3 1 v7 (j + 1) (cellsI (wiresF N (j + 1)))) := by
          show w7.ownsRow w.heap.size 3 1 v7 (j + 1) (cellsI (wiresF N (j + 1)))
          rw [HNS.out]
          unfold cellsI
          rw [List.map_append]
          exact own7
        clear own6 hb6 hB6 own7 grow7 HBw HBlw HSw HNEW HNS
        go_wp2_with fail
        go_roundw
        case rel => exact ⟨j + 1, by omega, by go_num, HS7, HB7, HBl7⟩
        case measure => simp [intOf]; omega
    · obtain rfl : j = kk := by omega
      go_wp2_with fail
      go_ret
      exact ⟨_, rfl, HSU.out, HB.out, HBl.out⟩
set_option maxRecDepth 100000 in
set_option maxHeartbeats 8000000 in
theorem iNots5_any (lo hi b : Nat) (cb : Nat) (ins : Int) (gs : List Gt) (os : List Int) (av : Value) (a : List Int) (hl16 : a.length ≤ 16) (N : Int) (hN : ins + gs.length = N) (hI0 : 0 ≤ ins) (hI1 : ins ≤ 16) (hn : gs.length ≤ 20000) (w : World) (h : Bld w lo hi b 41 (ins, gs, os)) (hhi : hi ≤ w.heap.size) (hcb : CellT w cb 118 (.pointer (some ⟨b, 0, none⟩))) (ha : ∀ w', Fr lo w w' → IntsAt w' av a) :
    Calls Tryd.prog 118 #[av, .pointer (some ⟨cb, 0, none⟩)] w fun e w' => ∃ r, e = .returned r ∧ w'.ownsRow w.heap.size 3 1 r a.length (cellsI (wiresF N a.length)) ∧ Bld w' lo hi b 41 (ins, gs ++ notsG a, os) ∧ Fr lo w w' := by
  obtain ⟨aa, acap, hav, _⟩ := (ha w (Fr.refl _ _)).opened
  subst hav
  have HA : Hid (∀ w', Fr lo w w' → ∀ (i : Nat) (x : Int), a[i]? = some x → ∃ g off : Nat, aa = some ⟨g, off, none⟩ ∧ g < w'.heap.size ∧ w'.cell? ⟨g, off + i, none⟩ = some (.int .i64 x)) := fun w' hw i x hx => by
    obtain ⟨_, _, e, hc⟩ := (ha w' hw).opened
    injection e with e1 e2 e3
    subst e1
    exact hc i x hx
  clear ha
  have HC : Hid (∀ w', Fr lo w w' → cb < w'.heap.size ∧ w'.cell? ⟨cb, 0, none⟩ = some (.pointer (some ⟨b, 0, none⟩))) := fun w' hw => (hcb.keep hw.keep).cell
  clear hcb
  have hlo := h.size
  have HB1 : Hid _ := h
  clear h
  obtain ⟨i0, hif, hz0, hz1, hz2⟩ := info_parts infoInt
  generalize hal : a.length = an at *
  have HAL : Hid (a.length = an) := hal
  clear hal
  go_enter Tryd.func118, Tryd.ntmps118
  go_wp2_with fail
  go_loopw [4, 9] (fun vs i wr => ∃ j : Nat, j ≤ an ∧ i = .int .i64 j ∧ Hid (wr.ownsRow w.heap.size 3 1 vs j (cellsI (wiresF N j))) ∧ Hid (Bld wr lo hi b 41 (ins, gs ++ notsG (a.take j), os)) ∧ Hid (Fr lo w wr)) (fun _ i _ => an - (intOf i).toNat)
  case atStart =>
    refine ⟨0, by omega, rfl, World.ownsRow_nil _ _ _ _, ?_, Fr.refl _ _⟩
    show Bld w lo hi b 41 (ins, gs ++ notsG (a.take 0), os)
    rw [show notsG (a.take 0) = [] from rfl, List.append_nil]
    exact HB1.out
  case round =>
    obtain ⟨j, hj, rfl, HSU, HB, HBl⟩ := hrel
    clear HB1
    by_cases hlt : j < an
    · obtain ⟨va0, vc0, hv0⟩ := own_shape HSU.out
      subst hv0
      obtain ⟨x, hxx⟩ : ∃ x, a[j]? = some x := ⟨a[j]'(by have := HAL.out; omega), List.getElem?_eq_getElem _⟩
      have hta : a.take (j + 1) = a.take j ++ [x] := by rw [List.take_add_one, hxx]; rfl
      obtain ⟨xg, xoff, rfl, _, _⟩ := HA.out wr HBl.out j x hxx
      have HXx : Hid (∀ w', Fr lo w w' → xg < w'.heap.size ∧ w'.cell? ⟨xg, xoff + j, none⟩ = some (.int .i64 x)) := fun w' hw => by
        obtain ⟨g, off, e, h1, h2⟩ := HA.out w' hw j x hxx
        injection e with e1
        injection e1 with e2 e3
        subst e2 e3
        exact ⟨h1, h2⟩
      obtain ⟨G, hG⟩ : ∃ G, gs ++ notsG (a.take j) = G := ⟨_, rfl⟩
      have hGl : G.length = gs.length + j := by
        rw [← hG]
        simp only [List.length_append, notsG_len, List.length_take_of_le (show j ≤ a.length by have := HAL.out; omega)]
      have HNEW : Hid (gs ++ notsG (a.take (j + 1)) = G ++ [(2, x, 0)]) := by
        show gs ++ notsG (a.take (j + 1)) = _
        rw [hta, notsG_snoc, ← hG, List.append_assoc]
      obtain ⟨S0, hS⟩ : ∃ S0 : Int, N + (j : Int) = S0 := ⟨_, rfl⟩
      have hSG : ins + (G.length : Int) = S0 := by omega
      have HNS : Hid (wiresF N (j + 1) = wiresF N j ++ [S0]) := by
        show wiresF N (j + 1) = _
        rw [wiresF_snoc, hS]
      obtain ⟨SL, hSL⟩ : ∃ SL, wiresF N j = SL := ⟨_, rfl⟩
      rw [hSL] at HSU HNS
      have hGn : G.length ≤ 21000 := by omega
      rw [hG] at HB
      have HGL : Hid (G.length = gs.length + j) := hGl
      clear hSL hG hGl
      clear hta
      obtain ⟨lx, cx⟩ := HXx.out _ HBl.out
      clear hxx HA
      obtain ⟨lc, cc⟩ := HC.out _ HBl.out
      have hjA : (j : Int) < (an : Int) := by omega
      go_wp2_with fail
      refine (lay5_at lo hi b ins G os S0 2 x 0 (by omega) hI0 hI1 (by omega) _ ?_).mono ?_
      · exact HB.out
      rintro e w1 ⟨rfl, hB1', hbl', hk'⟩
      have HBw : Hid (Bld w1 lo hi b 41 (ins, G ++ [(2, x, 0)], os)) := hB1'; have HBlw : Hid (Fr lo w w1) := (by first | exact HBl.out.trans hbl' | exact HBl.out.drew.trans hbl'); have HSw : Hid (w1.ownsRow w.heap.size 3 1 (.slice va0 j vc0) j (cellsI SL)) := own_keepT HSU.out (by first | exact hk'.int | exact ⟨hk'.int.block⟩); clear hB1' hbl' hk'
      ·
        clear HB HBl HSU
        have own6 := World.ownsRow.alloc HSw.out (.cells #[.int .i64 S0] 3)
        have hb6 : Hid (Fr lo w (w1.alloc (.cells #[.int .i64 S0] 3))) := HBlw.out.alloc (by have := HBlw.out.size; omega) _
        have hB6 : Hid (Bld (w1.alloc (.cells #[.int .i64 S0] 3)) lo hi b 41 (ins, G ++ [(2, x, 0)], os)) := by
          obtain ⟨q0, q1, q2, q3, q4, q5, q6⟩ := HBw.out
          exact ⟨q0, q1, q2, q3.alloc _, q4.alloc _, q5.alloc _, q6⟩
        have hs6 : w.heap.size ≤ (w1.alloc (.cells #[.int .i64 S0] 3)).heap.size := hb6.out.size
        go_wp2_with (at_builtin; refine wpList_append_own _ rfl _ _ 39 rfl w.heap.size 3 i0 (.int .i64 0) 1 8 Tryd.underlying39 hif hz0 hz1 hz2 rfl (by decide) _ _ _ rfl own6 ⟨w1.heap.size, 0, none⟩ 1 1 [.int .i64 S0] rfl rfl (oneI_cells w1 S0) (ints_one [S0]) (by unfold maxLen; omega) (by omega) hs6 ?_)
        intro v7 w7 own7 grow7 _
        have HB7 : Hid (Bld w7 lo hi b 41 (ins, gs ++ notsG (a.take (j + 1)), os)) := by
          have h1 := hB6.out.sum own6 hhi (by decide) grow7
          rw [← HNEW.out] at h1
          exact h1
        have HBl7 : Hid (Fr lo w w7) := hb6.out.grown grow7 hlo (fun kk hk => (own_block own6 hk).1)
        have HS7 : Hid (w7.ownsRow w.heap.size 3 1 v7 (j + 1) (cellsI (wiresF N (j + 1)))) := by
          show w7.ownsRow w.heap.size 3 1 v7 (j + 1) (cellsI (wiresF N (j + 1)))
          rw [HNS.out]
          unfold cellsI
          rw [List.map_append]
          exact own7
        clear own6 hb6 hB6 own7 grow7 HBw HBlw HSw HNEW HNS
        go_wp2_with fail
        go_roundw
        case rel => exact ⟨j + 1, by omega, by go_num, HS7, HB7, HBl7⟩
        case measure => simp [intOf]; omega
    · obtain rfl : j = an := by omega
      have ta : a.take j = a := List.take_of_length_le (by have := HAL.out; omega)
      rw [ta] at HB
      clear ta HA
      go_wp2_with fail
      go_ret
      exact ⟨_, rfl, HSU.out, HB.out, HBl.out⟩
set_option maxRecDepth 100000 in
set_option maxHeartbeats 8000000 in
theorem iPairs5_any (lo hi b : Nat) (cb : Nat) (ins : Int) (gs : List Gt) (os : List Int) (kd : Int) (av bv : Value) (a bb : List Int) (hl : a.length = bb.length) (hl16 : a.length ≤ 16) (N : Int) (hN : ins + gs.length = N) (hI0 : 0 ≤ ins) (hI1 : ins ≤ 16) (hn : gs.length ≤ 20000) (w : World) (h : Bld w lo hi b 41 (ins, gs, os)) (hhi : hi ≤ w.heap.size) (hcb : CellT w cb 118 (.pointer (some ⟨b, 0, none⟩))) (ha : ∀ w', Fr lo w w' → IntsAt w' av a) (hb : ∀ w', Fr lo w w' → IntsAt w' bv bb) :
    Calls Tryd.prog 119 #[.int .i64 kd, av, bv, .pointer (some ⟨cb, 0, none⟩)] w fun e w' => ∃ r, e = .returned r ∧ w'.ownsRow w.heap.size 3 1 r a.length (cellsI (wiresF N a.length)) ∧ Bld w' lo hi b 41 (ins, gs ++ pairG kd a bb, os) ∧ Fr lo w w' := by
  obtain ⟨aa, acap, hav, _⟩ := (ha w (Fr.refl _ _)).opened
  subst hav
  have HA : Hid (∀ w', Fr lo w w' → ∀ (i : Nat) (x : Int), a[i]? = some x → ∃ g off : Nat, aa = some ⟨g, off, none⟩ ∧ g < w'.heap.size ∧ w'.cell? ⟨g, off + i, none⟩ = some (.int .i64 x)) := fun w' hw i x hx => by
    obtain ⟨_, _, e, hc⟩ := (ha w' hw).opened
    injection e with e1 e2 e3
    subst e1
    exact hc i x hx
  clear ha
  obtain ⟨ba, bbcap, hbv, _⟩ := (hb w (Fr.refl _ _)).opened
  subst hbv
  have HBB : Hid (∀ w', Fr lo w w' → ∀ (i : Nat) (x : Int), bb[i]? = some x → ∃ g off : Nat, ba = some ⟨g, off, none⟩ ∧ g < w'.heap.size ∧ w'.cell? ⟨g, off + i, none⟩ = some (.int .i64 x)) := fun w' hw i x hx => by
    obtain ⟨_, _, e, hc⟩ := (hb w' hw).opened
    injection e with e1 e2 e3
    subst e1
    exact hc i x hx
  clear hb
  have HC : Hid (∀ w', Fr lo w w' → cb < w'.heap.size ∧ w'.cell? ⟨cb, 0, none⟩ = some (.pointer (some ⟨b, 0, none⟩))) := fun w' hw => (hcb.keep hw.keep).cell
  clear hcb
  have hlo := h.size
  have HB1 : Hid _ := h
  clear h
  obtain ⟨i0, hif, hz0, hz1, hz2⟩ := info_parts infoInt
  generalize hal : a.length = an at *
  have HAL : Hid (a.length = an) := hal
  rw [← hl]
  have HBL : Hid (bb.length = an) := hl.symm
  clear hl
  clear hal
  go_enter Tryd.func119, Tryd.ntmps119
  go_wp2_with fail
  go_loopw [8, 12] (fun vs i wr => ∃ j : Nat, j ≤ an ∧ i = .int .i64 j ∧ Hid (wr.ownsRow w.heap.size 3 1 vs j (cellsI (wiresF N j))) ∧ Hid (Bld wr lo hi b 41 (ins, gs ++ pairG kd (a.take j) (bb.take j), os)) ∧ Hid (Fr lo w wr)) (fun _ i _ => an - (intOf i).toNat)
  case atStart =>
    refine ⟨0, by omega, rfl, World.ownsRow_nil _ _ _ _, ?_, Fr.refl _ _⟩
    show Bld w lo hi b 41 (ins, gs ++ [], os)
    rw [List.append_nil]
    exact HB1.out
  case round =>
    obtain ⟨j, hj, rfl, HSU, HB, HBl⟩ := hrel
    clear HB1
    by_cases hlt : j < an
    · obtain ⟨va0, vc0, hv0⟩ := own_shape HSU.out
      subst hv0
      obtain ⟨x, hxx⟩ : ∃ x, a[j]? = some x := ⟨a[j]'(by have := HAL.out; omega), List.getElem?_eq_getElem _⟩
      have hta : a.take (j + 1) = a.take j ++ [x] := by rw [List.take_add_one, hxx]; rfl
      obtain ⟨xg, xoff, rfl, _, _⟩ := HA.out wr HBl.out j x hxx
      have HXx : Hid (∀ w', Fr lo w w' → xg < w'.heap.size ∧ w'.cell? ⟨xg, xoff + j, none⟩ = some (.int .i64 x)) := fun w' hw => by
        obtain ⟨g, off, e, h1, h2⟩ := HA.out w' hw j x hxx
        injection e with e1
        injection e1 with e2 e3
        subst e2 e3
        exact ⟨h1, h2⟩
      obtain ⟨y, hxy⟩ : ∃ x, bb[j]? = some x := ⟨bb[j]'(by have := HBL.out; omega), List.getElem?_eq_getElem _⟩
      have htbb : bb.take (j + 1) = bb.take j ++ [y] := by rw [List.take_add_one, hxy]; rfl
      obtain ⟨yg, yoff, rfl, _, _⟩ := HBB.out wr HBl.out j y hxy
      have HXy : Hid (∀ w', Fr lo w w' → yg < w'.heap.size ∧ w'.cell? ⟨yg, yoff + j, none⟩ = some (.int .i64 y)) := fun w' hw => by
        obtain ⟨g, off, e, h1, h2⟩ := HBB.out w' hw j y hxy
        injection e with e1
        injection e1 with e2 e3
        subst e2 e3
        exact ⟨h1, h2⟩
      obtain ⟨G, hG⟩ : ∃ G, gs ++ pairG kd (a.take j) (bb.take j) = G := ⟨_, rfl⟩
      have hGl : G.length = gs.length + j := by
        rw [← hG]
        simp only [List.length_append, pairG_len _ _ _ (show (a.take j).length = (bb.take j).length by simp only [List.length_take]; have := HAL.out; have := HBL.out; omega), List.length_take_of_le (show j ≤ a.length by have := HAL.out; omega)]
      have HNEW : Hid (gs ++ pairG kd (a.take (j + 1)) (bb.take (j + 1)) = G ++ [(kd, x, y)]) := by
        show gs ++ pairG kd (a.take (j + 1)) (bb.take (j + 1)) = _
        rw [hta, htbb, pairG_snoc _ _ _ _ _ (by simp only [List.length_take]; have := HAL.out; have := HBL.out; omega), ← hG, List.append_assoc]
      obtain ⟨S0, hS⟩ : ∃ S0 : Int, N + (j : Int) = S0 := ⟨_, rfl⟩
      have hSG : ins + (G.length : Int) = S0 := by omega
      have HNS : Hid (wiresF N (j + 1) = wiresF N j ++ [S0]) := by
        show wiresF N (j + 1) = _
        rw [wiresF_snoc, hS]
      obtain ⟨SL, hSL⟩ : ∃ SL, wiresF N j = SL := ⟨_, rfl⟩
      rw [hSL] at HSU HNS
      have hGn : G.length ≤ 21000 := by omega
      rw [hG] at HB
      have HGL : Hid (G.length = gs.length + j) := hGl
      clear hSL hG hGl
      clear hta
      clear htbb
      obtain ⟨lx, cx⟩ := HXx.out _ HBl.out
      clear hxx HA
      obtain ⟨ly, cy⟩ := HXy.out _ HBl.out
      clear hxy HBB
      obtain ⟨lc, cc⟩ := HC.out _ HBl.out
      have hjA : (j : Int) < (an : Int) := by omega
      go_wp2_with fail
      go_region_held_law (fun w' => w'.cell? ⟨cb, 0, none⟩ = some (.pointer (some ⟨b, 0, none⟩)) ∧ w'.cell? ⟨xg, xoff + j, none⟩ = some (.int .i64 x) ∧ w'.cell? ⟨yg, yoff + j, none⟩ = some (.int .i64 y)) (first | exact ⟨(HC.out _ HBl7.out).2, (HXx.out _ HBl7.out).2, (HXy.out _ HBl7.out).2⟩ | exact ⟨(HC.out _ HBlw.out).2, (HXx.out _ HBlw.out).2, (HXy.out _ HBlw.out).2⟩ | go_keep) (first | (refine step_append_own rfl _ _ 39 rfl w.heap.size 3 i0 (.int .i64 0) 1 8 Tryd.underlying39 hif hz0 hz1 hz2 rfl (by decide) (.slice va0 j vc0) _ _ (by simp [Act.eval, Act.put]) own6 ⟨w1.heap.size, 0, none⟩ 1 1 [.int .i64 S0] (by simp [Act.eval, Act.put]) rfl (oneI_cells w1 S0) (ints_one [S0]) (by unfold maxLen; omega) (by omega) hs6 ?_; intro v7 w7 own7 grow7; have HBl7 : Hid (Fr lo w w7) := hb6.out.grown grow7 hlo (fun kk hk => (own_block own6 hk).1)) | (go_simp; go_at_call 117; refine (lay5_at lo hi b ins G os S0 kd x y (by omega) hI0 hI1 (by omega) _ ?_).mono ?_; (first | exact HB.out | exact HB.out.drew | exact HB.out.drew.drew); rintro e w1 ⟨rfl, hB1', hbl', hk'⟩; have HBw : Hid (Bld w1 lo hi b 41 (ins, G ++ [(kd, x, y)], os)) := hB1'; have HBlw : Hid (Fr lo w w1) := (by first | exact HBl.out.trans hbl' | exact HBl.out.drew.trans hbl'); have HSw : Hid (w1.ownsRow w.heap.size 3 1 (.slice va0 j vc0) j (cellsI SL)) := own_keepT HSU.out (by first | exact hk'.int | exact ⟨hk'.int.block⟩); clear hB1' hbl' hk'; have own6 := World.ownsRow.alloc HSw.out (.cells #[.int .i64 S0] 3); have hb6 : Hid (Fr lo w (w1.alloc (.cells #[.int .i64 S0] 3))) := HBlw.out.alloc (by have := HBlw.out.size; omega) _; have hB6 : Hid (Bld (w1.alloc (.cells #[.int .i64 S0] 3)) lo hi b 41 (ins, G ++ [(kd, x, y)], os)) := HBw.out.alloc _; have hs6 : w.heap.size ≤ (w1.alloc (.cells #[.int .i64 S0] 3)).heap.size := hb6.out.size))
      all_goals
        clear HB HBl HSU
        have HB7 : Hid (Bld w7 lo hi b 41 (ins, gs ++ pairG kd (a.take (j + 1)) (bb.take (j + 1)), os)) := by
          have h1 := hB6.out.sum own6 hhi (by decide) grow7
          rw [← HNEW.out] at h1
          exact h1
        have HS7 : Hid (w7.ownsRow w.heap.size 3 1 v7 (j + 1) (cellsI (wiresF N (j + 1)))) := by
          show w7.ownsRow w.heap.size 3 1 v7 (j + 1) (cellsI (wiresF N (j + 1)))
          rw [HNS.out]
          unfold cellsI
          rw [List.map_append]
          exact own7
        clear own6 hb6 hB6 own7 grow7 HBw HBlw HSw HNEW HNS
        go_wp2_with fail
        go_roundw
        case rel => exact ⟨j + 1, by omega, by go_num, HS7, HB7, HBl7⟩
        case measure => simp [intOf]; omega
    · obtain rfl : j = an := by omega
      have ta : a.take j = a := List.take_of_length_le (by have := HAL.out; omega)
      have tbb : bb.take j = bb := List.take_of_length_le (by have := HBL.out; omega)
      rw [ta, tbb] at HB
      clear ta HA tbb HBB
      go_wp2_with fail
      go_ret
      exact ⟨_, rfl, HSU.out, HB.out, HBl.out⟩
set_option maxRecDepth 100000 in
set_option maxHeartbeats 8000000 in
theorem sBits5_any (lo hi b : Nat) (ins : Int) (gs : List Gt) (os : List Int) (kk : Nat) (hk : kk ≤ 16) (n : Int) (hn0 : 0 ≤ n) (hn1 : n ≤ 18446744073709551615) (N : Int) (hN : ins + gs.length = N) (hI0 : 0 ≤ ins) (hI1 : ins ≤ 16) (hn : gs.length ≤ 20000) (w : World) (h : Bld w lo hi b 99 (ins, gs, os)) (hhi : hi ≤ w.heap.size) :
    Calls Tryd.prog 74 #[.pointer (some ⟨b, 0, none⟩), .int .u64 n, .int .i64 kk] w fun e w' => ∃ r, e = .returned r ∧ w'.ownsRow w.heap.size 3 1 r kk (cellsI (wiresF N kk)) ∧ Bld w' lo hi b 99 (ins, gs ++ bitsG n kk, os) ∧ Fr lo w w' := by
  have hlo := h.size
  have HB1 : Hid _ := h
  clear h
  obtain ⟨i0, hif, hz0, hz1, hz2⟩ := info_parts infoInt
  go_enter Tryd.func74, Tryd.ntmps74
  go_wp2_with fail
  go_loopw [7, 8] (fun vs i wr => ∃ j : Nat, j ≤ kk ∧ i = .int .i64 j ∧ Hid (wr.ownsRow w.heap.size 3 1 vs j (cellsI (wiresF N j))) ∧ Hid (Bld wr lo hi b 99 (ins, gs ++ bitsG n j, os)) ∧ Hid (Fr lo w wr)) (fun _ i _ => kk - (intOf i).toNat)
  case atStart =>
    refine ⟨0, by omega, rfl, World.ownsRow_nil _ _ _ _, ?_, Fr.refl _ _⟩
    show Bld w lo hi b 99 (ins, gs ++ bitsG n 0, os)
    rw [show bitsG n 0 = [] from rfl, List.append_nil]
    exact HB1.out
  case round =>
    obtain ⟨j, hj, rfl, HSU, HB, HBl⟩ := hrel
    clear HB1
    by_cases hlt : j < kk
    · obtain ⟨va0, vc0, hv0⟩ := own_shape HSU.out
      subst hv0
      obtain ⟨B, hB⟩ : ∃ B : Int, bitI n j = B := ⟨_, rfl⟩
      have hbit := bits_bitI n hn0 hn1 j
      rw [hB] at hbit
      have hBr := bitI_range n j
      rw [hB] at hBr
      obtain ⟨hB0, hB1⟩ := hBr
      have hwB : IntKind.i64.wrap B = B := IntWalk.i64_in _ ⟨by omega, by omega⟩
      obtain ⟨G, hG⟩ : ∃ G, gs ++ bitsG n j = G := ⟨_, rfl⟩
      have hGl : G.length = gs.length + j := by
        rw [← hG]
        simp only [List.length_append, bitsG_len]
      have HNEW : Hid (gs ++ bitsG n (j + 1) = G ++ [(1, B, 0)]) := by
        show gs ++ bitsG n (j + 1) = _
        rw [bitsG_snoc, hB, ← hG, List.append_assoc]
      obtain ⟨S0, hS⟩ : ∃ S0 : Int, N + (j : Int) = S0 := ⟨_, rfl⟩
      have hSG : ins + (G.length : Int) = S0 := by omega
      have HNS : Hid (wiresF N (j + 1) = wiresF N j ++ [S0]) := by
        show wiresF N (j + 1) = _
        rw [wiresF_snoc, hS]
      obtain ⟨SL, hSL⟩ : ∃ SL, wiresF N j = SL := ⟨_, rfl⟩
      rw [hSL] at HSU HNS
      have hGn : G.length ≤ 21000 := by omega
      rw [hG] at HB
      have HGL : Hid (G.length = gs.length + j) := hGl
      clear hSL hG hGl
      clear hB
      have hjA : (j : Int) < (kk : Int) := by omega
      go_wp2_with fail
      try rw [hbit]
      refine (gate5_at lo hi b ins G os S0 1 B 0 (by omega) hI0 hI1 (by omega) _ ?_).mono ?_
      · exact HB.out
      rintro e w1 ⟨rfl, hB1', hbl', hk'⟩
      have HBw : Hid (Bld w1 lo hi b 99 (ins, G ++ [(1, B, 0)], os)) := hB1'; have HBlw : Hid (Fr lo w w1) := (by first | exact HBl.out.trans hbl' | exact HBl.out.drew.trans hbl'); have HSw : Hid (w1.ownsRow w.heap.size 3 1 (.slice va0 j vc0) j (cellsI SL)) := own_keepT HSU.out (by first | exact hk'.int | exact ⟨hk'.int.block⟩); clear hB1' hbl' hk'
      ·
        clear HB HBl HSU
        have own6 := World.ownsRow.alloc HSw.out (.cells #[.int .i64 S0] 3)
        have hb6 : Hid (Fr lo w (w1.alloc (.cells #[.int .i64 S0] 3))) := HBlw.out.alloc (by have := HBlw.out.size; omega) _
        have hB6 : Hid (Bld (w1.alloc (.cells #[.int .i64 S0] 3)) lo hi b 99 (ins, G ++ [(1, B, 0)], os)) := by
          obtain ⟨q0, q1, q2, q3, q4, q5, q6⟩ := HBw.out
          exact ⟨q0, q1, q2, q3.alloc _, q4.alloc _, q5.alloc _, q6⟩
        have hs6 : w.heap.size ≤ (w1.alloc (.cells #[.int .i64 S0] 3)).heap.size := hb6.out.size
        go_wp2_with (at_builtin; refine wpList_append_own _ rfl _ _ 39 rfl w.heap.size 3 i0 (.int .i64 0) 1 8 Tryd.underlying39 hif hz0 hz1 hz2 rfl (by decide) _ _ _ rfl own6 ⟨w1.heap.size, 0, none⟩ 1 1 [.int .i64 S0] rfl rfl (oneI_cells w1 S0) (ints_one [S0]) (by unfold maxLen; omega) (by omega) hs6 ?_)
        intro v7 w7 own7 grow7 _
        have HB7 : Hid (Bld w7 lo hi b 99 (ins, gs ++ bitsG n (j + 1), os)) := by
          have h1 := hB6.out.sum own6 hhi (by decide) grow7
          rw [← HNEW.out] at h1
          exact h1
        have HBl7 : Hid (Fr lo w w7) := hb6.out.grown grow7 hlo (fun kk hk => (own_block own6 hk).1)
        have HS7 : Hid (w7.ownsRow w.heap.size 3 1 v7 (j + 1) (cellsI (wiresF N (j + 1)))) := by
          show w7.ownsRow w.heap.size 3 1 v7 (j + 1) (cellsI (wiresF N (j + 1)))
          rw [HNS.out]
          unfold cellsI
          rw [List.map_append]
          exact own7
        clear own6 hb6 hB6 own7 grow7 HBw HBlw HSw HNEW HNS
        go_wp2_with fail
        go_roundw
        case rel => exact ⟨j + 1, by omega, by go_num, HS7, HB7, HBl7⟩
        case measure => simp [intOf]; omega
    · obtain rfl : j = kk := by omega
      go_wp2_with fail
      go_ret
      exact ⟨_, rfl, HSU.out, HB.out, HBl.out⟩
set_option maxRecDepth 100000 in
set_option maxHeartbeats 8000000 in
theorem sNots5_any (lo hi b : Nat) (ins : Int) (gs : List Gt) (os : List Int) (av : Value) (a : List Int) (hl16 : a.length ≤ 16) (N : Int) (hN : ins + gs.length = N) (hI0 : 0 ≤ ins) (hI1 : ins ≤ 16) (hn : gs.length ≤ 20000) (w : World) (h : Bld w lo hi b 99 (ins, gs, os)) (hhi : hi ≤ w.heap.size) (ha : ∀ w', Fr lo w w' → IntsAt w' av a) :
    Calls Tryd.prog 75 #[.pointer (some ⟨b, 0, none⟩), av] w fun e w' => ∃ r, e = .returned r ∧ w'.ownsRow w.heap.size 3 1 r a.length (cellsI (wiresF N a.length)) ∧ Bld w' lo hi b 99 (ins, gs ++ notsG a, os) ∧ Fr lo w w' := by
  obtain ⟨aa, acap, hav, _⟩ := (ha w (Fr.refl _ _)).opened
  subst hav
  have HA : Hid (∀ w', Fr lo w w' → ∀ (i : Nat) (x : Int), a[i]? = some x → ∃ g off : Nat, aa = some ⟨g, off, none⟩ ∧ g < w'.heap.size ∧ w'.cell? ⟨g, off + i, none⟩ = some (.int .i64 x)) := fun w' hw i x hx => by
    obtain ⟨_, _, e, hc⟩ := (ha w' hw).opened
    injection e with e1 e2 e3
    subst e1
    exact hc i x hx
  clear ha
  have hlo := h.size
  have HB1 : Hid _ := h
  clear h
  obtain ⟨i0, hif, hz0, hz1, hz2⟩ := info_parts infoInt
  generalize hal : a.length = an at *
  have HAL : Hid (a.length = an) := hal
  clear hal
  go_enter Tryd.func75, Tryd.ntmps75
  go_wp2_with fail
  go_loopw [5, 10] (fun vs i wr => ∃ j : Nat, j ≤ an ∧ i = .int .i64 j ∧ Hid (wr.ownsRow w.heap.size 3 1 vs j (cellsI (wiresF N j))) ∧ Hid (Bld wr lo hi b 99 (ins, gs ++ notsG (a.take j), os)) ∧ Hid (Fr lo w wr)) (fun _ i _ => an - (intOf i).toNat)
  case atStart =>
    refine ⟨0, by omega, rfl, World.ownsRow_nil _ _ _ _, ?_, Fr.refl _ _⟩
    show Bld w lo hi b 99 (ins, gs ++ notsG (a.take 0), os)
    rw [show notsG (a.take 0) = [] from rfl, List.append_nil]
    exact HB1.out
  case round =>
    obtain ⟨j, hj, rfl, HSU, HB, HBl⟩ := hrel
    clear HB1
    by_cases hlt : j < an
    · obtain ⟨va0, vc0, hv0⟩ := own_shape HSU.out
      subst hv0
      obtain ⟨x, hxx⟩ : ∃ x, a[j]? = some x := ⟨a[j]'(by have := HAL.out; omega), List.getElem?_eq_getElem _⟩
      have hta : a.take (j + 1) = a.take j ++ [x] := by rw [List.take_add_one, hxx]; rfl
      obtain ⟨xg, xoff, rfl, _, _⟩ := HA.out wr HBl.out j x hxx
      have HXx : Hid (∀ w', Fr lo w w' → xg < w'.heap.size ∧ w'.cell? ⟨xg, xoff + j, none⟩ = some (.int .i64 x)) := fun w' hw => by
        obtain ⟨g, off, e, h1, h2⟩ := HA.out w' hw j x hxx
        injection e with e1
        injection e1 with e2 e3
        subst e2 e3
        exact ⟨h1, h2⟩
      obtain ⟨G, hG⟩ : ∃ G, gs ++ notsG (a.take j) = G := ⟨_, rfl⟩
      have hGl : G.length = gs.length + j := by
        rw [← hG]
        simp only [List.length_append, notsG_len, List.length_take_of_le (show j ≤ a.length by have := HAL.out; omega)]
      have HNEW : Hid (gs ++ notsG (a.take (j + 1)) = G ++ [(2, x, 0)]) := by
        show gs ++ notsG (a.take (j + 1)) = _
        rw [hta, notsG_snoc, ← hG, List.append_assoc]
      obtain ⟨S0, hS⟩ : ∃ S0 : Int, N + (j : Int) = S0 := ⟨_, rfl⟩
      have hSG : ins + (G.length : Int) = S0 := by omega
      have HNS : Hid (wiresF N (j + 1) = wiresF N j ++ [S0]) := by
        show wiresF N (j + 1) = _
        rw [wiresF_snoc, hS]
      obtain ⟨SL, hSL⟩ : ∃ SL, wiresF N j = SL := ⟨_, rfl⟩
      rw [hSL] at HSU HNS
      have hGn : G.length ≤ 21000 := by omega
      rw [hG] at HB
      have HGL : Hid (G.length = gs.length + j) := hGl
      clear hSL hG hGl
      clear hta
      obtain ⟨lx, cx⟩ := HXx.out _ HBl.out
      clear hxx HA
      have hjA : (j : Int) < (an : Int) := by omega
      go_wp2_with fail
      refine (gate5_at lo hi b ins G os S0 2 x 0 (by omega) hI0 hI1 (by omega) _ ?_).mono ?_
      · exact HB.out
      rintro e w1 ⟨rfl, hB1', hbl', hk'⟩
      have HBw : Hid (Bld w1 lo hi b 99 (ins, G ++ [(2, x, 0)], os)) := hB1'; have HBlw : Hid (Fr lo w w1) := (by first | exact HBl.out.trans hbl' | exact HBl.out.drew.trans hbl'); have HSw : Hid (w1.ownsRow w.heap.size 3 1 (.slice va0 j vc0) j (cellsI SL)) := own_keepT HSU.out (by first | exact hk'.int | exact ⟨hk'.int.block⟩); clear hB1' hbl' hk'
      ·
        clear HB HBl HSU
        have own6 := World.ownsRow.alloc HSw.out (.cells #[.int .i64 S0] 3)
        have hb6 : Hid (Fr lo w (w1.alloc (.cells #[.int .i64 S0] 3))) := HBlw.out.alloc (by have := HBlw.out.size; omega) _
        have hB6 : Hid (Bld (w1.alloc (.cells #[.int .i64 S0] 3)) lo hi b 99 (ins, G ++ [(2, x, 0)], os)) := by
          obtain ⟨q0, q1, q2, q3, q4, q5, q6⟩ := HBw.out
          exact ⟨q0, q1, q2, q3.alloc _, q4.alloc _, q5.alloc _, q6⟩
        have hs6 : w.heap.size ≤ (w1.alloc (.cells #[.int .i64 S0] 3)).heap.size := hb6.out.size
        go_wp2_with (at_builtin; refine wpList_append_own _ rfl _ _ 39 rfl w.heap.size 3 i0 (.int .i64 0) 1 8 Tryd.underlying39 hif hz0 hz1 hz2 rfl (by decide) _ _ _ rfl own6 ⟨w1.heap.size, 0, none⟩ 1 1 [.int .i64 S0] rfl rfl (oneI_cells w1 S0) (ints_one [S0]) (by unfold maxLen; omega) (by omega) hs6 ?_)
        intro v7 w7 own7 grow7 _
        have HB7 : Hid (Bld w7 lo hi b 99 (ins, gs ++ notsG (a.take (j + 1)), os)) := by
          have h1 := hB6.out.sum own6 hhi (by decide) grow7
          rw [← HNEW.out] at h1
          exact h1
        have HBl7 : Hid (Fr lo w w7) := hb6.out.grown grow7 hlo (fun kk hk => (own_block own6 hk).1)
        have HS7 : Hid (w7.ownsRow w.heap.size 3 1 v7 (j + 1) (cellsI (wiresF N (j + 1)))) := by
          show w7.ownsRow w.heap.size 3 1 v7 (j + 1) (cellsI (wiresF N (j + 1)))
          rw [HNS.out]
          unfold cellsI
          rw [List.map_append]
          exact own7
        clear own6 hb6 hB6 own7 grow7 HBw HBlw HSw HNEW HNS
        go_wp2_with fail
        go_roundw
        case rel => exact ⟨j + 1, by omega, by go_num, HS7, HB7, HBl7⟩
        case measure => simp [intOf]; omega
    · obtain rfl : j = an := by omega
      have ta : a.take j = a := List.take_of_length_le (by have := HAL.out; omega)
      rw [ta] at HB
      clear ta HA
      go_wp2_with fail
      go_ret
      exact ⟨_, rfl, HSU.out, HB.out, HBl.out⟩
set_option maxRecDepth 100000 in
set_option maxHeartbeats 8000000 in
theorem sPairs5_any (lo hi b : Nat) (ins : Int) (gs : List Gt) (os : List Int) (kd : Int) (av bv : Value) (a bb : List Int) (hl : a.length = bb.length) (hl16 : a.length ≤ 16) (N : Int) (hN : ins + gs.length = N) (hI0 : 0 ≤ ins) (hI1 : ins ≤ 16) (hn : gs.length ≤ 20000) (w : World) (h : Bld w lo hi b 99 (ins, gs, os)) (hhi : hi ≤ w.heap.size) (ha : ∀ w', Fr lo w w' → IntsAt w' av a) (hb : ∀ w', Fr lo w w' → IntsAt w' bv bb) :
    Calls Tryd.prog 98 #[.pointer (some ⟨b, 0, none⟩), .int .i64 kd, av, bv] w fun e w' => ∃ r, e = .returned r ∧ w'.ownsRow w.heap.size 3 1 r a.length (cellsI (wiresF N a.length)) ∧ Bld w' lo hi b 99 (ins, gs ++ pairG kd a bb, os) ∧ Fr lo w w' := by
  obtain ⟨aa, acap, hav, _⟩ := (ha w (Fr.refl _ _)).opened
  subst hav
  have HA : Hid (∀ w', Fr lo w w' → ∀ (i : Nat) (x : Int), a[i]? = some x → ∃ g off : Nat, aa = some ⟨g, off, none⟩ ∧ g < w'.heap.size ∧ w'.cell? ⟨g, off + i, none⟩ = some (.int .i64 x)) := fun w' hw i x hx => by
    obtain ⟨_, _, e, hc⟩ := (ha w' hw).opened
    injection e with e1 e2 e3
    subst e1
    exact hc i x hx
  clear ha
  obtain ⟨ba, bbcap, hbv, _⟩ := (hb w (Fr.refl _ _)).opened
  subst hbv
  have HBB : Hid (∀ w', Fr lo w w' → ∀ (i : Nat) (x : Int), bb[i]? = some x → ∃ g off : Nat, ba = some ⟨g, off, none⟩ ∧ g < w'.heap.size ∧ w'.cell? ⟨g, off + i, none⟩ = some (.int .i64 x)) := fun w' hw i x hx => by
    obtain ⟨_, _, e, hc⟩ := (hb w' hw).opened
    injection e with e1 e2 e3
    subst e1
    exact hc i x hx
  clear hb
  have hlo := h.size
  have HB1 : Hid _ := h
  clear h
  obtain ⟨i0, hif, hz0, hz1, hz2⟩ := info_parts infoInt
  generalize hal : a.length = an at *
  have HAL : Hid (a.length = an) := hal
  rw [← hl]
  have HBL : Hid (bb.length = an) := hl.symm
  clear hl
  clear hal
  go_enter Tryd.func98, Tryd.ntmps98
  go_wp2_with fail
  go_loopw [9, 13] (fun vs i wr => ∃ j : Nat, j ≤ an ∧ i = .int .i64 j ∧ Hid (wr.ownsRow w.heap.size 3 1 vs j (cellsI (wiresF N j))) ∧ Hid (Bld wr lo hi b 99 (ins, gs ++ pairG kd (a.take j) (bb.take j), os)) ∧ Hid (Fr lo w wr)) (fun _ i _ => an - (intOf i).toNat)
  case atStart =>
    refine ⟨0, by omega, rfl, World.ownsRow_nil _ _ _ _, ?_, Fr.refl _ _⟩
    show Bld w lo hi b 99 (ins, gs ++ [], os)
    rw [List.append_nil]
    exact HB1.out
  case round =>
    obtain ⟨j, hj, rfl, HSU, HB, HBl⟩ := hrel
    clear HB1
    by_cases hlt : j < an
    · obtain ⟨va0, vc0, hv0⟩ := own_shape HSU.out
      subst hv0
      obtain ⟨x, hxx⟩ : ∃ x, a[j]? = some x := ⟨a[j]'(by have := HAL.out; omega), List.getElem?_eq_getElem _⟩
      have hta : a.take (j + 1) = a.take j ++ [x] := by rw [List.take_add_one, hxx]; rfl
      obtain ⟨xg, xoff, rfl, _, _⟩ := HA.out wr HBl.out j x hxx
      have HXx : Hid (∀ w', Fr lo w w' → xg < w'.heap.size ∧ w'.cell? ⟨xg, xoff + j, none⟩ = some (.int .i64 x)) := fun w' hw => by
        obtain ⟨g, off, e, h1, h2⟩ := HA.out w' hw j x hxx
        injection e with e1
        injection e1 with e2 e3
        subst e2 e3
        exact ⟨h1, h2⟩
      obtain ⟨y, hxy⟩ : ∃ x, bb[j]? = some x := ⟨bb[j]'(by have := HBL.out; omega), List.getElem?_eq_getElem _⟩
      have htbb : bb.take (j + 1) = bb.take j ++ [y] := by rw [List.take_add_one, hxy]; rfl
      obtain ⟨yg, yoff, rfl, _, _⟩ := HBB.out wr HBl.out j y hxy
      have HXy : Hid (∀ w', Fr lo w w' → yg < w'.heap.size ∧ w'.cell? ⟨yg, yoff + j, none⟩ = some (.int .i64 y)) := fun w' hw => by
        obtain ⟨g, off, e, h1, h2⟩ := HBB.out w' hw j y hxy
        injection e with e1
        injection e1 with e2 e3
        subst e2 e3
        exact ⟨h1, h2⟩
      obtain ⟨G, hG⟩ : ∃ G, gs ++ pairG kd (a.take j) (bb.take j) = G := ⟨_, rfl⟩
      have hGl : G.length = gs.length + j := by
        rw [← hG]
        simp only [List.length_append, pairG_len _ _ _ (show (a.take j).length = (bb.take j).length by simp only [List.length_take]; have := HAL.out; have := HBL.out; omega), List.length_take_of_le (show j ≤ a.length by have := HAL.out; omega)]
      have HNEW : Hid (gs ++ pairG kd (a.take (j + 1)) (bb.take (j + 1)) = G ++ [(kd, x, y)]) := by
        show gs ++ pairG kd (a.take (j + 1)) (bb.take (j + 1)) = _
        rw [hta, htbb, pairG_snoc _ _ _ _ _ (by simp only [List.length_take]; have := HAL.out; have := HBL.out; omega), ← hG, List.append_assoc]
      obtain ⟨S0, hS⟩ : ∃ S0 : Int, N + (j : Int) = S0 := ⟨_, rfl⟩
      have hSG : ins + (G.length : Int) = S0 := by omega
      have HNS : Hid (wiresF N (j + 1) = wiresF N j ++ [S0]) := by
        show wiresF N (j + 1) = _
        rw [wiresF_snoc, hS]
      obtain ⟨SL, hSL⟩ : ∃ SL, wiresF N j = SL := ⟨_, rfl⟩
      rw [hSL] at HSU HNS
      have hGn : G.length ≤ 21000 := by omega
      rw [hG] at HB
      have HGL : Hid (G.length = gs.length + j) := hGl
      clear hSL hG hGl
      clear hta
      clear htbb
      obtain ⟨lx, cx⟩ := HXx.out _ HBl.out
      clear hxx HA
      obtain ⟨ly, cy⟩ := HXy.out _ HBl.out
      clear hxy HBB
      have hjA : (j : Int) < (an : Int) := by omega
      go_wp2_with fail
      go_region_held_law (fun w' => w'.cell? ⟨xg, xoff + j, none⟩ = some (.int .i64 x) ∧ w'.cell? ⟨yg, yoff + j, none⟩ = some (.int .i64 y)) (first | exact ⟨(HXx.out _ HBl7.out).2, (HXy.out _ HBl7.out).2⟩ | exact ⟨(HXx.out _ HBlw.out).2, (HXy.out _ HBlw.out).2⟩ | go_keep) (first | (refine step_append_own rfl _ _ 39 rfl w.heap.size 3 i0 (.int .i64 0) 1 8 Tryd.underlying39 hif hz0 hz1 hz2 rfl (by decide) (.slice va0 j vc0) _ _ (by simp [Act.eval, Act.put]) own6 ⟨w1.heap.size, 0, none⟩ 1 1 [.int .i64 S0] (by simp [Act.eval, Act.put]) rfl (oneI_cells w1 S0) (ints_one [S0]) (by unfold maxLen; omega) (by omega) hs6 ?_; intro v7 w7 own7 grow7; have HBl7 : Hid (Fr lo w w7) := hb6.out.grown grow7 hlo (fun kk hk => (own_block own6 hk).1)) | (go_simp; go_at_call 95; refine (gate5_at lo hi b ins G os S0 kd x y (by omega) hI0 hI1 (by omega) _ ?_).mono ?_; (first | exact HB.out | exact HB.out.drew | exact HB.out.drew.drew); rintro e w1 ⟨rfl, hB1', hbl', hk'⟩; have HBw : Hid (Bld w1 lo hi b 99 (ins, G ++ [(kd, x, y)], os)) := hB1'; have HBlw : Hid (Fr lo w w1) := (by first | exact HBl.out.trans hbl' | exact HBl.out.drew.trans hbl'); have HSw : Hid (w1.ownsRow w.heap.size 3 1 (.slice va0 j vc0) j (cellsI SL)) := own_keepT HSU.out (by first | exact hk'.int | exact ⟨hk'.int.block⟩); clear hB1' hbl' hk'; have own6 := World.ownsRow.alloc HSw.out (.cells #[.int .i64 S0] 3); have hb6 : Hid (Fr lo w (w1.alloc (.cells #[.int .i64 S0] 3))) := HBlw.out.alloc (by have := HBlw.out.size; omega) _; have hB6 : Hid (Bld (w1.alloc (.cells #[.int .i64 S0] 3)) lo hi b 99 (ins, G ++ [(kd, x, y)], os)) := HBw.out.alloc _; have hs6 : w.heap.size ≤ (w1.alloc (.cells #[.int .i64 S0] 3)).heap.size := hb6.out.size))
      all_goals
        clear HB HBl HSU
        have HB7 : Hid (Bld w7 lo hi b 99 (ins, gs ++ pairG kd (a.take (j + 1)) (bb.take (j + 1)), os)) := by
          have h1 := hB6.out.sum own6 hhi (by decide) grow7
          rw [← HNEW.out] at h1
          exact h1
        have HS7 : Hid (w7.ownsRow w.heap.size 3 1 v7 (j + 1) (cellsI (wiresF N (j + 1)))) := by
          show w7.ownsRow w.heap.size 3 1 v7 (j + 1) (cellsI (wiresF N (j + 1)))
          rw [HNS.out]
          unfold cellsI
          rw [List.map_append]
          exact own7
        clear own6 hb6 hB6 own7 grow7 HBw HBlw HSw HNEW HNS
        go_wp2_with fail
        go_roundw
        case rel => exact ⟨j + 1, by omega, by go_num, HS7, HB7, HBl7⟩
        case measure => simp [intOf]; omega
    · obtain rfl : j = an := by omega
      have ta : a.take j = a := List.take_of_length_le (by have := HAL.out; omega)
      have tbb : bb.take j = bb := List.take_of_length_le (by have := HBL.out; omega)
      rw [ta, tbb] at HB
      clear ta HA tbb HBB
      go_wp2_with fail
      go_ret
      exact ⟨_, rfl, HSU.out, HB.out, HBl.out⟩
end Go.Proofs.YtpjllhlbdcanlaaDoor

namespace Go.Proofs.YtpjllhlbdcanlaaDoor
open Go Go.RowKit
open M
set_option linter.unusedVariables false
set_option linter.unusedSimpArgs false

theorem CellT.below {w w' : World} {cb : Nat} {t : TypeId} {v : Value} (h : CellT w cb t v) (hb : Below w.heap.size w w') : CellT w' cb t v := by
  unfold CellT at h ⊢
  rw [hb.block cb (heap_lt h)]
  exact h
theorem cellT_alloc (w : World) (t : TypeId) (v : Value) : CellT (w.alloc (.cells #[v] t)) w.heap.size t v := by
  show (w.heap.push _)[w.heap.size]? = _
  simp
theorem CellT.alloc {w : World} {cb : Nat} {t : TypeId} {v : Value} (h : CellT w cb t v) (o : Obj) : CellT (w.alloc o) cb t v := h.below ((Below.refl _ _).alloc (Nat.le_refl _) o)
/-- a slice's room holds its length -/
def CapN (v : Value) : Prop := ∀ (a : Option Addr) (n c : Nat), v = .slice a n c → n ≤ c
theorem capN_of_own {w : World} {B : Nat} {e : TypeId} {s : Nat} {v : Value} {n : Nat} {xs : List Value} (h : w.ownsRow B e s v n xs) : CapN v := by
  intro a m c e
  rcases h.2 with ⟨h1, h2⟩ | ⟨g, cap, cur, h1, _, _, h2, h3, _⟩
  · rw [h1] at e
    injection e with _ e2 e3
    omega
  · rw [h1] at e
    injection e with _ e2 e3
    omega
/-- the function values, over a circuit at block b -/
def BitsV (w : World) (v : Value) (b : Nat) : Prop := ∃ cb, v = .func (.func 116) #[] #[.pointer (some ⟨cb, 0, none⟩)] ∧ CellT w cb 118 (.pointer (some ⟨b, 0, none⟩))
def NotsV (w : World) (v : Value) (b : Nat) : Prop := ∃ cb, v = .func (.func 118) #[] #[.pointer (some ⟨cb, 0, none⟩)] ∧ CellT w cb 118 (.pointer (some ⟨b, 0, none⟩))
def PairsV (w : World) (v : Value) (b : Nat) : Prop := ∃ cb, v = .func (.func 119) #[] #[.pointer (some ⟨cb, 0, none⟩)] ∧ CellT w cb 118 (.pointer (some ⟨b, 0, none⟩))
def TimesV (w : World) (v : Value) (b : Nat) : Prop := ∃ cc cb bv, v = .func (.func 120) #[] #[.pointer (some ⟨cc, 0, none⟩), .pointer (some ⟨cb, 0, none⟩)] ∧ CellT w cc 130 bv ∧ BitsV w bv b ∧ CellT w cb 118 (.pointer (some ⟨b, 0, none⟩))
def LessV (w : World) (v : Value) (b : Nat) : Prop := ∃ cc cb bv, v = .func (.func 121) #[] #[.pointer (some ⟨cc, 0, none⟩), .pointer (some ⟨cb, 0, none⟩)] ∧ CellT w cc 132 bv ∧ NotsV w bv b ∧ CellT w cb 118 (.pointer (some ⟨b, 0, none⟩))
theorem BitsV.below {w w' : World} {v : Value} {b : Nat} (h : BitsV w v b) (hb : Below w.heap.size w w') : BitsV w' v b := by
  obtain ⟨cb, h1, h2⟩ := h
  exact ⟨cb, h1, h2.below hb⟩
theorem NotsV.below {w w' : World} {v : Value} {b : Nat} (h : NotsV w v b) (hb : Below w.heap.size w w') : NotsV w' v b := by
  obtain ⟨cb, h1, h2⟩ := h
  exact ⟨cb, h1, h2.below hb⟩
theorem PairsV.below {w w' : World} {v : Value} {b : Nat} (h : PairsV w v b) (hb : Below w.heap.size w w') : PairsV w' v b := by
  obtain ⟨cb, h1, h2⟩ := h
  exact ⟨cb, h1, h2.below hb⟩
theorem TimesV.below {w w' : World} {v : Value} {b : Nat} (h : TimesV w v b) (hb : Below w.heap.size w w') : TimesV w' v b := by
  obtain ⟨cc, cb, bv, h1, h2, h3, h4⟩ := h
  exact ⟨cc, cb, bv, h1, h2.below hb, h3.below hb, h4.below hb⟩
theorem LessV.below {w w' : World} {v : Value} {b : Nat} (h : LessV w v b) (hb : Below w.heap.size w w') : LessV w' v b := by
  obtain ⟨cc, cb, bv, h1, h2, h3, h4⟩ := h
  exact ⟨cc, cb, bv, h1, h2.below hb, h3.below hb, h4.below hb⟩
theorem BitsV.keep {w w' : World} {v : Value} {b : Nat} (h : BitsV w v b) (hk : KeepC w w') : BitsV w' v b := by
  obtain ⟨cb, h1, h2⟩ := h
  exact ⟨cb, h1, h2.keep hk⟩
theorem NotsV.keep {w w' : World} {v : Value} {b : Nat} (h : NotsV w v b) (hk : KeepC w w') : NotsV w' v b := by
  obtain ⟨cb, h1, h2⟩ := h
  exact ⟨cb, h1, h2.keep hk⟩
theorem PairsV.keep {w w' : World} {v : Value} {b : Nat} (h : PairsV w v b) (hk : KeepC w w') : PairsV w' v b := by
  obtain ⟨cb, h1, h2⟩ := h
  exact ⟨cb, h1, h2.keep hk⟩
theorem TimesV.keep {w w' : World} {v : Value} {b : Nat} (h : TimesV w v b) (hk : KeepC w w') : TimesV w' v b := by
  obtain ⟨cc, cb, bv, h1, h2, h3, h4⟩ := h
  exact ⟨cc, cb, bv, h1, h2.keep hk, h3.keep hk, h4.keep hk⟩
theorem LessV.keep {w w' : World} {v : Value} {b : Nat} (h : LessV w v b) (hk : KeepC w w') : LessV w' v b := by
  obtain ⟨cc, cb, bv, h1, h2, h3, h4⟩ := h
  exact ⟨cc, cb, bv, h1, h2.keep hk, h3.keep hk, h4.keep hk⟩
theorem below_alloc (w : World) (o : Obj) : Below w.heap.size w (w.alloc o) := (Below.refl _ _).alloc (Nat.le_refl _) o
set_option maxRecDepth 100000 in
theorem bitLayer_any (b : Nat) (w : World) :
    Calls Tryd.prog 102 #[.pointer (some ⟨b, 0, none⟩)] w fun e w' => ∃ cb, e = .returned (.func (.func 116) #[] #[.pointer (some ⟨cb, 0, none⟩)]) ∧ CellT w' cb 118 (.pointer (some ⟨b, 0, none⟩)) ∧ Below w.heap.size w w' := by
  go_enter Tryd.func102, Tryd.ntmps102
  go_wp2_with fail
  go_ret
  exact ⟨_, rfl, cellT_alloc _ _ _, below_alloc _ _⟩
set_option maxRecDepth 100000 in
theorem notLayer_any (b : Nat) (w : World) :
    Calls Tryd.prog 103 #[.pointer (some ⟨b, 0, none⟩)] w fun e w' => ∃ cb, e = .returned (.func (.func 118) #[] #[.pointer (some ⟨cb, 0, none⟩)]) ∧ CellT w' cb 118 (.pointer (some ⟨b, 0, none⟩)) ∧ Below w.heap.size w w' := by
  go_enter Tryd.func103, Tryd.ntmps103
  go_wp2_with fail
  go_ret
  exact ⟨_, rfl, cellT_alloc _ _ _, below_alloc _ _⟩
set_option maxRecDepth 100000 in
theorem pairLayer_any (b : Nat) (w : World) :
    Calls Tryd.prog 104 #[.pointer (some ⟨b, 0, none⟩)] w fun e w' => ∃ cb, e = .returned (.func (.func 119) #[] #[.pointer (some ⟨cb, 0, none⟩)]) ∧ CellT w' cb 118 (.pointer (some ⟨b, 0, none⟩)) ∧ Below w.heap.size w w' := by
  go_enter Tryd.func104, Tryd.ntmps104
  go_wp2_with fail
  go_ret
  exact ⟨_, rfl, cellT_alloc _ _ _, below_alloc _ _⟩
set_option maxRecDepth 100000 in
theorem timesLayer_any (b : Nat) (w : World) :
    Calls Tryd.prog 105 #[.pointer (some ⟨b, 0, none⟩)] w fun e w' => ∃ v, e = .returned v ∧ TimesV w' v b ∧ Below w.heap.size w w' := by
  have hc := cellT_alloc w 118 (.pointer (some ⟨b, 0, none⟩))
  obtain ⟨c1, c2⟩ := hc.cell
  have hb1 := below_alloc w (.cells #[.pointer (some ⟨b, 0, none⟩)] 118)
  have HB1 : Hid _ := hb1
  have HC : Hid _ := hc
  clear hb1 hc
  go_enter Tryd.func105, Tryd.ntmps105
  go_wp2_with fail
  refine (bitLayer_any b _).mono ?_
  rintro e w2 ⟨cb, rfl, hcb, hs2⟩
  have HB2 : Hid (Below w.heap.size w w2) := HB1.out.trans (hs2.mono HB1.out.size)
  have HC2 : Hid (CellT w2 w.heap.size 118 (.pointer (some ⟨b, 0, none⟩))) := CellT.below HC.out hs2
  have HBV : Hid (CellT w2 cb 118 (.pointer (some ⟨b, 0, none⟩))) := hcb
  clear hcb hs2
  go_wp2_with fail
  go_ret
  exact ⟨_, rfl, ⟨_, _, _, rfl, cellT_alloc _ _ _, ⟨_, rfl, CellT.alloc HBV.out _⟩, CellT.alloc HC2.out _⟩, HB2.out.alloc HB2.out.size _⟩
set_option maxRecDepth 100000 in
theorem lessLayer_any (b : Nat) (w : World) :
    Calls Tryd.prog 106 #[.pointer (some ⟨b, 0, none⟩)] w fun e w' => ∃ v, e = .returned v ∧ LessV w' v b ∧ Below w.heap.size w w' := by
  have hc := cellT_alloc w 118 (.pointer (some ⟨b, 0, none⟩))
  obtain ⟨c1, c2⟩ := hc.cell
  have hb1 := below_alloc w (.cells #[.pointer (some ⟨b, 0, none⟩)] 118)
  have HB1 : Hid _ := hb1
  have HC : Hid _ := hc
  clear hb1 hc
  go_enter Tryd.func106, Tryd.ntmps106
  go_wp2_with fail
  refine (notLayer_any b _).mono ?_
  rintro e w2 ⟨cb, rfl, hcb, hs2⟩
  have HB2 : Hid (Below w.heap.size w w2) := HB1.out.trans (hs2.mono HB1.out.size)
  have HC2 : Hid (CellT w2 w.heap.size 118 (.pointer (some ⟨b, 0, none⟩))) := CellT.below HC.out hs2
  have HBV : Hid (CellT w2 cb 118 (.pointer (some ⟨b, 0, none⟩))) := hcb
  clear hcb hs2
  go_wp2_with fail
  go_ret
  exact ⟨_, rfl, ⟨_, _, _, rfl, cellT_alloc _ _ _, ⟨_, rfl, CellT.alloc HBV.out _⟩, CellT.alloc HC2.out _⟩, HB2.out.alloc HB2.out.size _⟩
end Go.Proofs.YtpjllhlbdcanlaaDoor
