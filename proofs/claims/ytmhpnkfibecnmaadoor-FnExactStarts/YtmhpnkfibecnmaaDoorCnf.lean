/-
  Sets of clauses as values: a struct of two cells; the laws' sizes, copies and comparisons of them, and one that came in.
-/
import Derived.Test.YtmhpnkfibecnmaaDoorIntSS
import Derived.Test.YtmhpnkfibecnmaaDoorOwn5
namespace Go.Proofs.YtmhpnkfibecnmaaDoor
open Go Go.RowKit
open M
set_option linter.unusedVariables false
set_option linter.unusedSimpArgs false

/-- a local of a struct of two cells -/
structure Box2 (w : World) (b : Nat) (e : TypeId) (x y : Value) : Prop where
  heap : w.heap[b]? = some (.cells #[x, y] e (0, 0))
theorem Box2.lt {w : World} {b : Nat} {e : TypeId} {x y : Value} (h : Box2 w b e x y) : b < w.heap.size := (Array.getElem?_eq_some_iff.1 h.heap).1
theorem Box2.cells {w : World} {b : Nat} {e : TypeId} {x y : Value} (h : Box2 w b e x y) : w.cell? ⟨b, 0, none⟩ = some x ∧ w.cell? ⟨b, 1, none⟩ = some y := by
  constructor <;> simp [World.cell?, h.heap]
theorem Box2.below {w w' : World} {B b : Nat} {e : TypeId} {x y : Value} (h : Box2 w b e x y) (hb : Below B w w') (hB : b < B) : Box2 w' b e x y := ⟨by rw [hb.block b hB]; exact h.heap⟩
theorem box2_alloc (w : World) (e : TypeId) (x y : Value) : Box2 (w.alloc (.cells #[x, y] e)) w.heap.size e x y := ⟨by show (w.heap.push _)[w.heap.size]? = _; simp⟩
theorem Box2.alloc {w : World} {b : Nat} {e : TypeId} {x y : Value} (h : Box2 w b e x y) (o : Obj) : Box2 (w.alloc o) b e x y := h.below ((Below.refl w.heap.size w).alloc (Nat.le_refl _) o) h.lt
theorem Box2.frozen {w : World} {b : Nat} {e : TypeId} {x y : Value} (h : Box2 w b e x y) (o : Nat) : w.frozen? ⟨b, o, none⟩ = false := by
  simp [World.frozen?, h.heap]
theorem heap_set2 {w : World} {b o : Nat} {e : TypeId} {x y v : Value} (h : Box2 w b e x y) : (w.setCell ⟨b, o, none⟩ v).heap[b]? = some (.cells (#[x, y].setIfInBounds o v) e (0, 0)) := by
  have hl := h.lt
  have hh := h.heap
  simp [World.setCell, Array.getElem?_modify, hh]
theorem Box2.set0 {w : World} {b : Nat} {e : TypeId} {x y : Value} (h : Box2 w b e x y) (v : Value) : Box2 (w.setCell ⟨b, 0, none⟩ v) b e v y := ⟨heap_set2 h⟩
theorem Box2.set1 {w : World} {b : Nat} {e : TypeId} {x y : Value} (h : Box2 w b e x y) (v : Value) : Box2 (w.setCell ⟨b, 1, none⟩ v) b e x v := ⟨heap_set2 h⟩
theorem Box2.other {w : World} {b b' o : Nat} {e : TypeId} {x y : Value} (h : Box2 w b e x y) (hb : b ≠ b') (v : Value) : Box2 (w.setCell ⟨b', o, none⟩ v) b e x y := ⟨by rw [Below.heap_setCell _ _ _ _ hb]; exact h.heap⟩
/-- clauses: how many names, and lists of literals -/
abbrev Cn := Int × List (List Int)
def AtCnf (w : World) (v : Value) (c : Cn) : Prop := Fit c.1 ∧ ∃ s, v = .agg #[.int .i64 c.1, s] ∧ IntsSS w s c.2
def CnOk (c : Cn) : Prop := Fit c.1 ∧ c.2.length ≤ 1048576 ∧ ∀ b ∈ c.2, b.length ≤ 1048576
def OwnCnf (w : World) (lo hi : Nat) (v : Value) (c : Cn) : Prop := hi ≤ w.heap.size ∧ ∃ s us, v = .agg #[.int .i64 c.1, s] ∧ ISO w lo s us c.2 ∧ (∀ k, s.ownBlock = some k → k < hi) ∧ ∀ (i : Nat) (u : Value) (k : Nat), us[i]? = some u → u.ownBlock = some k → k < hi
theorem AtCnf.below {w w' : World} {v : Value} {c : Cn} (h : AtCnf w v c) (hb : Below w.heap.size w w') : AtCnf w' v c := by
  obtain ⟨h0, s, hv, h1⟩ := h
  exact ⟨h0, s, hv, h1.below hb⟩
theorem AtCnf.shape {w : World} {v : Value} {c : Cn} (h : AtCnf w v c) : ∃ sa sn sc, v = .agg #[.int .i64 c.1, .slice sa sn sc] := by
  obtain ⟨h0, s, hv, h1⟩ := h
  obtain ⟨a, cap, e⟩ := h1.shape
  exact ⟨a, _, cap, by rw [hv, e]⟩
theorem OwnCnf.shape {w : World} {lo hi : Nat} {v : Value} {c : Cn} (h : OwnCnf w lo hi v c) : ∃ sa sn sc, v = .agg #[.int .i64 c.1, .slice sa sn sc] := by
  obtain ⟨_, s, us, hv, h1, _⟩ := h
  obtain ⟨a, cap, e⟩ := own_shape h1.1
  exact ⟨a, _, cap, by rw [hv, e]⟩
theorem own_same {w w' : World} {lo hi n : Nat} {e : TypeId} {s : Nat} {v : Value} {xs : List Value} (h : w.ownsRow lo e s v n xs) (hh : ∀ k, v.ownBlock = some k → k < hi) (hb : ∀ i, lo ≤ i → i < hi → w'.heap[i]? = w.heap[i]?) : w'.ownsRow lo e s v n xs := by
  obtain ⟨h1, h2⟩ := h
  refine ⟨h1, ?_⟩
  rcases h2 with h2 | ⟨g, cap, cur, hv, hB, hg, r⟩
  · exact Or.inl h2
  · exact Or.inr ⟨g, cap, cur, hv, hB, by rw [hb g hB (hh g (by rw [hv]; rfl))]; exact hg, r⟩
theorem OwnCnf.same {w w' : World} {lo hi : Nat} {v : Value} {c : Cn} (h : OwnCnf w lo hi v c) (hs : w.heap.size ≤ w'.heap.size) (hb : ∀ i, lo ≤ i → i < hi → w'.heap[i]? = w.heap[i]?) : OwnCnf w' lo hi v c := by
  obtain ⟨h0, s, us, hv, ⟨h1, h2, h3⟩, h4, h5⟩ := h
  refine ⟨by omega, s, us, hv, ⟨own_same h1 h4 hb, h2, fun i u b hu hx => own_same (h3 i u b hu hx) (fun k hk => h5 i u k hu hk) hb⟩, h4, h5⟩
theorem OwnCnf.hi {w : World} {lo hi : Nat} {v : Value} {c : Cn} (h : OwnCnf w lo hi v c) : hi ≤ w.heap.size := h.1
theorem OwnCnf.reads {w : World} {lo hi : Nat} {v : Value} {c : Cn} (h : OwnCnf w lo hi v c) (ok : CnOk c) : AtCnf w v c := by
  obtain ⟨h0, s, us, hv, h1, h4, h5⟩ := h
  exact ⟨ok.1, s, hv, h1.ss ok.2.1 ok.2.2⟩
theorem OwnCnf.hands {w : World} {lo hi : Nat} {v : Value} {c : Cn} (h : OwnCnf w lo hi v c) (ok : CnOk c) : AtCnf w v c := h.reads ok
theorem sumI_mem : ∀ (l : List (List Int)) (b : List Int), b ∈ l → b.length ≤ sumI l
  | [], _, h => by simp at h
  | x :: l, b, h => by
    simp only [List.mem_cons] at h
    simp only [sumI]
    rcases h with rfl | h
    · omega
    · have := sumI_mem l b h
      omega
theorem ownR_low {w : World} {B C n : Nat} {e : TypeId} {s : Nat} {v : Value} {xs : List Value} (h : w.ownsRow B e s v n xs) (hc : C ≤ B) : w.ownsRow C e s v n xs := by
  obtain ⟨h1, h2⟩ := h
  refine ⟨h1, ?_⟩
  rcases h2 with h2 | ⟨g, cap, cur, hv, hB, r⟩
  · exact Or.inl h2
  · exact Or.inr ⟨g, cap, cur, hv, Nat.le_trans hc hB, r⟩
theorem OwnCnf.weak {w : World} {lo lo' hi hi' : Nat} {v : Value} {c : Cn} (h : OwnCnf w lo hi v c) (h1 : lo' ≤ lo) (h2 : hi ≤ hi') (h3 : hi' ≤ w.heap.size) : OwnCnf w lo' hi' v c := by
  obtain ⟨h0, s, us, hv, ⟨a1, a2, a3⟩, h4, h5⟩ := h
  exact ⟨h3, s, us, hv, ⟨ownR_low a1 h1, a2, fun i u b hu hx => ownR_low (a3 i u b hu hx) h1⟩, fun k hk => Nat.lt_of_lt_of_le (h4 k hk) h2, fun i u k hu hk => Nat.lt_of_lt_of_le (h5 i u k hu hk) h2⟩
theorem ownCnf_of {w : World} {lo : Nat} {n : Int} {s : Value} {us : List Value} {l : List (List Int)} (h : ISO w lo s us l) : OwnCnf w lo w.heap.size (.agg #[.int .i64 n, s]) (n, l) :=
  ⟨Nat.le_refl _, s, us, rfl, h, fun k hk => (own_block h.1 hk).2, fun i u k hu hk => h.under i u k hu hk⟩
theorem trod_two {H : Type} {enc : TypeId × Value → H} {P : Program} {w : World} {base : Nat} {spare : Nat → Bool} {held : Bool} {t : TypeId} {f0 f1 : Field} {fuel : Nat} {cs : List Value} {x : DataW H × List MemPlace} (ht : P.underlying t = some (.struct #[f0, f1])) (h : DataW.trod enc P w base spare held fuel t cs = some x) :
    ∃ y0 y1 n, x = (.agg [y0.1, y1.1], y0.2 ++ y1.2) ∧ cs.length = P.cellsOf t ∧ DataW.trod enc P w base spare held n f0.type ((cs.drop f0.offset).take (P.cellsOf f0.type)) = some y0 ∧
      DataW.trod enc P w base spare held n f1.type ((cs.drop f1.offset).take (P.cellsOf f1.type)) = some y1 := by
  obtain ⟨xs, n, _, rfl, hl, hlen, hf⟩ := DataW.trod_struct ht h
  match xs, hlen with
  | [y0, y1], _ => exact ⟨y0, y1, n, by simp, hl, by simpa using hf 0 f0 rfl, by simpa using hf 1 f1 rfl⟩
end Go.Proofs.YtmhpnkfibecnmaaDoor
