/-
  The program's terms as they lie in memory: nodes that are pointed to, each with a row of pointers to its parts; S holds of all blocks that a tree uses.
-/
import Derived.Test.YtjbfembblgkakaaDoorKind
import Derived.Test.YtjbfembblgkakaaDoorTree
namespace Go.Proofs.YtjbfembblgkakaaDoor
open Go Go.RowKit
open M
set_option linter.unusedVariables false

abbrev ptr (b : Nat) : Value := .pointer (some ⟨b, 0, none⟩)
abbrev ptrs (bs : List Nat) : List Value := bs.map ptr
/-- a slice whose elements point to these blocks -/
def PtrsAt (w : World) (S : Nat → Prop) (v : Value) (bs : List Nat) : Prop :=
  bs.length ≤ 9223372036854775807 ∧ ((bs = [] ∧ ∃ (a : Option Addr) (cap : Nat), v = .slice a 0 cap) ∨
  ∃ g off cap : Nat, v = .slice (some ⟨g, off, none⟩) bs.length cap ∧ S g ∧ ∀ (i b : Nat), bs[i]? = some b → w.cell? ⟨g, off + i, none⟩ = some (ptr b))
/-- a node in memory: its op, its number, its kind, its size, its parts -/
def NodeAt (w : World) (S : Nat → Prop) (b : Nat) (x : Nd) (kind : Int) (size : Nat) (ps : List Nat) : Prop :=
  S b ∧ w.cell? ⟨b, 0, none⟩ = some (.int .i64 x.1) ∧ w.cell? ⟨b, 1, none⟩ = some (.int .u64 x.2) ∧ w.cell? ⟨b, 2, none⟩ = some (.int .i64 kind) ∧ w.cell? ⟨b, 3, none⟩ = some (.int .i64 size) ∧
  ∃ v, w.cell? ⟨b, 4, none⟩ = some v ∧ PtrsAt w S v ps
def TrAt (w : World) (S : Nat → Prop) : Tr → Nat → Prop
  | .leaf x, b => NodeAt w S b x (ownOf x.1) 1 []
  | .one x a, b => ∃ p, NodeAt w S b x (ownOf x.1) (Tr.one x a).size [p] ∧ TrAt w S a p
  | .two x a c, b => ∃ p q, NodeAt w S b x (ownOf x.1) (Tr.two x a c).size [p, q] ∧ TrAt w S a p ∧ TrAt w S c q
/-- trees side by side -/
def TrsAt (w : World) (S : Nat → Prop) (l : List Tr) (ps : List Nat) : Prop := l.length = ps.length ∧ ∀ (i : Nat) (a : Tr) (p : Nat), l[i]? = some a → ps[i]? = some p → TrAt w S a p
theorem PtrsAt.frame {w w' : World} {S S' : Nat → Prop} {v : Value} {bs : List Nat} (h : PtrsAt w S v bs) (hs : ∀ k, S k → S' k) (hk : ∀ k, S k → w'.heap[k]? = w.heap[k]?) : PtrsAt w' S' v bs := by
  obtain ⟨h1, h2⟩ := h
  refine ⟨h1, ?_⟩
  rcases h2 with h2 | ⟨g, off, cap, hv, hg, hc⟩
  · exact Or.inl h2
  · refine Or.inr ⟨g, off, cap, hv, hs g hg, fun i b hb => ?_⟩
    rw [World.cell?_of_block (w := w) (a := ⟨g, off + i, none⟩) (hk g hg)]
    exact hc i b hb
theorem NodeAt.frame {w w' : World} {S S' : Nat → Prop} {b : Nat} {x : Nd} {kind : Int} {size : Nat} {ps : List Nat} (h : NodeAt w S b x kind size ps) (hs : ∀ k, S k → S' k) (hk : ∀ k, S k → w'.heap[k]? = w.heap[k]?) : NodeAt w' S' b x kind size ps := by
  obtain ⟨h0, h1, h2, h3, h4, v, h5, h6⟩ := h
  have hb := hk b h0
  exact ⟨hs b h0, by rw [World.cell?_of_block (w := w) (a := ⟨b, 0, none⟩) hb]; exact h1, by rw [World.cell?_of_block (w := w) (a := ⟨b, 1, none⟩) hb]; exact h2, by rw [World.cell?_of_block (w := w) (a := ⟨b, 2, none⟩) hb]; exact h3, by rw [World.cell?_of_block (w := w) (a := ⟨b, 3, none⟩) hb]; exact h4, v, by rw [World.cell?_of_block (w := w) (a := ⟨b, 4, none⟩) hb]; exact h5, h6.frame hs hk⟩
theorem TrAt.frame {w w' : World} {S S' : Nat → Prop} (hs : ∀ k, S k → S' k) (hk : ∀ k, S k → w'.heap[k]? = w.heap[k]?) : ∀ {t : Tr} {b : Nat}, TrAt w S t b → TrAt w' S' t b
  | .leaf x, b, h => NodeAt.frame h hs hk
  | .one x a, b, ⟨p, h1, h2⟩ => ⟨p, h1.frame hs hk, TrAt.frame hs hk h2⟩
  | .two x a c, b, ⟨p, q, h1, h2, h3⟩ => ⟨p, q, h1.frame hs hk, TrAt.frame hs hk h2, TrAt.frame hs hk h3⟩
theorem TrsAt.frame {w w' : World} {S S' : Nat → Prop} {l : List Tr} {ps : List Nat} (hs : ∀ k, S k → S' k) (hk : ∀ k, S k → w'.heap[k]? = w.heap[k]?) (h : TrsAt w S l ps) : TrsAt w' S' l ps :=
  ⟨h.1, fun i a p ha hp => TrAt.frame hs hk (h.2 i a p ha hp)⟩
theorem trAt_open {w : World} {S : Nat → Prop} {t : Tr} {b : Nat} (h : TrAt w S t b) : ∃ ps, NodeAt w S b t.nd t.kind t.size ps ∧ TrsAt w S t.parts ps := by
  cases t with
  | leaf x => exact ⟨[], h, rfl, fun i a p ha _ => by simp [Tr.parts] at ha⟩
  | one x a =>
    obtain ⟨p, h1, h2⟩ := h
    refine ⟨[p], h1, rfl, fun i c q hc hq => ?_⟩
    match i with
    | 0 =>
      simp [Tr.parts] at hc hq
      subst hc hq
      exact h2
    | i + 1 => simp at hq
  | two x a c =>
    obtain ⟨p, q, h1, h2, h3⟩ := h
    refine ⟨[p, q], h1, rfl, fun i d r hd hr => ?_⟩
    match i with
    | 0 =>
      simp [Tr.parts] at hd hr
      subst hd hr
      exact h2
    | 1 =>
      simp [Tr.parts] at hd hr
      subst hd hr
      exact h3
    | i + 2 => simp at hr
theorem trAt_shut {w : World} {S : Nat → Prop} {x : Nd} {l : List Tr} {b : Nat} {ps : List Nat} (hl : l.length ≤ 2) (h : NodeAt w S b x (ownOf x.1) (1 + sizes l) ps) (hp : TrsAt w S l ps) : TrAt w S (Tr.over x l) b := by
  obtain ⟨h1, h2⟩ := hp
  match l, hl, ps, h, h1, h2 with
  | [], _, [], h, _, _ => exact h
  | [a], _, [p], h, _, h2 => exact ⟨p, h, h2 0 a p rfl rfl⟩
  | [a, c], _, [p, q], h, _, h2 =>
    have e : 1 + sizes [a, c] = (Tr.two x a c).size := by simp only [sizes, Tr.size]; omega
    rw [e] at h
    exact ⟨p, q, h, h2 0 a p rfl rfl, h2 1 c q rfl rfl⟩
  | _ :: _ :: _ :: _, hl, _, _, _, _ => simp at hl
/-- all that lies in a world -/
abbrev Old (w : World) : Nat → Prop := fun k => k < w.heap.size
/-- all that lies in a world but the block of a row -/
abbrev OldBut (w : World) (v : Value) : Nat → Prop := fun k => k < w.heap.size ∧ some k ≠ v.ownBlock
theorem TrAt.below {w w' : World} {t : Tr} {b : Nat} (h : TrAt w (Old w) t b) (hb : Below w.heap.size w w') : TrAt w' (Old w') t b :=
  TrAt.frame (fun k hk => Nat.lt_of_lt_of_le hk hb.size) (fun k hk => hb.block k hk) h
theorem TrsAt.below {w w' : World} {l : List Tr} {ps : List Nat} (h : TrsAt w (Old w) l ps) (hb : Below w.heap.size w w') : TrsAt w' (Old w') l ps :=
  TrsAt.frame (fun k hk => Nat.lt_of_lt_of_le hk hb.size) (fun k hk => hb.block k hk) h
theorem PtrsAt.below {w w' : World} {v : Value} {bs : List Nat} (h : PtrsAt w (Old w) v bs) (hb : Below w.heap.size w w') : PtrsAt w' (Old w') v bs :=
  PtrsAt.frame h (fun k hk => Nat.lt_of_lt_of_le hk hb.size) (fun k hk => hb.block k hk)
/-- a row that is owned points -/
theorem ptrs_of_own {w : World} {B : Nat} {v : Value} {bs : List Nat} (h : w.ownsRow B 101 1 v bs.length (ptrs bs)) (hl : bs.length ≤ 9223372036854775807) : PtrsAt w (Old w) v bs := by
  refine ⟨hl, ?_⟩
  rcases h.2 with ⟨rfl, h0⟩ | ⟨g, cap, cur, rfl, hg, hh, _, _, _, ht⟩
  · exact Or.inl ⟨List.length_eq_zero_iff.1 h0, none, 0, rfl⟩
  · refine Or.inr ⟨g, 0, cap, rfl, (Array.getElem?_eq_some_iff.1 hh).1, fun i b hb => ?_⟩
    have hc := h.cells (g := g) rfl i (ptr b) (by simp [ptrs, hb])
    rw [show ((⟨g, 0, none⟩ : Addr).add i) = ⟨g, 0 + i, none⟩ from by unfold Addr.add; split <;> simp_all] at hc
    exact hc
theorem heap_set {w : World} {b o : Nat} {v : Value} {c : Array Value} {e : TypeId} {f : Nat × Nat} (h : w.heap[b]? = some (.cells c e f)) : (w.setCell ⟨b, o, none⟩ v).heap[b]? = some (.cells (c.setIfInBounds o v) e f) := by
  simp [World.setCell, Array.getElem?_modify, h]
theorem cell_heap {w : World} {b o : Nat} {c : Array Value} {e : TypeId} {f : Nat × Nat} (h : w.heap[b]? = some (.cells c e f)) : w.cell? ⟨b, o, none⟩ = c[o]? := by
  simp [World.cell?, h]
end Go.Proofs.YtjbfembblgkakaaDoor
