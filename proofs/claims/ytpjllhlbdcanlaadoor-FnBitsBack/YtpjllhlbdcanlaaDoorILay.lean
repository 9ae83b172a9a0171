/-
  The nodes of a tree laid in a row: the program's layBehind and nodesOf, and with them TurnTerm and JoinTerms.
-/
import Derived.Test.YtpjllhlbdcanlaaDoorIRoot
import Derived.Test.YtpjllhlbdcanlaaDoorLJoin
import Derived.Test.YtpjllhlbdcanlaaDoorFold2
namespace Go.Proofs.YtpjllhlbdcanlaaDoor
open Go Go.RowKit
open M
set_option linter.unusedVariables false

/-- all but a row is as it was, and the row is the old one or a new one -/
def Laid (w w' : World) (v v' : Value) : Prop := w.grownBy w' v.ownBlock ∧ (v'.ownBlock = v.ownBlock ∨ ∃ k, v'.ownBlock = some k ∧ w.heap.size ≤ k)
theorem Laid.refl (w : World) (v : Value) : Laid w w v v := ⟨⟨rfl, rfl, rfl, Nat.le_refl _, fun _ _ _ => rfl⟩, Or.inl rfl⟩
theorem Laid.apart {w w' : World} {v v' : Value} (h : Laid w w' v v') {k : Nat} (hk : OldBut w v k) : OldBut w' v' k ∧ w'.heap[k]? = w.heap[k]? := by
  refine ⟨⟨Nat.lt_of_lt_of_le hk.1 h.1.size, ?_⟩, h.1.block k hk.1 hk.2⟩
  rcases h.2 with e | ⟨g, e, hg⟩
  · rw [e]
    exact hk.2
  · rw [e]
    intro e2
    have := Option.some.inj e2
    have := hk.1
    omega
theorem Laid.trans {w w1 w2 : World} {v v1 v2 : Value} (h : Laid w w1 v v1) (h' : Laid w1 w2 v1 v2) : Laid w w2 v v2 := by
  refine ⟨⟨h'.1.os.trans h.1.os, h'.1.tape.trans h.1.tape, h'.1.output.trans h.1.output, Nat.le_trans h.1.size h'.1.size, fun k hk hne => ?_⟩, ?_⟩
  · have h1 := h.apart (k := k) ⟨hk, hne⟩
    rw [h'.1.block k h1.1.1 h1.1.2]
    exact h1.2
  · rcases h'.2 with e | ⟨g, e, hg⟩
    · rw [e]
      exact h.2
    · exact Or.inr ⟨g, e, Nat.le_trans h.1.size hg⟩
theorem Laid.tree {w w' : World} {v v' : Value} {t : Tr} {b : Nat} (h : Laid w w' v v') (ht : TrAt w (OldBut w v) t b) : TrAt w' (OldBut w' v') t b :=
  TrAt.frame (fun k hk => (h.apart hk).1) (fun k hk => (h.apart hk).2) ht
theorem flats_take {l : List Tr} {j : Nat} {a : Tr} (h : l[j]? = some a) : (l.take (j + 1)).flatMap Tr.flat = (l.take j).flatMap Tr.flat ++ a.flat := by
  rw [List.take_add_one, h, List.flatMap_append]
  simp
theorem PtrsAt.at {w : World} {S : Nat → Prop} {a : Option Addr} {n cap : Nat} {ps : List Nat} (h : PtrsAt w S (.slice a n cap) ps) {j p : Nat} (hp : ps[j]? = some p) : ∃ g off : Nat, a = some ⟨g, off, none⟩ ∧ S g ∧ w.cell? ⟨g, off + j, none⟩ = some (ptr p) := by
  rcases h.2 with ⟨rfl, _⟩ | ⟨g, off, cap', h1, h2, h3⟩
  · simp at hp
  · simp at h1
    exact ⟨g, off, h1.1, h2, h3 j p hp⟩
end Go.Proofs.YtpjllhlbdcanlaaDoor
