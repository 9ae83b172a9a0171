/-
  Lists of words and of nodes that a call owns, between two blocks: the laws' copies and marks of them.
-/
import Derived.Test.YthamdefkcjfjpaaOwn3
import Derived.Test.YthamdefkcjfjpaaStrong
import Derived.Test.YthamdefkcjfjpaaU64
import Derived.Test.YthamdefkcjfjpaaTurn
namespace Go.Proofs.Ythamdefkcjfjpaa
open Go Go.RowKit
open M
set_option linter.unusedVariables false

def marksU (k : Int) (n : Nat) : List Value := (List.range n).map fun i : Nat => Value.int .u64 (k + (i : Int))
theorem marksU_len (k : Int) (n : Nat) : (marksU k n).length = n := by simp [marksU]
theorem marksU_at (k : Int) (n i : Nat) (h : i < n) : (marksU k n)[i]? = some (.int .u64 (k + i)) := by simp [marksU, h]
theorem marksU_set (k : Int) (n j : Nat) (xs : List Value) (hx : xs.length = n) (hj : j < n) : (marksU k j ++ xs.drop j).set j (.int .u64 (k + j)) = marksU k (j + 1) ++ xs.drop (j + 1) := by
  rw [List.set_append_right _ _ (by rw [marksU_len]; omega), marksU_len, Nat.sub_self]
  have e1 : marksU k (j + 1) = marksU k j ++ [.int .u64 (k + j)] := by simp [marksU, List.range_succ]
  rw [e1, List.append_assoc]
  congr 1
  rw [List.drop_eq_getElem_cons (by omega)]
  rfl
/-- a slice whose elements are these words -/
def WordsAt (w : World) (v : Value) (t : List Int) : Prop := (∀ s ∈ t, 0 ≤ s ∧ s ≤ 18446744073709551615) ∧ t.length ≤ 9223372036854775807 ∧ StAt w v t
theorem WordsAt.below {w w' : World} {v : Value} {t : List Int} (h : WordsAt w v t) (hb : Below w.heap.size w w') : WordsAt w' v t := ⟨h.1, h.2.1, h.2.2.below hb⟩
theorem WordsAt.shape {w : World} {v : Value} {t : List Int} (h : WordsAt w v t) : ∃ (a : Option Addr) (cap : Nat), v = .slice a t.length cap := h.2.2.shape
def WsOk (t : List Int) : Prop := (∀ s ∈ t, 0 ≤ s ∧ s ≤ 18446744073709551615) ∧ t.length ≤ 1048576
def OwnUS (w : World) (lo hi : Nat) (v : Value) (t : List Int) : Prop := RowIn w lo hi 53 1 v t.length (cellsU t)
def MarkUS (w : World) (lo hi : Nat) (v : Value) (t : List Int) (k : Int) : Prop := RowIn w lo hi 53 1 v t.length (marksU k t.length)
theorem OwnUS.same {w w' : World} {lo hi : Nat} {v : Value} {c : List Int} (h : OwnUS w lo hi v c) (hs : w.heap.size ≤ w'.heap.size) (hb : ∀ i, lo ≤ i → i < hi → w'.heap[i]? = w.heap[i]?) : OwnUS w' lo hi v c := RowIn.same h hs hb
theorem MarkUS.same {w w' : World} {lo hi : Nat} {v : Value} {c : List Int} {k : Int} (h : MarkUS w lo hi v c k) (hs : w.heap.size ≤ w'.heap.size) (hb : ∀ i, lo ≤ i → i < hi → w'.heap[i]? = w.heap[i]?) : MarkUS w' lo hi v c k := RowIn.same h hs hb
theorem OwnUS.hi {w : World} {lo hi : Nat} {v : Value} {c : List Int} (h : OwnUS w lo hi v c) : hi ≤ w.heap.size := h.2.2
theorem MarkUS.hi {w : World} {lo hi : Nat} {v : Value} {c : List Int} {k : Int} (h : MarkUS w lo hi v c k) : hi ≤ w.heap.size := h.2.2
theorem OwnUS.reads {w : World} {lo hi : Nat} {v : Value} {c : List Int} (h : OwnUS w lo hi v c) (ok : WsOk c) : WordsAt w v c := ⟨ok.1, by have := ok.2; omega, st_of_own h.1⟩
theorem OwnUS.shape {w : World} {lo hi : Nat} {v : Value} {c : List Int} (h : OwnUS w lo hi v c) : ∃ a n cap, v = .slice a n cap := by
  obtain ⟨a, cap, e⟩ := own_shape h.1
  exact ⟨a, _, cap, e⟩
def AtUS (w : World) (v : Value) (t : List Int) : Prop := WordsAt w v t ∧ Strong w v t.length
theorem AtUS.below {w w' : World} {v : Value} {t : List Int} (h : AtUS w v t) (hb : Below w.heap.size w w') : AtUS w' v t := ⟨h.1.below hb, h.2.below hb⟩
theorem OwnUS.hands {w : World} {lo hi : Nat} {v : Value} {c : List Int} (h : OwnUS w lo hi v c) (ok : WsOk c) : AtUS w v c := ⟨h.reads ok, strong_of h.1⟩
/-- bools, with as much room as there are -/
def CapV (v : Value) : Prop := ∀ (a : Option Addr) (n c : Nat), v = .slice a n c → n ≤ c
theorem capV_of_own {w : World} {B : Nat} {e : TypeId} {s : Nat} {v : Value} {n : Nat} {xs : List Value} (h : w.ownsRow B e s v n xs) : CapV v := by
  intro a m c e1
  rcases h.2 with ⟨h1, h2⟩ | ⟨g, cap, cur, h1, _, _, h4, _⟩
  · rw [h1] at e1
    injection e1 with _ e2 e3
    omega
  · rw [h1] at e1
    injection e1 with _ e2 e3
    omega
def AtBC (w : World) (v : Value) (t : List Bool) : Prop := AtBS w v t ∧ CapV v
theorem AtBC.below {w w' : World} {v : Value} {t : List Bool} (h : AtBC w v t) (hb : Below w.heap.size w w') : AtBC w' v t := ⟨h.1.below hb, h.2⟩
theorem OwnBS.handsC {w : World} {lo hi : Nat} {v : Value} {c : List Bool} (h : OwnBS w lo hi v c) (ok : c.length ≤ 1048576) : AtBC w v c := ⟨h.hands ok, capV_of_own h.1⟩
/-- nodes -/
def NsOk (t : List Nd) : Prop := (∀ x ∈ t, NdOk x) ∧ t.length ≤ 1048576
def AtNS (w : World) (v : Value) (t : List Nd) : Prop := NodesAt w v t ∧ Strong w v t.length
theorem AtNS.below {w w' : World} {v : Value} {t : List Nd} (h : AtNS w v t) (hb : Below w.heap.size w w') : AtNS w' v t := ⟨h.1.below hb, h.2.below hb⟩
end Go.Proofs.Ythamdefkcjfjpaa
