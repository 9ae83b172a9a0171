/-
  Lists of words and of nodes that a call owns, between two blocks: the laws' copies and marks of them.
-/
import Derived.Test.YtmhpnkfibecnmaaDoorOwn3
import Derived.Test.YtmhpnkfibecnmaaDoorStrong
import Derived.Test.YtmhpnkfibecnmaaDoorU64
import Derived.Test.YtmhpnkfibecnmaaDoorTurn
namespace Go.Proofs.YtmhpnkfibecnmaaDoor
open Go Go.RowKit
open M
set_option linter.unusedVariables false

def marksU (k : Int) (n : Nat) : List Value := (List.range n).map fun i : Nat => Value.int .u64 (k + (i : Int))
theorem marksU_len (k : Int) (n : Nat) : (marksU k n).length = n := by simp [marksU]
theorem marksU_at (k : Int) (n i : Nat) (h : i < n) : (marksU k n)[i]? = some (.int .u64 (k + i)) := by simp [marksU, h]
theorem marksU_set (k : Int) (n j : Nat) (xs : List Value) (hx : xs.length = n) (hj : j < n) : (marksU k j ++ xs.drop j).set j (.int .u64 (k + j)) = marksU k (j + 1) ++ xs.drop (j + 1) := by
  rw [List.set_append_right _ _ (by rw [marksU_len]; omega), marksU_len, Nat.sub_self]
  have e1 : marksU k (j + 1) = marksU k j ++ [.int .u64 (k + j)] := by simp [marksU, List.range_succ]
  rw [e1, List.append_assoc]
  congr 1
  rw [List.drop_eq_getElem_cons (by omega)]
  rfl
/-- a slice whose elements are these words -/
def WordsAt (w : World) (v : Value) (t : List Int) : Prop := (∀ s ∈ t, 0 ≤ s ∧ s ≤ 18446744073709551615) ∧ t.length ≤ 9223372036854775807 ∧ StAt w v t
theorem WordsAt.below {w w' : World} {v : Value} {t : List Int} (h : WordsAt w v t) (hb : Below w.heap.size w w') : WordsAt w' v t := ⟨h.1, h.2.1, h.2.2.below hb⟩
theorem WordsAt.shape {w : World} {v : Value} {t : List Int} (h : WordsAt w v t) : ∃ (a : Option Addr) (cap : Nat), v = .slice a t.length cap := h.2.2.shape
def WsOk (t : List Int) : Prop := (∀ s ∈ t, 0 ≤ s ∧ s ≤ 18446744073709551615) ∧ t.length ≤ 1048576
def OwnUS (w : World) (lo hi : Nat) (v : Value) (t : List Int) : Prop := RowIn w lo hi 46 1 v t.length (cellsU t)
def MarkUS (w : World) (lo hi : Nat) (v : Value) (t : List Int) (k : Int) : Prop := RowIn w lo hi 46 1 v t.length (marksU k t.length)
theorem OwnUS.same {w w' : World} {lo hi : Nat} {v : Value} {c : List Int} (h : OwnUS w lo hi v c) (hs : w.heap.size ≤ w'.heap.size) (hb : ∀ i, lo ≤ i → i < hi → w'.heap[i]? = w.heap[i]?) : OwnUS w' lo hi v c := RowIn.same h hs hb
theorem MarkUS.same {w w' : World} {lo hi : Nat} {v : Value} {c : List Int} {k : Int} (h : MarkUS w lo hi v c k) (hs : w.heap.size ≤ w'.heap.size) (hb : ∀ i, lo ≤ i → i < hi → w'.heap[i]? = w.heap[i]?) : MarkUS w' lo hi v c k := RowIn.same h hs hb
theorem OwnUS.hi {w : World} {lo hi : Nat} {v : Value} {c : List Int} (h : OwnUS w lo hi v c) : hi ≤ w.heap.size := h.2.2
theorem MarkUS.hi {w : World} {lo hi : Nat} {v : Value} {c : List Int} {k : Int} (h : MarkUS w lo hi v c k) : hi ≤ w.heap.size := h.2.2
theorem OwnUS.reads {w : World} {lo hi : Nat} {v : Value} {c : List Int} (h : OwnUS w lo hi v c) (ok : WsOk c) : WordsAt w v c := ⟨ok.1, by have := ok.2; omega, st_of_own h.1⟩
theorem OwnUS.shape {w : World} {lo hi : Nat} {v : Value} {c : List Int} (h : OwnUS w lo hi v c) : ∃ a n cap, v = .slice a n cap := by
  obtain ⟨a, cap, e⟩ := own_shape h.1
  exact ⟨a, _, cap, e⟩
def AtUS (w : World) (v : Value) (t : List Int) : Prop := WordsAt w v t ∧ Strong w v t.length
theorem AtUS.below {w w' : World} {v : Value} {t : List Int} (h : AtUS w v t) (hb : Below w.heap.size w w') : AtUS w' v t := ⟨h.1.below hb, h.2.below hb⟩
theorem OwnUS.hands {w : World} {lo hi : Nat} {v : Value} {c : List Int} (h : OwnUS w lo hi v c) (ok : WsOk c) : AtUS w v c := ⟨h.reads ok, strong_of h.1⟩
/-- bools, with as much room as there are -/
def CapV (v : Value) : Prop := ∀ (a : Option Addr) (n c : Nat), v = .slice a n c → n ≤ c
theorem capV_of_own {w : World} {B : Nat} {e : TypeId} {s : Nat} {v : Value} {n : Nat} {xs : List Value} (h : w.ownsRow B e s v n xs) : CapV v := by
  intro a m c e1
  rcases h.2 with ⟨h1, h2⟩ | ⟨g, cap, cur, h1, _, _, h4, _⟩
  · rw [h1] at e1
    injection e1 with _ e2 e3
    omega
  · rw [h1] at e1
    injection e1 with _ e2 e3
    omega
def AtBC (w : World) (v : Value) (t : List Bool) : Prop := AtBS w v t ∧ CapV v
theorem AtBC.below {w w' : World} {v : Value} {t : List Bool} (h : AtBC w v t) (hb : Below w.heap.size w w') : AtBC w' v t := ⟨h.1.below hb, h.2⟩
theorem OwnBS.handsC {w : World} {lo hi : Nat} {v : Value} {c : List Bool} (h : OwnBS w lo hi v c) (ok : c.length ≤ 1048576) : AtBC w v c := ⟨h.hands ok, capV_of_own h.1⟩
/-- nodes -/
def NsOk (t : List Nd) : Prop := (∀ x ∈ t, NdOk x) ∧ t.length ≤ 1048576
def OwnNS (w : World) (lo hi : Nat) (v : Value) (t : List Nd) : Prop := RowIn w lo hi 159 2 v t.length (flat t)
def MarkNS (w : World) (lo hi : Nat) (v : Value) (t : List Nd) (k : Int) : Prop := RowIn w lo hi 159 2 v t.length (marks2 k t.length)
theorem OwnNS.same {w w' : World} {lo hi : Nat} {v : Value} {c : List Nd} (h : OwnNS w lo hi v c) (hs : w.heap.size ≤ w'.heap.size) (hb : ∀ i, lo ≤ i → i < hi → w'.heap[i]? = w.heap[i]?) : OwnNS w' lo hi v c := RowIn.same h hs hb
theorem MarkNS.same {w w' : World} {lo hi : Nat} {v : Value} {c : List Nd} {k : Int} (h : MarkNS w lo hi v c k) (hs : w.heap.size ≤ w'.heap.size) (hb : ∀ i, lo ≤ i → i < hi → w'.heap[i]? = w.heap[i]?) : MarkNS w' lo hi v c k := RowIn.same h hs hb
theorem OwnNS.hi {w : World} {lo hi : Nat} {v : Value} {c : List Nd} (h : OwnNS w lo hi v c) : hi ≤ w.heap.size := h.2.2
theorem MarkNS.hi {w : World} {lo hi : Nat} {v : Value} {c : List Nd} {k : Int} (h : MarkNS w lo hi v c k) : hi ≤ w.heap.size := h.2.2
theorem OwnNS.reads {w : World} {lo hi : Nat} {v : Value} {c : List Nd} (h : OwnNS w lo hi v c) (ok : NsOk c) : NodesAt w v c := nodes_of_own ok.1 (by have := ok.2; omega) h.1
theorem OwnNS.shape {w : World} {lo hi : Nat} {v : Value} {c : List Nd} (h : OwnNS w lo hi v c) : ∃ a n cap, v = .slice a n cap := by
  obtain ⟨a, cap, e⟩ := own_shape h.1
  exact ⟨a, _, cap, e⟩
def AtNS (w : World) (v : Value) (t : List Nd) : Prop := NodesAt w v t ∧ Strong w v t.length
theorem AtNS.below {w w' : World} {v : Value} {t : List Nd} (h : AtNS w v t) (hb : Below w.heap.size w w') : AtNS w' v t := ⟨h.1.below hb, h.2.below hb⟩
theorem OwnNS.hands {w : World} {lo hi : Nat} {v : Value} {c : List Nd} (h : OwnNS w lo hi v c) (ok : NsOk c) : AtNS w v c := ⟨h.reads ok, strong_of h.1⟩
theorem toNS_any (v : Value) (t : List Nd) (hl : NsOk t) (w : World) (h : NodesAt w v t) :
    Calls Tryd.prog 87 #[v] w fun e w' => ∃ v', e = .returned v' ∧ OwnNS w' w.heap.size w'.heap.size v' t ∧ Below w.heap.size w w' := by
  refine (toNodeS_any v t hl.2 w h).mono ?_
  rintro e w' ⟨v', he, ho, hb⟩
  exact ⟨v', he, rowIn_of ho, hb⟩
theorem markNS_any (v : Value) (c : List Nd) (lo hi : Nat) (k : Int) (h1 : NsOk c) (hk0 : 0 ≤ k) (hk : k ≤ 100000000000) (w : World) (h : OwnNS w lo hi v c) :
    Calls Tryd.prog 93 #[v, .int .i64 k] w fun e w' => e = .returned (.int .i64 (k + 2 * c.length)) ∧ MarkNS w' lo hi v c k ∧ Touch lo hi w w' := by
  have := h1.2
  refine (markNodeS_any v _ _ _ _ k (by omega) hk0 (by omega) w h.1).mono ?_
  rintro e w' ⟨he, m, gr⟩
  exact ⟨he, RowIn.marked h m gr, touch_of_grown gr (fun k hk => ⟨(own_block h.1 hk).1, h.2.1 k hk⟩)⟩
/-- sizes, as the laws count them -/
theorem szNS_small (v : Value) (t : List Nd) (h : t.length ≤ 1048576) (w : World) (hn : NodesAt w v t) :
    Calls Tryd.prog 84 #[v, .int .i64 1048576] w fun e w' => e = .returned (.int .i64 (1048576 - (t.length : Int))) ∧ Below w.heap.size w w' := by
  obtain ⟨ad, cap, hsh⟩ := hn.shape
  have g := szNodeS_any ad t.length cap 1048576 (by omega) (by omega) (by omega) w
  rw [if_neg (by omega), ← hsh] at g
  exact g.mono fun e w' ⟨he, hw⟩ => ⟨he, by rw [hw]; exact Below.refl _ _⟩
theorem szNS_big (v : Value) (t : List Nd) (h : 1048576 < t.length) (w : World) (hn : NodesAt w v t) :
    Calls Tryd.prog 84 #[v, .int .i64 1048576] w fun e w' => e = .returned (.int .i64 (-1)) ∧ Below w.heap.size w w' := by
  obtain ⟨ad, cap, hsh⟩ := hn.shape
  have hl := hn.2.1
  have g := szNodeS_any ad t.length cap 1048576 (by omega) (by omega) (by omega) w
  rw [if_pos (by omega), ← hsh] at g
  exact g.mono fun e w' ⟨he, hw⟩ => ⟨he, by rw [hw]; exact Below.refl _ _⟩
end Go.Proofs.YtmhpnkfibecnmaaDoor
