/-
  Lists of words and of nodes that a call owns, between two blocks: the laws' copies and marks of them.
-/
import Derived.Test.YtjbolpfilgkbfaaDoorOwn3
import Derived.Test.YtjbolpfilgkbfaaDoorStrong
import Derived.Test.YtjbolpfilgkbfaaDoorU64
import Derived.Test.YtjbolpfilgkbfaaDoorTurn
namespace Go.Proofs.YtjbolpfilgkbfaaDoor
open Go Go.RowKit
open M
set_option linter.unusedVariables false

def marksU (k : Int) (n : Nat) : List Value := (List.range n).map fun i : Nat => Value.int .u64 (k + (i : Int))
theorem marksU_len (k : Int) (n : Nat) : (marksU k n).length = n := by simp [marksU]
theorem marksU_at (k : Int) (n i : Nat) (h : i < n) : (marksU k n)[i]? = some (.int .u64 (k + i)) := by simp [marksU, h]
theorem marksU_set (k : Int) (n j : Nat) (xs : List Value) (hx : xs.length = n) (hj : j < n) : (marksU k j ++ xs.drop j).set j (.int .u64 (k + j)) = marksU k (j + 1) ++ xs.drop (j + 1) := by
  rw [List.set_append_right _ _ (by rw [marksU_len]; omega), marksU_len, Nat.sub_self]
  have e1 : marksU k (j + 1) = marksU k j ++ [.int .u64 (k + j)] := by simp [marksU, List.range_succ]
  rw [e1, List.append_assoc]
  congr 1
  rw [List.drop_eq_getElem_cons (by omega)]
  rfl
set_option maxRecDepth 100000 in
set_option maxHeartbeats 1000000 in
theorem markUint64S_own (g cap base n : Nat) (e : TypeId) (xs : List Value) (k : Int) (hn : n ≤ 1000000000000) (hk0 : 0 ≤ k) (hk : k ≤ 1000000000000) (w : World) (hown : w.ownsRow base e 1 (.slice (some ⟨g, 0, none⟩) n cap) n xs) :
    Calls Tryd.prog 52 #[.slice (some ⟨g, 0, none⟩) n cap, .int .i64 k] w fun e' w' => e' = .returned (.int .i64 (k + n)) ∧ w'.ownsRow base e 1 (.slice (some ⟨g, 0, none⟩) n cap) n (marksU k n) ∧ w.grownBy w' (some g) := by
  have hxl : xs.length = n := by have := hown.1; omega
  go_enter Tryd.func52, Tryd.ntmps52
  go_wp2_with fail
  go_loopw [1, 5] (fun m i wr => ∃ j : Nat, j ≤ n ∧ i = .int .i64 j ∧ m = .int .i64 (k + j) ∧ Hid (wr.ownsRow base e 1 (.slice (some ⟨g, 0, none⟩) n cap) n (marksU k j ++ xs.drop j)) ∧ Hid (w.grownBy wr (some g))) (fun _ i _ => n - (intOf i).toNat)
  case atStart => exact ⟨0, by omega, rfl, by simp, hown, grown_refl _ _⟩
  case round =>
    obtain ⟨j, hj, rfl, rfl, HO, HG⟩ := hrel
    by_cases hlt : j < n
    · have own2 := HO.out
      have hlen := own2.1
      obtain ⟨u0, hu0⟩ : ∃ u0, (marksU k j ++ xs.drop j)[j]? = some u0 := ⟨_, List.getElem?_eq_getElem (by omega)⟩
      have d0 : wr.cell? ⟨g, j, none⟩ = some u0 := by rw [own2.cellAt j (by omega)]; exact hu0
      have f0 := own2.frozenAt j
      have st := own2.stored j (.int .u64 (k + j))
      have HN : Hid ((wr.setCell ⟨g, j, none⟩ (.int .u64 (k + j))).ownsRow base e 1 (.slice (some ⟨g, 0, none⟩) n cap) n (marksU k (j + 1) ++ xs.drop (j + 1))) := by
        have h1 := st.1
        rw [marksU_set k n j xs hxl hlt] at h1
        exact h1
      have HG2 : Hid (w.grownBy (wr.setCell ⟨g, j, none⟩ (.int .u64 (k + j))) (some g)) := grown_trans HG.out st.2
      clear own2 st hlen hu0 HO HG hown
      go_wp2_with fail
      go_roundw
      case rel => exact ⟨j + 1, by omega, by go_num, by go_num, HN, HG2⟩
      case measure => simp [intOf]; omega
    · obtain rfl : j = n := by omega
      have HN : Hid (wr.ownsRow base e 1 (.slice (some ⟨g, 0, none⟩) j cap) j (marksU k j)) := by
        have h1 := HO.out
        rw [List.drop_of_length_le (by omega), List.append_nil] at h1
        exact h1
      clear HO hown
      go_wp2_with fail
      go_ret
      exact ⟨rfl, HN.out, HG.out⟩
set_option maxHeartbeats 1000000 in
theorem heldUint64S_own (g cap base n : Nat) (e : TypeId) (k : Int) (hn : n ≤ 1000000000000) (hk0 : 0 ≤ k) (hk : k ≤ 1000000000000) (w : World) (hown : w.ownsRow base e 1 (.slice (some ⟨g, 0, none⟩) n cap) n (marksU k n)) :
    Calls Tryd.prog 56 #[.slice (some ⟨g, 0, none⟩) n cap, .int .i64 k] w fun e' w' => e' = .returned (.int .i64 (k + n)) ∧ w' = w := by
  go_enter Tryd.func56, Tryd.ntmps56
  go_wp2_with fail
  go_loop [1, 5] (fun m i => ∃ j : Nat, j ≤ n ∧ i = .int .i64 j ∧ m = .int .i64 (k + j)) (fun _ i => n - (intOf i).toNat)
  case atStart => exact ⟨0, by omega, rfl, by simp⟩
  case round =>
    obtain ⟨j, hj, rfl, rfl⟩ := hrel
    by_cases hlt : j < n
    · have d0 : w.cell? ⟨g, j, none⟩ = some (.int .u64 (k + j)) := by rw [hown.cellAt j (by omega)]; exact marksU_at k n j hlt
      clear hown
      go_wp2_with fail
      go_round
      case rel => exact ⟨j + 1, by omega, by go_num, by go_num⟩
      case measure => simp [intOf]; omega
    · obtain rfl : j = n := by omega
      clear hown
      go_wp2_with fail
      go_ret
      exact ⟨rfl, rfl⟩

theorem markUint64S_nil (a : Option Addr) (cap : Nat) (k : Int) (w : World) :
    Calls Tryd.prog 52 #[.slice a 0 cap, .int .i64 k] w fun e' w' => e' = .returned (.int .i64 k) ∧ w' = w := by
  go_enter Tryd.func52, Tryd.ntmps52
  go_wp2_with fail
  go_loop [1, 5] (fun m i => i = .int .i64 0 ∧ m = .int .i64 k) (fun _ _ => 0)
  case atStart => exact ⟨rfl, rfl⟩
  case round =>
    obtain ⟨rfl, rfl⟩ := hrel
    go_wp2_with fail
    go_ret
    exact ⟨rfl, rfl⟩
theorem heldUint64S_nil (a : Option Addr) (cap : Nat) (k : Int) (w : World) :
    Calls Tryd.prog 56 #[.slice a 0 cap, .int .i64 k] w fun e' w' => e' = .returned (.int .i64 k) ∧ w' = w := by
  go_enter Tryd.func56, Tryd.ntmps56
  go_wp2_with fail
  go_loop [1, 5] (fun m i => i = .int .i64 0 ∧ m = .int .i64 k) (fun _ _ => 0)
  case atStart => exact ⟨rfl, rfl⟩
  case round =>
    obtain ⟨rfl, rfl⟩ := hrel
    go_wp2_with fail
    go_ret
    exact ⟨rfl, rfl⟩
theorem markUint64S_any (v : Value) (base n : Nat) (e : TypeId) (xs : List Value) (k : Int) (hn : n ≤ 1000000000000) (hk0 : 0 ≤ k) (hk : k ≤ 1000000000000) (w : World) (hown : w.ownsRow base e 1 v n xs) :
    Calls Tryd.prog 52 #[v, .int .i64 k] w fun e' w' => e' = .returned (.int .i64 (k + n)) ∧ w'.ownsRow base e 1 v n (marksU k n) ∧ w.grownBy w' v.ownBlock := by
  rcases hown.2 with ⟨rfl, rfl⟩ | ⟨g, cap, cur, rfl, _⟩
  · refine (markUint64S_nil none 0 k w).mono ?_
    rintro e' w' ⟨he, rfl⟩
    exact ⟨by rw [he]; exact ret_int (by omega), ⟨rfl, Or.inl ⟨rfl, rfl⟩⟩, grown_refl _ _⟩
  · exact markUint64S_own g cap base n e xs k hn hk0 hk w hown
theorem heldUint64S_any (v : Value) (base n : Nat) (e : TypeId) (k : Int) (hn : n ≤ 1000000000000) (hk0 : 0 ≤ k) (hk : k ≤ 1000000000000) (w : World) (hown : w.ownsRow base e 1 v n (marksU k n)) :
    Calls Tryd.prog 56 #[v, .int .i64 k] w fun e' w' => e' = .returned (.int .i64 (k + n)) ∧ w' = w := by
  rcases hown.2 with ⟨rfl, rfl⟩ | ⟨g, cap, cur, rfl, _⟩
  · refine (heldUint64S_nil none 0 k w).mono ?_
    rintro e' w' ⟨he, hw⟩
    exact ⟨by rw [he]; exact ret_int (by omega), hw⟩
  · exact heldUint64S_own g cap base n e k hn hk0 hk w hown

/-- a slice whose elements are these words -/
def WordsAt (w : World) (v : Value) (t : List Int) : Prop := (∀ s ∈ t, 0 ≤ s ∧ s ≤ 18446744073709551615) ∧ t.length ≤ 9223372036854775807 ∧ StAt w v t
theorem WordsAt.below {w w' : World} {v : Value} {t : List Int} (h : WordsAt w v t) (hb : Below w.heap.size w w') : WordsAt w' v t := ⟨h.1, h.2.1, h.2.2.below hb⟩
theorem WordsAt.shape {w : World} {v : Value} {t : List Int} (h : WordsAt w v t) : ∃ (a : Option Addr) (cap : Nat), v = .slice a t.length cap := h.2.2.shape
def WsOk (t : List Int) : Prop := (∀ s ∈ t, 0 ≤ s ∧ s ≤ 18446744073709551615) ∧ t.length ≤ 1048576
def OwnUS (w : World) (lo hi : Nat) (v : Value) (t : List Int) : Prop := RowIn w lo hi 46 1 v t.length (cellsU t)
def MarkUS (w : World) (lo hi : Nat) (v : Value) (t : List Int) (k : Int) : Prop := RowIn w lo hi 46 1 v t.length (marksU k t.length)
theorem OwnUS.same {w w' : World} {lo hi : Nat} {v : Value} {c : List Int} (h : OwnUS w lo hi v c) (hs : w.heap.size ≤ w'.heap.size) (hb : ∀ i, lo ≤ i → i < hi → w'.heap[i]? = w.heap[i]?) : OwnUS w' lo hi v c := RowIn.same h hs hb
theorem MarkUS.same {w w' : World} {lo hi : Nat} {v : Value} {c : List Int} {k : Int} (h : MarkUS w lo hi v c k) (hs : w.heap.size ≤ w'.heap.size) (hb : ∀ i, lo ≤ i → i < hi → w'.heap[i]? = w.heap[i]?) : MarkUS w' lo hi v c k := RowIn.same h hs hb
theorem OwnUS.hi {w : World} {lo hi : Nat} {v : Value} {c : List Int} (h : OwnUS w lo hi v c) : hi ≤ w.heap.size := h.2.2
theorem MarkUS.hi {w : World} {lo hi : Nat} {v : Value} {c : List Int} {k : Int} (h : MarkUS w lo hi v c k) : hi ≤ w.heap.size := h.2.2
theorem OwnUS.reads {w : World} {lo hi : Nat} {v : Value} {c : List Int} (h : OwnUS w lo hi v c) (ok : WsOk c) : WordsAt w v c := ⟨ok.1, by have := ok.2; omega, st_of_own h.1⟩
theorem OwnUS.shape {w : World} {lo hi : Nat} {v : Value} {c : List Int} (h : OwnUS w lo hi v c) : ∃ a n cap, v = .slice a n cap := by
  obtain ⟨a, cap, e⟩ := own_shape h.1
  exact ⟨a, _, cap, e⟩
def AtUS (w : World) (v : Value) (t : List Int) : Prop := WordsAt w v t ∧ Strong w v t.length
theorem AtUS.below {w w' : World} {v : Value} {t : List Int} (h : AtUS w v t) (hb : Below w.heap.size w w') : AtUS w' v t := ⟨h.1.below hb, h.2.below hb⟩
theorem OwnUS.hands {w : World} {lo hi : Nat} {v : Value} {c : List Int} (h : OwnUS w lo hi v c) (ok : WsOk c) : AtUS w v c := ⟨h.reads ok, strong_of h.1⟩
theorem toUS_any (v : Value) (t : List Int) (hl : WsOk t) (w : World) (h : WordsAt w v t) :
    Calls Tryd.prog 47 #[v] w fun e w' => ∃ v', e = .returned v' ∧ OwnUS w' w.heap.size w'.heap.size v' t ∧ Below w.heap.size w w' := by
  refine (toUint64S_any v t hl.2 w h.2.2).mono ?_
  rintro e w' ⟨v', he, ho, hb⟩
  exact ⟨v', he, rowIn_of ho, hb⟩
theorem eqUS_any (u v : Value) (s t : List Int) (w : World) (h1 : WordsAt w u s) (h2 : WordsAt w v t) :
    Calls Tryd.prog 49 #[u, v] w fun e w' => e = .returned (.bool (decide (s = t))) ∧ Below w.heap.size w w' := eqUint64S_any u v s t w h1.2.1 h2.2.1 h1.2.2 h2.2.2
theorem markUS_any (v : Value) (c : List Int) (lo hi : Nat) (k : Int) (h1 : WsOk c) (hk0 : 0 ≤ k) (hk : k ≤ 100000000000) (w : World) (h : OwnUS w lo hi v c) :
    Calls Tryd.prog 52 #[v, .int .i64 k] w fun e w' => e = .returned (.int .i64 (k + c.length)) ∧ MarkUS w' lo hi v c k ∧ Touch lo hi w w' := by
  have := h1.2
  refine (markUint64S_any v _ _ _ _ k (by omega) hk0 (by omega) w h.1).mono ?_
  rintro e w' ⟨he, m, gr⟩
  exact ⟨he, RowIn.marked h m gr, touch_of_grown gr (fun k hk => ⟨(own_block h.1 hk).1, h.2.1 k hk⟩)⟩
theorem heldUS_any (v : Value) (c : List Int) (lo hi : Nat) (k : Int) (h1 : WsOk c) (hk0 : 0 ≤ k) (hk : k ≤ 100000000000) (w : World) (h : MarkUS w lo hi v c k) :
    Calls Tryd.prog 56 #[v, .int .i64 k] w fun e w' => e = .returned (.int .i64 (k + c.length)) ∧ Below w.heap.size w w' := by
  have := h1.2
  refine (heldUint64S_any v _ _ _ k (by omega) hk0 (by omega) w h.1).mono ?_
  rintro e w' ⟨he, rfl⟩
  exact ⟨he, Below.refl _ _⟩
/-- bools, with as much room as there are -/
def CapV (v : Value) : Prop := ∀ (a : Option Addr) (n c : Nat), v = .slice a n c → n ≤ c
theorem capV_of_own {w : World} {B : Nat} {e : TypeId} {s : Nat} {v : Value} {n : Nat} {xs : List Value} (h : w.ownsRow B e s v n xs) : CapV v := by
  intro a m c e1
  rcases h.2 with ⟨h1, h2⟩ | ⟨g, cap, cur, h1, _, _, h4, _⟩
  · rw [h1] at e1
    injection e1 with _ e2 e3
    omega
  · rw [h1] at e1
    injection e1 with _ e2 e3
    omega
def AtBC (w : World) (v : Value) (t : List Bool) : Prop := AtBS w v t ∧ CapV v
theorem AtBC.below {w w' : World} {v : Value} {t : List Bool} (h : AtBC w v t) (hb : Below w.heap.size w w') : AtBC w' v t := ⟨h.1.below hb, h.2⟩
theorem OwnBS.handsC {w : World} {lo hi : Nat} {v : Value} {c : List Bool} (h : OwnBS w lo hi v c) (ok : c.length ≤ 1048576) : AtBC w v c := ⟨h.hands ok, capV_of_own h.1⟩
/-- nodes -/
def NsOk (t : List Nd) : Prop := (∀ x ∈ t, NdOk x) ∧ t.length ≤ 1048576
def OwnNS (w : World) (lo hi : Nat) (v : Value) (t : List Nd) : Prop := RowIn w lo hi 159 2 v t.length (flat t)
def MarkNS (w : World) (lo hi : Nat) (v : Value) (t : List Nd) (k : Int) : Prop := RowIn w lo hi 159 2 v t.length (marks2 k t.length)
theorem OwnNS.same {w w' : World} {lo hi : Nat} {v : Value} {c : List Nd} (h : OwnNS w lo hi v c) (hs : w.heap.size ≤ w'.heap.size) (hb : ∀ i, lo ≤ i → i < hi → w'.heap[i]? = w.heap[i]?) : OwnNS w' lo hi v c := RowIn.same h hs hb
theorem MarkNS.same {w w' : World} {lo hi : Nat} {v : Value} {c : List Nd} {k : Int} (h : MarkNS w lo hi v c k) (hs : w.heap.size ≤ w'.heap.size) (hb : ∀ i, lo ≤ i → i < hi → w'.heap[i]? = w.heap[i]?) : MarkNS w' lo hi v c k := RowIn.same h hs hb
theorem OwnNS.hi {w : World} {lo hi : Nat} {v : Value} {c : List Nd} (h : OwnNS w lo hi v c) : hi ≤ w.heap.size := h.2.2
theorem MarkNS.hi {w : World} {lo hi : Nat} {v : Value} {c : List Nd} {k : Int} (h : MarkNS w lo hi v c k) : hi ≤ w.heap.size := h.2.2
theorem OwnNS.reads {w : World} {lo hi : Nat} {v : Value} {c : List Nd} (h : OwnNS w lo hi v c) (ok : NsOk c) : NodesAt w v c := nodes_of_own ok.1 (by have := ok.2; omega) h.1
theorem OwnNS.shape {w : World} {lo hi : Nat} {v : Value} {c : List Nd} (h : OwnNS w lo hi v c) : ∃ a n cap, v = .slice a n cap := by
  obtain ⟨a, cap, e⟩ := own_shape h.1
  exact ⟨a, _, cap, e⟩
def AtNS (w : World) (v : Value) (t : List Nd) : Prop := NodesAt w v t ∧ Strong w v t.length
theorem AtNS.below {w w' : World} {v : Value} {t : List Nd} (h : AtNS w v t) (hb : Below w.heap.size w w') : AtNS w' v t := ⟨h.1.below hb, h.2.below hb⟩
theorem OwnNS.hands {w : World} {lo hi : Nat} {v : Value} {c : List Nd} (h : OwnNS w lo hi v c) (ok : NsOk c) : AtNS w v c := ⟨h.reads ok, strong_of h.1⟩
theorem toNS_any (v : Value) (t : List Nd) (hl : NsOk t) (w : World) (h : NodesAt w v t) :
    Calls Tryd.prog 94 #[v] w fun e w' => ∃ v', e = .returned v' ∧ OwnNS w' w.heap.size w'.heap.size v' t ∧ Below w.heap.size w w' := by
  refine (toNodeS_any v t hl.2 w h).mono ?_
  rintro e w' ⟨v', he, ho, hb⟩
  exact ⟨v', he, rowIn_of ho, hb⟩
theorem markNS_any (v : Value) (c : List Nd) (lo hi : Nat) (k : Int) (h1 : NsOk c) (hk0 : 0 ≤ k) (hk : k ≤ 100000000000) (w : World) (h : OwnNS w lo hi v c) :
    Calls Tryd.prog 98 #[v, .int .i64 k] w fun e w' => e = .returned (.int .i64 (k + 2 * c.length)) ∧ MarkNS w' lo hi v c k ∧ Touch lo hi w w' := by
  have := h1.2
  refine (markNodeS_any v _ _ _ _ k (by omega) hk0 (by omega) w h.1).mono ?_
  rintro e w' ⟨he, m, gr⟩
  exact ⟨he, RowIn.marked h m gr, touch_of_grown gr (fun k hk => ⟨(own_block h.1 hk).1, h.2.1 k hk⟩)⟩
/-- sizes, as the laws count them -/
theorem szNS_small (v : Value) (t : List Nd) (h : t.length ≤ 1048576) (w : World) (hn : NodesAt w v t) :
    Calls Tryd.prog 92 #[v, .int .i64 1048576] w fun e w' => e = .returned (.int .i64 (1048576 - (t.length : Int))) ∧ Below w.heap.size w w' := by
  obtain ⟨ad, cap, hsh⟩ := hn.shape
  have g := szNodeS_any ad t.length cap 1048576 (by omega) (by omega) (by omega) w
  rw [if_neg (by omega), ← hsh] at g
  exact g.mono fun e w' ⟨he, hw⟩ => ⟨he, by rw [hw]; exact Below.refl _ _⟩
theorem szNS_big (v : Value) (t : List Nd) (h : 1048576 < t.length) (w : World) (hn : NodesAt w v t) :
    Calls Tryd.prog 92 #[v, .int .i64 1048576] w fun e w' => e = .returned (.int .i64 (-1)) ∧ Below w.heap.size w w' := by
  obtain ⟨ad, cap, hsh⟩ := hn.shape
  have hl := hn.2.1
  have g := szNodeS_any ad t.length cap 1048576 (by omega) (by omega) (by omega) w
  rw [if_pos (by omega), ← hsh] at g
  exact g.mono fun e w' ⟨he, hw⟩ => ⟨he, by rw [hw]; exact Below.refl _ _⟩
end Go.Proofs.YtjbolpfilgkbfaaDoor
