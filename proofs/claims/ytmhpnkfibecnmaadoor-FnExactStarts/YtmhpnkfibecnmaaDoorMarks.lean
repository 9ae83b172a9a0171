/-
  Marks that the laws lay into lists of numbers and of nodes, and look for again; comparisons of lists of numbers.
-/
import Derived.Test.YtmhpnkfibecnmaaDoorNodes
namespace Go.Proofs.YtmhpnkfibecnmaaDoor
open Go Go.RowKit
open M
set_option linter.unusedVariables false

def marks (k : Int) (n : Nat) : List Value := (List.range n).map fun i : Nat => Value.int .i64 (k + (i : Int))
theorem marks_len (k : Int) (n : Nat) : (marks k n).length = n := by simp [marks]
theorem marks_at (k : Int) (n i : Nat) (h : i < n) : (marks k n)[i]? = some (.int .i64 (k + i)) := by simp [marks, h]
theorem marks_set (k : Int) (n j : Nat) (xs : List Value) (hx : xs.length = n) (hj : j < n) : (marks k j ++ xs.drop j).set j (.int .i64 (k + j)) = marks k (j + 1) ++ xs.drop (j + 1) := by
  rw [List.set_append_right _ _ (by rw [marks_len]; omega), marks_len, Nat.sub_self]
  have e1 : marks k (j + 1) = marks k j ++ [.int .i64 (k + j)] := by simp [marks, List.range_succ]
  rw [e1, List.append_assoc]
  congr 1
  rw [List.drop_eq_getElem_cons (by omega)]
  rfl
def marks2 (k : Int) : Nat → List Value
  | 0 => []
  | n + 1 => marks2 k n ++ [.int .i64 (k + 2 * n), .int .u64 (k + 2 * n + 1)]
theorem marks2_len (k : Int) : ∀ n : Nat, (marks2 k n).length = n * 2
  | 0 => rfl
  | n + 1 => by
    simp only [marks2, List.length_append, marks2_len k n, List.length_cons, List.length_nil]
    omega
theorem marks2_set (k : Int) (n j : Nat) (xs : List Value) (hx : xs.length = n * 2) (hj : j < n) :
    ((marks2 k j ++ xs.drop (j * 2)).set (j * 2) (.int .i64 (k + 2 * j))).set (j * 2 + 1) (.int .u64 (k + 2 * j + 1)) = marks2 k (j + 1) ++ xs.drop ((j + 1) * 2) := by
  have hl := marks2_len k j
  obtain ⟨a, b, r, hr⟩ : ∃ a b r, xs.drop (j * 2) = a :: b :: r := by
    rw [List.drop_eq_getElem_cons (show j * 2 < xs.length by omega), List.drop_eq_getElem_cons (show j * 2 + 1 < xs.length by omega)]
    exact ⟨_, _, _, rfl⟩
  have hr2 : xs.drop ((j + 1) * 2) = r := by
    have h := congrArg (List.drop 2) hr
    rw [List.drop_drop] at h
    rw [show (j + 1) * 2 = j * 2 + 2 from by omega, h]
    rfl
  rw [hr, hr2, List.set_append_right _ _ (by omega), hl, Nat.sub_self, List.set_append_right _ _ (by omega), hl, show j * 2 + 1 - j * 2 = 1 from by omega]
  simp [marks2]
theorem grown_refl (w : World) (row : Option Nat) : w.grownBy w row := ⟨rfl, rfl, rfl, Nat.le_refl _, fun _ _ _ => rfl⟩
theorem grown_trans {u v w : World} {row : Option Nat} (h : u.grownBy v row) (k : v.grownBy w row) : u.grownBy w row :=
  ⟨k.os.trans h.os, k.tape.trans h.tape, k.output.trans h.output, Nat.le_trans h.size k.size, fun i hi hr => (k.block i (Nat.lt_of_lt_of_le hi h.size) hr).trans (h.block i hi hr)⟩
set_option maxRecDepth 100000 in
set_option maxHeartbeats 1000000 in
theorem markIntS_own (g cap base n : Nat) (e : TypeId) (xs : List Value) (k : Int) (hn : n ≤ 1000000000000) (hk0 : 0 ≤ k) (hk : k ≤ 1000000000000) (w : World) (hown : w.ownsRow base e 1 (.slice (some ⟨g, 0, none⟩) n cap) n xs) :
    Calls Tryd.prog 46 #[.slice (some ⟨g, 0, none⟩) n cap, .int .i64 k] w fun e' w' => e' = .returned (.int .i64 (k + n)) ∧ w'.ownsRow base e 1 (.slice (some ⟨g, 0, none⟩) n cap) n (marks k n) ∧ w.grownBy w' (some g) := by
  have hxl : xs.length = n := by have := hown.1; omega
  go_enter Tryd.func46, Tryd.ntmps46
  go_wp2_with fail
  go_loopw [1, 5] (fun m i wr => ∃ j : Nat, j ≤ n ∧ i = .int .i64 j ∧ m = .int .i64 (k + j) ∧ Hid (wr.ownsRow base e 1 (.slice (some ⟨g, 0, none⟩) n cap) n (marks k j ++ xs.drop j)) ∧ Hid (w.grownBy wr (some g))) (fun _ i _ => n - (intOf i).toNat)
  case atStart => exact ⟨0, by omega, rfl, by simp, hown, grown_refl _ _⟩
  case round =>
    obtain ⟨j, hj, rfl, rfl, HO, HG⟩ := hrel
    by_cases hlt : j < n
    · have own2 := HO.out
      have hlen := own2.1
      obtain ⟨u0, hu0⟩ : ∃ u0, (marks k j ++ xs.drop j)[j]? = some u0 := ⟨_, List.getElem?_eq_getElem (by omega)⟩
      have d0 : wr.cell? ⟨g, j, none⟩ = some u0 := by rw [own2.cellAt j (by omega)]; exact hu0
      have f0 := own2.frozenAt j
      have st := own2.stored j (.int .i64 (k + j))
      have HN : Hid ((wr.setCell ⟨g, j, none⟩ (.int .i64 (k + j))).ownsRow base e 1 (.slice (some ⟨g, 0, none⟩) n cap) n (marks k (j + 1) ++ xs.drop (j + 1))) := by
        have h1 := st.1
        rw [marks_set k n j xs hxl hlt] at h1
        exact h1
      have HG2 : Hid (w.grownBy (wr.setCell ⟨g, j, none⟩ (.int .i64 (k + j))) (some g)) := grown_trans HG.out st.2
      clear own2 st hlen hu0 HO HG hown
      go_wp2_with fail
      go_roundw
      case rel => exact ⟨j + 1, by omega, by go_num, by go_num, HN, HG2⟩
      case measure => simp [intOf]; omega
    · obtain rfl : j = n := by omega
      have HN : Hid (wr.ownsRow base e 1 (.slice (some ⟨g, 0, none⟩) j cap) j (marks k j)) := by
        have h1 := HO.out
        rw [List.drop_of_length_le (by omega), List.append_nil] at h1
        exact h1
      clear HO hown
      go_wp2_with fail
      go_ret
      exact ⟨rfl, HN.out, HG.out⟩
set_option maxHeartbeats 1000000 in
theorem heldIntS_own (g cap base n : Nat) (e : TypeId) (k : Int) (hn : n ≤ 1000000000000) (hk0 : 0 ≤ k) (hk : k ≤ 1000000000000) (w : World) (hown : w.ownsRow base e 1 (.slice (some ⟨g, 0, none⟩) n cap) n (marks k n)) :
    Calls Tryd.prog 47 #[.slice (some ⟨g, 0, none⟩) n cap, .int .i64 k] w fun e' w' => e' = .returned (.int .i64 (k + n)) ∧ w' = w := by
  go_enter Tryd.func47, Tryd.ntmps47
  go_wp2_with fail
  go_loop [1, 5] (fun m i => ∃ j : Nat, j ≤ n ∧ i = .int .i64 j ∧ m = .int .i64 (k + j)) (fun _ i => n - (intOf i).toNat)
  case atStart => exact ⟨0, by omega, rfl, by simp⟩
  case round =>
    obtain ⟨j, hj, rfl, rfl⟩ := hrel
    by_cases hlt : j < n
    · have d0 : w.cell? ⟨g, j, none⟩ = some (.int .i64 (k + j)) := by rw [hown.cellAt j (by omega)]; exact marks_at k n j hlt
      clear hown
      go_wp2_with fail
      go_round
      case rel => exact ⟨j + 1, by omega, by go_num, by go_num⟩
      case measure => simp [intOf]; omega
    · obtain rfl : j = n := by omega
      clear hown
      go_wp2_with fail
      go_ret
      exact ⟨rfl, rfl⟩

theorem marks2_at (k : Int) : ∀ (n i : Nat), i < n → (marks2 k n)[i * 2]? = some (.int .i64 (k + 2 * i)) ∧ (marks2 k n)[i * 2 + 1]? = some (.int .u64 (k + 2 * i + 1))
  | 0, i, h => by omega
  | n + 1, i, h => by
    have hl := marks2_len k n
    by_cases e : i = n
    · subst e
      simp only [marks2]
      rw [List.getElem?_append_right (by omega), List.getElem?_append_right (by omega), hl, Nat.sub_self, show i * 2 + 1 - i * 2 = 1 from by omega]
      exact ⟨rfl, rfl⟩
    · have ih := marks2_at k n i (by omega)
      simp only [marks2]
      rw [List.getElem?_append_left (by omega), List.getElem?_append_left (by omega)]
      exact ih
set_option maxRecDepth 100000 in
set_option maxHeartbeats 1000000 in
theorem markNodeS_own (g cap base n : Nat) (e : TypeId) (xs : List Value) (k : Int) (hn : n ≤ 1000000000000) (hk0 : 0 ≤ k) (hk : k ≤ 1000000000000) (w : World) (hown : w.ownsRow base e 2 (.slice (some ⟨g, 0, none⟩) n cap) n xs) :
    Calls Tryd.prog 93 #[.slice (some ⟨g, 0, none⟩) n cap, .int .i64 k] w fun e' w' => e' = .returned (.int .i64 (k + 2 * n)) ∧ w'.ownsRow base e 2 (.slice (some ⟨g, 0, none⟩) n cap) n (marks2 k n) ∧ w.grownBy w' (some g) := by
  have hxl : xs.length = n * 2 := hown.1
  go_enter Tryd.func93, Tryd.ntmps93
  go_wp2_with fail
  go_loopw [1, 5] (fun m i wr => ∃ j : Nat, j ≤ n ∧ i = .int .i64 j ∧ m = .int .i64 (k + 2 * j) ∧ Hid (wr.ownsRow base e 2 (.slice (some ⟨g, 0, none⟩) n cap) n (marks2 k j ++ xs.drop (j * 2))) ∧ Hid (w.grownBy wr (some g))) (fun _ i _ => n - (intOf i).toNat)
  case atStart => exact ⟨0, by omega, rfl, by simp, hown, grown_refl _ _⟩
  case round =>
    obtain ⟨j, hj, rfl, rfl, HO, HG⟩ := hrel
    by_cases hlt : j < n
    · have own2 := HO.out
      have hlen := own2.1
      obtain ⟨u0, hu0⟩ : ∃ u0, (marks2 k j ++ xs.drop (j * 2))[j * 2]? = some u0 := ⟨_, List.getElem?_eq_getElem (by omega)⟩
      obtain ⟨u1, hu1⟩ : ∃ u1, (marks2 k j ++ xs.drop (j * 2))[j * 2 + 1]? = some u1 := ⟨_, List.getElem?_eq_getElem (by omega)⟩
      have d0 : wr.cell? ⟨g, j * 2, none⟩ = some u0 := by rw [own2.cellAt (j * 2) (by omega)]; exact hu0
      have d1 : wr.cell? ⟨g, j * 2 + 1, none⟩ = some u1 := by rw [own2.cellAt (j * 2 + 1) (by omega)]; exact hu1
      have f0 := own2.frozenAt (j * 2)
      have f1 := own2.frozenAt (j * 2 + 1)
      have st1 := own2.stored (j * 2) (.int .i64 (k + 2 * j))
      have st2 := st1.1.stored (j * 2 + 1) (.int .u64 (k + 2 * j + 1))
      have HN : Hid (((wr.setCell ⟨g, j * 2, none⟩ (.int .i64 (k + 2 * j))).setCell ⟨g, j * 2 + 1, none⟩ (.int .u64 (k + 2 * j + 1))).ownsRow base e 2 (.slice (some ⟨g, 0, none⟩) n cap) n (marks2 k (j + 1) ++ xs.drop ((j + 1) * 2))) := by
        have h1 := st2.1
        rw [marks2_set k n j xs hxl hlt] at h1
        exact h1
      have HG2 : Hid (w.grownBy ((wr.setCell ⟨g, j * 2, none⟩ (.int .i64 (k + 2 * j))).setCell ⟨g, j * 2 + 1, none⟩ (.int .u64 (k + 2 * j + 1))) (some g)) := grown_trans (grown_trans HG.out st1.2) st2.2
      clear own2 st1 st2 hlen hu0 hu1 HO HG hown
      go_wp2_with fail
      go_roundw
      case rel => exact ⟨j + 1, by omega, by go_num, by go_num, HN, HG2⟩
      case measure => simp [intOf]; omega
    · obtain rfl : j = n := by omega
      have HN : Hid (wr.ownsRow base e 2 (.slice (some ⟨g, 0, none⟩) j cap) j (marks2 k j)) := by
        have h1 := HO.out
        rw [List.drop_of_length_le (by omega), List.append_nil] at h1
        exact h1
      clear HO hown
      go_wp2_with fail
      go_ret
      exact ⟨rfl, HN.out, HG.out⟩
theorem markIntS_nil (a : Option Addr) (cap : Nat) (k : Int) (w : World) :
    Calls Tryd.prog 46 #[.slice a 0 cap, .int .i64 k] w fun e' w' => e' = .returned (.int .i64 k) ∧ w' = w := by
  go_enter Tryd.func46, Tryd.ntmps46
  go_wp2_with fail
  go_loop [1, 5] (fun m i => i = .int .i64 0 ∧ m = .int .i64 k) (fun _ _ => 0)
  case atStart => exact ⟨rfl, rfl⟩
  case round =>
    obtain ⟨rfl, rfl⟩ := hrel
    go_wp2_with fail
    go_ret
    exact ⟨rfl, rfl⟩
theorem heldIntS_nil (a : Option Addr) (cap : Nat) (k : Int) (w : World) :
    Calls Tryd.prog 47 #[.slice a 0 cap, .int .i64 k] w fun e' w' => e' = .returned (.int .i64 k) ∧ w' = w := by
  go_enter Tryd.func47, Tryd.ntmps47
  go_wp2_with fail
  go_loop [1, 5] (fun m i => i = .int .i64 0 ∧ m = .int .i64 k) (fun _ _ => 0)
  case atStart => exact ⟨rfl, rfl⟩
  case round =>
    obtain ⟨rfl, rfl⟩ := hrel
    go_wp2_with fail
    go_ret
    exact ⟨rfl, rfl⟩
theorem markNodeS_nil (a : Option Addr) (cap : Nat) (k : Int) (w : World) :
    Calls Tryd.prog 93 #[.slice a 0 cap, .int .i64 k] w fun e' w' => e' = .returned (.int .i64 k) ∧ w' = w := by
  go_enter Tryd.func93, Tryd.ntmps93
  go_wp2_with fail
  go_loop [1, 5] (fun m i => i = .int .i64 0 ∧ m = .int .i64 k) (fun _ _ => 0)
  case atStart => exact ⟨rfl, rfl⟩
  case round =>
    obtain ⟨rfl, rfl⟩ := hrel
    go_wp2_with fail
    go_ret
    exact ⟨rfl, rfl⟩
theorem markIntS_any (v : Value) (base n : Nat) (e : TypeId) (xs : List Value) (k : Int) (hn : n ≤ 1000000000000) (hk0 : 0 ≤ k) (hk : k ≤ 1000000000000) (w : World) (hown : w.ownsRow base e 1 v n xs) :
    Calls Tryd.prog 46 #[v, .int .i64 k] w fun e' w' => e' = .returned (.int .i64 (k + n)) ∧ w'.ownsRow base e 1 v n (marks k n) ∧ w.grownBy w' v.ownBlock := by
  rcases hown.2 with ⟨rfl, rfl⟩ | ⟨g, cap, cur, rfl, _⟩
  · refine (markIntS_nil none 0 k w).mono ?_
    rintro e' w' ⟨he, rfl⟩
    exact ⟨by rw [he]; exact ret_int (by omega), ⟨rfl, Or.inl ⟨rfl, rfl⟩⟩, grown_refl _ _⟩
  · exact markIntS_own g cap base n e xs k hn hk0 hk w hown
theorem heldIntS_any (v : Value) (base n : Nat) (e : TypeId) (k : Int) (hn : n ≤ 1000000000000) (hk0 : 0 ≤ k) (hk : k ≤ 1000000000000) (w : World) (hown : w.ownsRow base e 1 v n (marks k n)) :
    Calls Tryd.prog 47 #[v, .int .i64 k] w fun e' w' => e' = .returned (.int .i64 (k + n)) ∧ w' = w := by
  rcases hown.2 with ⟨rfl, rfl⟩ | ⟨g, cap, cur, rfl, _⟩
  · refine (heldIntS_nil none 0 k w).mono ?_
    rintro e' w' ⟨he, hw⟩
    exact ⟨by rw [he]; exact ret_int (by omega), hw⟩
  · exact heldIntS_own g cap base n e k hn hk0 hk w hown
theorem markNodeS_any (v : Value) (base n : Nat) (e : TypeId) (xs : List Value) (k : Int) (hn : n ≤ 1000000000000) (hk0 : 0 ≤ k) (hk : k ≤ 1000000000000) (w : World) (hown : w.ownsRow base e 2 v n xs) :
    Calls Tryd.prog 93 #[v, .int .i64 k] w fun e' w' => e' = .returned (.int .i64 (k + 2 * n)) ∧ w'.ownsRow base e 2 v n (marks2 k n) ∧ w.grownBy w' v.ownBlock := by
  rcases hown.2 with ⟨rfl, rfl⟩ | ⟨g, cap, cur, rfl, _⟩
  · refine (markNodeS_nil none 0 k w).mono ?_
    rintro e' w' ⟨he, rfl⟩
    exact ⟨by rw [he]; exact ret_int (by omega), ⟨rfl, Or.inl ⟨rfl, rfl⟩⟩, grown_refl _ _⟩
  · exact markNodeS_own g cap base n e xs k hn hk0 hk w hown
/-- a slice whose elements are these whole numbers -/
def IntsAt (w : World) (v : Value) (xs : List Int) : Prop :=
  xs.length ≤ 9223372036854775807 ∧ ((xs = [] ∧ ∃ (a : Option Addr) (cap : Nat), v = .slice a 0 cap) ∨
  ∃ b off cap : Nat, v = .slice (some ⟨b, off, none⟩) xs.length cap ∧ b < w.heap.size ∧ ∀ (i : Nat) (s : Int), xs[i]? = some s → w.cell? ⟨b, off + i, none⟩ = some (.int .i64 s))
theorem IntsAt.below {w w' : World} {v : Value} {xs : List Int} (h : IntsAt w v xs) (hb : Below w.heap.size w w') : IntsAt w' v xs := by
  obtain ⟨hl, h⟩ := h
  refine ⟨hl, ?_⟩
  rcases h with h | ⟨b, off, cap, hv, hlt, hc⟩
  · exact Or.inl h
  · refine Or.inr ⟨b, off, cap, hv, Nat.lt_of_lt_of_le hlt hb.size, fun i x hx => ?_⟩
    rw [hb.cell (p := ⟨b, off + i, none⟩) hlt]
    exact hc i x hx
theorem IntsAt.shape {w : World} {v : Value} {xs : List Int} (h : IntsAt w v xs) : ∃ (a : Option Addr) (cap : Nat), v = .slice a xs.length cap := by
  obtain ⟨_, h⟩ := h
  rcases h with ⟨rfl, a, cap, h⟩ | ⟨b, off, cap, h, _⟩
  · exact ⟨a, cap, h⟩
  · exact ⟨_, cap, h⟩
theorem ints_of_own {w : World} {base : Nat} {e : TypeId} {v : Value} {xs : List Int} (hl : xs.length ≤ 9223372036854775807) (h : w.ownsRow base e 1 v xs.length (xs.map (Value.int .i64))) : IntsAt w v xs := by
  refine ⟨hl, ?_⟩
  rcases h.2 with ⟨h1, h2⟩ | ⟨g, cap, cur, h1, h2, h3, _⟩
  · exact Or.inl ⟨List.length_eq_zero_iff.1 h2, none, 0, h1⟩
  · subst h1
    have hlt : g < w.heap.size := by
      by_cases hg' : g < w.heap.size
      · exact hg'
      · rw [Array.getElem?_eq_none (by omega)] at h3
        cases h3
    refine Or.inr ⟨g, 0, cap, rfl, hlt, fun i x hx => ?_⟩
    have hi : i < xs.length := (List.getElem?_eq_some_iff.1 hx).1
    rw [Nat.zero_add, h.cellAt i (by omega)]
    simp [hx]
theorem takeInt_all {s t : List Int} {j : Nat} {x y : Int} (hx : s[j]? = some x) (hy : t[j]? = some y) (h : s.take j = t.take j) (hne : x = y) : s.take (j + 1) = t.take (j + 1) := by
  rw [List.take_add_one, List.take_add_one, hx, hy, h, hne]
set_option maxRecDepth 100000 in
set_option maxHeartbeats 1000000 in
theorem eqIntS_in (b off cap b' off' cap' : Nat) (s t : List Int) (hl : s.length = t.length) (hl0 : t.length ≤ 9223372036854775807) (w : World) (hlt : b < w.heap.size) (hlt2 : b' < w.heap.size)
    (hc : ∀ (i : Nat) (x : Int), s[i]? = some x → w.cell? ⟨b, off + i, none⟩ = some (.int .i64 x)) (hc2 : ∀ (i : Nat) (x : Int), t[i]? = some x → w.cell? ⟨b', off' + i, none⟩ = some (.int .i64 x)) :
    Calls Tryd.prog 43 #[.slice (some ⟨b, off, none⟩) t.length cap, .slice (some ⟨b', off', none⟩) t.length cap'] w fun e w' => e = .returned (.bool (decide (s = t))) ∧ Below w.heap.size w w' := by
  go_enter Tryd.func43, Tryd.ntmps43
  go_wp2_with fail
  go_loopw [5] (fun i wr => ∃ j : Nat, j ≤ t.length ∧ i = .int .i64 j ∧ Hid (s.take j = t.take j) ∧ Below w.heap.size w wr) (fun i _ => t.length - (intOf i).toNat)
  case atStart => exact ⟨0, by omega, rfl, rfl, Below.refl _ _⟩
  case round =>
    obtain ⟨j, hj, rfl, HT, hb⟩ := hrel
    by_cases hlt' : j < t.length
    · obtain ⟨x, hx⟩ : ∃ x, s[j]? = some x := ⟨s[j], List.getElem?_eq_getElem (by omega)⟩
      obtain ⟨y, hy⟩ : ∃ y, t[j]? = some y := ⟨t[j], List.getElem?_eq_getElem hlt'⟩
      have c0 := hc j x hx
      have d0 := hc2 j y hy
      rw [← hb.cell (p := ⟨b, off + j, none⟩) hlt] at c0
      rw [← hb.cell (p := ⟨b', off' + j, none⟩) hlt2] at d0
      have HX : Hid (s[j]? = some x) := hx
      have HY : Hid (t[j]? = some y) := hy
      have HB : Hid (Below w.heap.size w wr) := hb
      clear hx hy hc hc2 hb
      by_cases hxy : x = y
      · have HN : Hid (s.take (j + 1) = t.take (j + 1)) := takeInt_all HX.out HY.out HT.out hxy
        subst hxy
        go_wp2_with fail
        go_region
        all_goals
          go_wp2_with fail
          go_roundw
          case rel => exact ⟨j + 1, by omega, by go_num, HN, HB.out.drew⟩
          case measure => simp [intOf]; omega
      · have HN : Hid (decide (s = t) = false) := decide_eq_false (by
          intro e
          subst e
          have h1 := HX.out
          rw [HY.out] at h1
          exact hxy (Option.some.inj h1).symm)
        have hne : (x != y) = true := bne_iff_ne.2 hxy
        clear hxy
        go_wp2_with fail
        go_region
        all_goals
          go_wp2_with fail
          go_ret
          exact ⟨ret_bool HN.out.symm, HB.out.drew⟩
    · obtain rfl : j = t.length := by omega
      have HN : Hid (decide (s = t) = true) := decide_eq_true (by
        have h1 := HT.out
        rw [List.take_length, ← hl, List.take_length] at h1
        exact h1)
      have HB : Hid (Below w.heap.size w wr) := hb
      clear hb hc hc2
      go_wp2_with fail
      go_ret
      exact ⟨ret_bool HN.out.symm, HB.out⟩
theorem eqIntS_len (a a' : Option Addr) (n m cap cap' : Nat) (h : n ≠ m) (hn : n ≤ 9223372036854775807) (hm : m ≤ 9223372036854775807) (w : World) :
    Calls Tryd.prog 43 #[.slice a n cap, .slice a' m cap'] w fun e w' => e = .returned (.bool false) ∧ w' = w := by
  have hne : ((n : Int) != (m : Int)) = true := bne_iff_ne.2 (by omega)
  go_enter Tryd.func43, Tryd.ntmps43
  go_wp2_with fail
  go_ret
  exact ⟨rfl, rfl⟩
theorem eqIntS_nil (a a' : Option Addr) (cap cap' : Nat) (w : World) :
    Calls Tryd.prog 43 #[.slice a 0 cap, .slice a' 0 cap'] w fun e w' => e = .returned (.bool true) ∧ w' = w := by
  go_enter Tryd.func43, Tryd.ntmps43
  go_wp2_with fail
  go_loop [5] (fun i => i = .int .i64 0) (fun _ => 0)
  case atStart => rfl
  case round =>
    obtain rfl := hrel
    go_wp2_with fail
    go_ret
    exact ⟨rfl, rfl⟩
theorem eqIntS_any (u v : Value) (s t : List Int) (w : World) (h1 : IntsAt w u s) (h2 : IntsAt w v t) :
    Calls Tryd.prog 43 #[u, v] w fun e w' => e = .returned (.bool (decide (s = t))) ∧ Below w.heap.size w w' := by
  by_cases hl : s.length = t.length
  · obtain ⟨hls, k1⟩ := h1
    obtain ⟨hlt, k2⟩ := h2
    rcases k1 with ⟨rfl, a, cap, rfl⟩ | ⟨b, off, cap, rfl, hb, hc⟩
    · obtain rfl : t = [] := List.length_eq_zero_iff.1 hl.symm
      rcases k2 with ⟨_, a', cap', rfl⟩ | ⟨b', off', cap', rfl, _⟩
      all_goals
        refine (eqIntS_nil _ _ _ _ w).mono ?_
        rintro e w' ⟨he, rfl⟩
        exact ⟨he, Below.refl _ _⟩
    · rcases k2 with ⟨rfl, a', cap', rfl⟩ | ⟨b', off', cap', rfl, hb', hc'⟩
      · obtain rfl : s = [] := List.length_eq_zero_iff.1 hl
        refine (eqIntS_nil _ _ _ _ w).mono ?_
        rintro e w' ⟨he, rfl⟩
        exact ⟨he, Below.refl _ _⟩
      · rw [hl]
        exact eqIntS_in b off cap b' off' cap' s t hl hlt w hb hb' hc hc'
  · obtain ⟨a, cap, rfl⟩ := h1.shape
    obtain ⟨a', cap', rfl⟩ := h2.shape
    rw [decide_eq_false (fun e => hl (congrArg List.length e))]
    refine (eqIntS_len a a' s.length t.length cap cap' hl h1.1 h2.1 w).mono ?_
    rintro e w' ⟨he, rfl⟩
    exact ⟨he, Below.refl _ _⟩
end Go.Proofs.YtmhpnkfibecnmaaDoor
