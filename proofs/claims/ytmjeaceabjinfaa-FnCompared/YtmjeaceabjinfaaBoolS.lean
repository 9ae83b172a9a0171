/-
  Lists of bools in memory: the laws' own copies, comparisons and marks of them.
-/
import Derived.Test.YtmjeaceabjinfaaVars
import Derived.Test.YtmjeaceabjinfaaLGood
import Derived.OpenShut
import Derived.ProofKit
import Derived.Deep.Slices
namespace Go.Proofs.Ytmjeaceabjinfaa
open Go Go.RowKit
open M
set_option linter.unusedVariables false

def cellsB (xs : List Bool) : List Value := xs.map Value.bool
theorem infoBool : (Try.prog.info? 4).map (fun i => (i.zero, i.size, i.bytes)) = some (some (.bool false), 1, 1) := by kernel_rfl
/-- a slice whose elements are these bools -/
def BoolsAt (w : World) (v : Value) (xs : List Bool) : Prop :=
  xs.length ≤ 9223372036854775807 ∧ ((xs = [] ∧ ∃ (a : Option Addr) (cap : Nat), v = .slice a 0 cap) ∨
  ∃ b off cap : Nat, v = .slice (some ⟨b, off, none⟩) xs.length cap ∧ b < w.heap.size ∧ ∀ (i : Nat) (s : Bool), xs[i]? = some s → w.cell? ⟨b, off + i, none⟩ = some (.bool s))
theorem BoolsAt.below {w w' : World} {v : Value} {xs : List Bool} (h : BoolsAt w v xs) (hb : Below w.heap.size w w') : BoolsAt w' v xs := by
  obtain ⟨hl, h⟩ := h
  refine ⟨hl, ?_⟩
  rcases h with h | ⟨b, off, cap, hv, hlt, hc⟩
  · exact Or.inl h
  · refine Or.inr ⟨b, off, cap, hv, Nat.lt_of_lt_of_le hlt hb.size, fun i x hx => ?_⟩
    rw [hb.cell (p := ⟨b, off + i, none⟩) hlt]
    exact hc i x hx
theorem BoolsAt.shape {w : World} {v : Value} {xs : List Bool} (h : BoolsAt w v xs) : ∃ (a : Option Addr) (cap : Nat), v = .slice a xs.length cap := by
  obtain ⟨_, h⟩ := h
  rcases h with ⟨rfl, a, cap, h⟩ | ⟨b, off, cap, h, _⟩
  · exact ⟨a, cap, h⟩
  · exact ⟨_, cap, h⟩
theorem bools_of_own {w : World} {base : Nat} {e : TypeId} {v : Value} {xs : List Bool} (hl : xs.length ≤ 9223372036854775807) (h : w.ownsRow base e 1 v xs.length (cellsB xs)) : BoolsAt w v xs := by
  refine ⟨hl, ?_⟩
  rcases h.2 with ⟨h1, h2⟩ | ⟨g, cap, cur, h1, h2, h3, _⟩
  · exact Or.inl ⟨List.length_eq_zero_iff.1 h2, none, 0, h1⟩
  · subst h1
    have hlt : g < w.heap.size := by
      by_cases hg' : g < w.heap.size
      · exact hg'
      · rw [Array.getElem?_eq_none (by omega)] at h3
        cases h3
    refine Or.inr ⟨g, 0, cap, rfl, hlt, fun i x hx => ?_⟩
    have hi : i < xs.length := (List.getElem?_eq_some_iff.1 hx).1
    rw [Nat.zero_add, h.cellAt i (by omega)]
    simp [cellsB, hx]
theorem takeBool_all {s t : List Bool} {j : Nat} {x y : Bool} (hx : s[j]? = some x) (hy : t[j]? = some y) (h : s.take j = t.take j) (hne : x = y) : s.take (j + 1) = t.take (j + 1) := by
  rw [List.take_add_one, List.take_add_one, hx, hy, h, hne]
set_option maxRecDepth 100000 in
set_option maxHeartbeats 1000000 in
theorem eqBoolS_in (b off cap b' off' cap' : Nat) (s t : List Bool) (hl : s.length = t.length) (hl0 : t.length ≤ 9223372036854775807) (w : World) (hlt : b < w.heap.size) (hlt2 : b' < w.heap.size)
    (hc : ∀ (i : Nat) (x : Bool), s[i]? = some x → w.cell? ⟨b, off + i, none⟩ = some (.bool x)) (hc2 : ∀ (i : Nat) (x : Bool), t[i]? = some x → w.cell? ⟨b', off' + i, none⟩ = some (.bool x)) :
    Calls Try.prog 62 #[.slice (some ⟨b, off, none⟩) t.length cap, .slice (some ⟨b', off', none⟩) t.length cap'] w fun e w' => e = .returned (.bool (decide (s = t))) ∧ Below w.heap.size w w' := by
  go_enter Try.func62, Try.ntmps62
  go_wp2_with fail
  go_loopw [5] (fun i wr => ∃ j : Nat, j ≤ t.length ∧ i = .int .i64 j ∧ Hid (s.take j = t.take j) ∧ Below w.heap.size w wr) (fun i _ => t.length - (intOf i).toNat)
  case atStart => exact ⟨0, by omega, rfl, rfl, Below.refl _ _⟩
  case round =>
    obtain ⟨j, hj, rfl, HT, hb⟩ := hrel
    by_cases hlt' : j < t.length
    · obtain ⟨x, hx⟩ : ∃ x, s[j]? = some x := ⟨s[j], List.getElem?_eq_getElem (by omega)⟩
      obtain ⟨y, hy⟩ : ∃ y, t[j]? = some y := ⟨t[j], List.getElem?_eq_getElem hlt'⟩
      have c0 := hc j x hx
      have d0 := hc2 j y hy
      rw [← hb.cell (p := ⟨b, off + j, none⟩) hlt] at c0
      rw [← hb.cell (p := ⟨b', off' + j, none⟩) hlt2] at d0
      have HX : Hid (s[j]? = some x) := hx
      have HY : Hid (t[j]? = some y) := hy
      have HB : Hid (Below w.heap.size w wr) := hb
      clear hx hy hc hc2 hb
      by_cases hxy : x = y
      · have HN : Hid (s.take (j + 1) = t.take (j + 1)) := takeBool_all HX.out HY.out HT.out hxy
        subst hxy
        go_wp2_with fail
        go_region
        all_goals
          go_wp2_with fail
          go_roundw
          case rel => exact ⟨j + 1, by omega, by go_num, HN, HB.out.drew⟩
          case measure => simp [intOf]; omega
      · have HN : Hid (decide (s = t) = false) := decide_eq_false (by
          intro e
          subst e
          have h1 := HX.out
          rw [HY.out] at h1
          exact hxy (Option.some.inj h1).symm)
        have hne : (!x == y) = true := by revert hxy; cases x <;> cases y <;> simp
        clear hxy
        go_wp2_with fail
        go_region
        all_goals
          go_wp2_with fail
          go_ret
          exact ⟨ret_bool HN.out.symm, HB.out.drew⟩
    · obtain rfl : j = t.length := by omega
      have HN : Hid (decide (s = t) = true) := decide_eq_true (by
        have h1 := HT.out
        rw [List.take_length, ← hl, List.take_length] at h1
        exact h1)
      have HB : Hid (Below w.heap.size w wr) := hb
      clear hb hc hc2
      go_wp2_with fail
      go_ret
      exact ⟨ret_bool HN.out.symm, HB.out⟩
theorem eqBoolS_len (a a' : Option Addr) (n m cap cap' : Nat) (h : n ≠ m) (hn : n ≤ 9223372036854775807) (hm : m ≤ 9223372036854775807) (w : World) :
    Calls Try.prog 62 #[.slice a n cap, .slice a' m cap'] w fun e w' => e = .returned (.bool false) ∧ w' = w := by
  have hne : ((n : Int) != (m : Int)) = true := bne_iff_ne.2 (by omega)
  go_enter Try.func62, Try.ntmps62
  go_wp2_with fail
  go_ret
  exact ⟨rfl, rfl⟩
theorem eqBoolS_nil (a a' : Option Addr) (cap cap' : Nat) (w : World) :
    Calls Try.prog 62 #[.slice a 0 cap, .slice a' 0 cap'] w fun e w' => e = .returned (.bool true) ∧ w' = w := by
  go_enter Try.func62, Try.ntmps62
  go_wp2_with fail
  go_loop [5] (fun i => i = .int .i64 0) (fun _ => 0)
  case atStart => rfl
  case round =>
    obtain rfl := hrel
    go_wp2_with fail
    go_ret
    exact ⟨rfl, rfl⟩
theorem eqBoolS_any (u v : Value) (s t : List Bool) (w : World) (h1 : BoolsAt w u s) (h2 : BoolsAt w v t) :
    Calls Try.prog 62 #[u, v] w fun e w' => e = .returned (.bool (decide (s = t))) ∧ Below w.heap.size w w' := by
  by_cases hl : s.length = t.length
  · obtain ⟨hls, k1⟩ := h1
    obtain ⟨hlt, k2⟩ := h2
    rcases k1 with ⟨rfl, a, cap, rfl⟩ | ⟨b, off, cap, rfl, hb, hc⟩
    · obtain rfl : t = [] := List.length_eq_zero_iff.1 hl.symm
      rcases k2 with ⟨_, a', cap', rfl⟩ | ⟨b', off', cap', rfl, _⟩
      all_goals
        refine (eqBoolS_nil _ _ _ _ w).mono ?_
        rintro e w' ⟨he, rfl⟩
        exact ⟨he, Below.refl _ _⟩
    · rcases k2 with ⟨rfl, a', cap', rfl⟩ | ⟨b', off', cap', rfl, hb', hc'⟩
      · obtain rfl : s = [] := List.length_eq_zero_iff.1 hl
        refine (eqBoolS_nil _ _ _ _ w).mono ?_
        rintro e w' ⟨he, rfl⟩
        exact ⟨he, Below.refl _ _⟩
      · rw [hl]
        exact eqBoolS_in b off cap b' off' cap' s t hl hlt w hb hb' hc hc'
  · obtain ⟨a, cap, rfl⟩ := h1.shape
    obtain ⟨a', cap', rfl⟩ := h2.shape
    rw [decide_eq_false (fun e => hl (congrArg List.length e))]
    refine (eqBoolS_len a a' s.length t.length cap cap' hl h1.1 h2.1 w).mono ?_
    rintro e w' ⟨he, rfl⟩
    exact ⟨he, Below.refl _ _⟩
theorem setB_zero (t : List Bool) (j : Nat) (x : Bool) (hx : t[j]? = some x) : (cellsB (t.take j ++ List.replicate (t.length - j) false)).set j (.bool x) = cellsB (t.take (j + 1) ++ List.replicate (t.length - (j + 1)) false) := by
  have hj : j < t.length := (List.getElem?_eq_some_iff.1 hx).1
  have e : t.take (j + 1) = t.take j ++ [x] := by
    rw [List.take_add_one, hx]
    rfl
  have hl : (t.take j).length = j := List.length_take_of_le (by omega)
  obtain ⟨m, hm⟩ : ∃ m, t.length - j = m + 1 := ⟨t.length - j - 1, by omega⟩
  have hm' : t.length - (j + 1) = m := by omega
  unfold cellsB
  rw [e, hm, hm', List.replicate_succ, List.append_assoc, List.map_append, List.set_append_right _ _ (by rw [List.length_map]; omega), List.length_map, hl, Nat.sub_self, List.map_append]
  rfl
set_option maxRecDepth 100000 in
set_option maxHeartbeats 1000000 in
theorem toBoolS_in (b off cap : Nat) (t : List Bool) (hl : t.length ≤ 1048576) (w : World) (hlt : b < w.heap.size) (hc : ∀ (i : Nat) (x : Bool), t[i]? = some x → w.cell? ⟨b, off + i, none⟩ = some (.bool x)) :
    Calls Try.prog 61 #[.slice (some ⟨b, off, none⟩) t.length cap] w fun e w' => ∃ v, e = .returned v ∧ w'.ownsRow w.heap.size 4 1 v t.length (cellsB t) ∧ Below w.heap.size w w' := by
  obtain ⟨i0, hi, hz0, hz1, hz2⟩ := info_parts infoBool
  go_enter Try.func61, Try.ntmps61
  go_wp2_with (at_make; refine wpList_make_full _ rfl _ _ 33 rfl w.heap.size 4 i0 (.bool false) 1 Try.underlying33 hi hz0 hz1 .i64 .i64 _ _ t.length rfl rfl (by omega) (by omega) (by rw [hz2]; omega) (by unfold maxLen; omega) (Nat.le_refl _) ?_)
  intro w1 hown hgrow
  have hb1 : Below w.heap.size w w1 := (Below.refl _ _).grown hgrow (Nat.le_refl _) (fun k hk => by cases hk)
  have hown1 : w1.ownsRow w.heap.size 4 1 (.slice (some ⟨w.heap.size, 0, none⟩) t.length t.length) t.length (cellsB (List.replicate t.length false)) := by
    have h2 := hown
    rw [toList_madeCells_one] at h2
    unfold cellsB
    rw [List.map_replicate]
    exact h2
  clear hown hgrow
  go_wp2_with fail
  go_loopw [4] (fun i wr => ∃ j : Nat, j ≤ t.length ∧ i = .int .i64 j ∧ Hid (wr.ownsRow w.heap.size 4 1 (.slice (some ⟨w.heap.size, 0, none⟩) t.length t.length) t.length (cellsB (t.take j ++ List.replicate (t.length - j) false))) ∧ Below w.heap.size w wr) (fun i _ => t.length - (intOf i).toNat)
  case atStart => exact ⟨0, by omega, rfl, hown1, hb1⟩
  case round =>
    obtain ⟨j, hj, rfl, HO, hb⟩ := hrel
    by_cases hlt' : j < t.length
    · obtain ⟨x, hx⟩ : ∃ x, t[j]? = some x := ⟨t[j], List.getElem?_eq_getElem hlt'⟩
      have c0 := hc j x hx
      rw [← hb.cell (p := ⟨b, off + j, none⟩) hlt] at c0
      have own2 := HO.out
      have hlen := own2.1
      obtain ⟨u0, hu0⟩ : ∃ u0, (cellsB (t.take j ++ List.replicate (t.length - j) false))[j]? = some u0 := ⟨_, List.getElem?_eq_getElem (by omega)⟩
      have d0 : wr.cell? ⟨w.heap.size, j, none⟩ = some u0 := by rw [own2.cellAt j (by omega)]; exact hu0
      have f0 := own2.frozenAt j
      have st := own2.stored j (.bool x)
      have HN : Hid ((wr.setCell ⟨w.heap.size, j, none⟩ (.bool x)).ownsRow w.heap.size 4 1 (.slice (some ⟨w.heap.size, 0, none⟩) t.length t.length) t.length (cellsB (t.take (j + 1) ++ List.replicate (t.length - (j + 1)) false))) := by
        have h1 := st.1
        rw [setB_zero t j x hx] at h1
        exact h1
      have HB3 : Hid (Below w.heap.size w (wr.setCell ⟨w.heap.size, j, none⟩ (.bool x))) := hb.setCell (Nat.le_refl _) _
      clear own2 st hlen hu0 HO hb hx hc hown1 hb1
      go_wp2_with fail
      go_roundw
      case rel => exact ⟨j + 1, by omega, by go_num, HN, HB3.out⟩
      case measure => simp [intOf]; omega
    · obtain rfl : j = t.length := by omega
      have HN : Hid (wr.ownsRow w.heap.size 4 1 (.slice (some ⟨w.heap.size, 0, none⟩) t.length t.length) t.length (cellsB t)) := by
        have h1 := HO.out
        rw [Nat.sub_self, List.take_length, List.replicate_zero, List.append_nil] at h1
        exact h1
      have HB : Hid (Below w.heap.size w wr) := hb
      clear HO hb hc hown1 hb1
      go_wp2_with fail
      go_ret
      exact ⟨_, rfl, HN.out, HB.out⟩
set_option maxRecDepth 100000 in
theorem toBoolS_nil (a : Option Addr) (cap : Nat) (w : World) :
    Calls Try.prog 61 #[.slice a 0 cap] w fun e w' => ∃ v, e = .returned v ∧ w'.ownsRow w.heap.size 4 1 v 0 (cellsB []) ∧ Below w.heap.size w w' := by
  obtain ⟨i0, hi, hz0, hz1, hz2⟩ := info_parts infoBool
  go_enter Try.func61, Try.ntmps61
  go_wp2_with (at_make; refine wpList_make_full _ rfl _ _ 33 rfl w.heap.size 4 i0 (.bool false) 1 Try.underlying33 hi hz0 hz1 .i64 .i64 _ _ 0 rfl rfl (by omega) (by omega) (by rw [hz2]; omega) (by unfold maxLen; omega) (Nat.le_refl _) ?_)
  intro w1 hown hgrow
  have HB : Hid (Below w.heap.size w w1) := (Below.refl _ _).grown hgrow (Nat.le_refl _) (fun k hk => by cases hk)
  have HO : Hid (w1.ownsRow w.heap.size 4 1 (.slice (some ⟨w.heap.size, 0, none⟩) 0 0) 0 (cellsB [])) := by
    have h2 := hown
    rw [toList_madeCells_one] at h2
    exact h2
  clear hown hgrow
  go_wp2_with fail
  go_loopw [4] (fun i wr => i = .int .i64 0 ∧ wr = w1) (fun _ _ => 0)
  case atStart => exact ⟨rfl, rfl⟩
  case round =>
    obtain ⟨rfl, rfl⟩ := hrel
    go_wp2_with fail
    go_ret
    exact ⟨_, rfl, HO.out, HB.out⟩
theorem toBoolS_any (v : Value) (t : List Bool) (hl : t.length ≤ 1048576) (w : World) (h : BoolsAt w v t) :
    Calls Try.prog 61 #[v] w fun e w' => ∃ v', e = .returned v' ∧ w'.ownsRow w.heap.size 4 1 v' t.length (cellsB t) ∧ Below w.heap.size w w' := by
  rcases h.2 with ⟨rfl, a, cap, rfl⟩ | ⟨b, off, cap, rfl, hlt, hc⟩
  · exact toBoolS_nil a cap w
  · exact toBoolS_in b off cap t hl w hlt hc
def marksB (k : Int) (n : Nat) : List Value := (List.range n).map fun i : Nat => Value.bool ((k + (i : Int)) % 3 == 0)
theorem marksB_len (k : Int) (n : Nat) : (marksB k n).length = n := by simp [marksB]
theorem marksB_at (k : Int) (n i : Nat) (h : i < n) : (marksB k n)[i]? = some (.bool ((k + i) % 3 == 0)) := by simp [marksB, h]
theorem marksB_set (k : Int) (n j : Nat) (xs : List Value) (hx : xs.length = n) (hj : j < n) : (marksB k j ++ xs.drop j).set j (.bool ((k + j) % 3 == 0)) = marksB k (j + 1) ++ xs.drop (j + 1) := by
  rw [List.set_append_right _ _ (by rw [marksB_len]; omega), marksB_len, Nat.sub_self]
  have e1 : marksB k (j + 1) = marksB k j ++ [.bool ((k + j) % 3 == 0)] := by simp [marksB, List.range_succ]
  rw [e1, List.append_assoc]
  congr 1
  rw [List.drop_eq_getElem_cons (by omega)]
  rfl
set_option maxRecDepth 100000 in
set_option maxHeartbeats 1000000 in
theorem markBoolS_own (g cap base n : Nat) (e : TypeId) (xs : List Value) (k : Int) (hn : n ≤ 1000000000000) (hk0 : 0 ≤ k) (hk : k ≤ 1000000000000) (w : World) (hown : w.ownsRow base e 1 (.slice (some ⟨g, 0, none⟩) n cap) n xs) :
    Calls Try.prog 68 #[.slice (some ⟨g, 0, none⟩) n cap, .int .i64 k] w fun e' w' => e' = .returned (.int .i64 (k + n)) ∧ w'.ownsRow base e 1 (.slice (some ⟨g, 0, none⟩) n cap) n (marksB k n) ∧ w.grownBy w' (some g) := by
  have hxl : xs.length = n := by have := hown.1; omega
  go_enter Try.func68, Try.ntmps68
  go_wp2_with fail
  go_loopw [1, 5] (fun m i wr => ∃ j : Nat, j ≤ n ∧ i = .int .i64 j ∧ m = .int .i64 (k + j) ∧ Hid (wr.ownsRow base e 1 (.slice (some ⟨g, 0, none⟩) n cap) n (marksB k j ++ xs.drop j)) ∧ Hid (w.grownBy wr (some g))) (fun _ i _ => n - (intOf i).toNat)
  case atStart => exact ⟨0, by omega, rfl, by simp, hown, grown_refl _ _⟩
  case round =>
    obtain ⟨j, hj, rfl, rfl, HO, HG⟩ := hrel
    by_cases hlt : j < n
    · have own2 := HO.out
      have hlen := own2.1
      obtain ⟨u0, hu0⟩ : ∃ u0, (marksB k j ++ xs.drop j)[j]? = some u0 := ⟨_, List.getElem?_eq_getElem (by omega)⟩
      have d0 : wr.cell? ⟨g, j, none⟩ = some u0 := by rw [own2.cellAt j (by omega)]; exact hu0
      have f0 := own2.frozenAt j
      have st := own2.stored j (.bool ((k + j) % 3 == 0))
      have HN : Hid ((wr.setCell ⟨g, j, none⟩ (.bool ((k + j) % 3 == 0))).ownsRow base e 1 (.slice (some ⟨g, 0, none⟩) n cap) n (marksB k (j + 1) ++ xs.drop (j + 1))) := by
        have h1 := st.1
        rw [marksB_set k n j xs hxl hlt] at h1
        exact h1
      have HG2 : Hid (w.grownBy (wr.setCell ⟨g, j, none⟩ (.bool ((k + j) % 3 == 0))) (some g)) := grown_trans HG.out st.2
      clear own2 st hlen hu0 HO HG hown
      go_wp2_with fail
      go_roundw
      case rel => exact ⟨j + 1, by omega, by go_num, by go_num, HN, HG2⟩
      case measure => simp [intOf]; omega
    · obtain rfl : j = n := by omega
      have HN : Hid (wr.ownsRow base e 1 (.slice (some ⟨g, 0, none⟩) j cap) j (marksB k j)) := by
        have h1 := HO.out
        rw [List.drop_of_length_le (by omega), List.append_nil] at h1
        exact h1
      clear HO hown
      go_wp2_with fail
      go_ret
      exact ⟨rfl, HN.out, HG.out⟩
set_option maxHeartbeats 1000000 in
theorem heldBoolS_own (g cap base n : Nat) (e : TypeId) (k : Int) (hn : n ≤ 1000000000000) (hk0 : 0 ≤ k) (hk : k ≤ 1000000000000) (w : World) (hown : w.ownsRow base e 1 (.slice (some ⟨g, 0, none⟩) n cap) n (marksB k n)) :
    Calls Try.prog 69 #[.slice (some ⟨g, 0, none⟩) n cap, .int .i64 k] w fun e' w' => e' = .returned (.int .i64 (k + n)) ∧ w' = w := by
  go_enter Try.func69, Try.ntmps69
  go_wp2_with fail
  go_loop [1, 5] (fun m i => ∃ j : Nat, j ≤ n ∧ i = .int .i64 j ∧ m = .int .i64 (k + j)) (fun _ i => n - (intOf i).toNat)
  case atStart => exact ⟨0, by omega, rfl, by simp⟩
  case round =>
    obtain ⟨j, hj, rfl, rfl⟩ := hrel
    by_cases hlt : j < n
    · have d0 : w.cell? ⟨g, j, none⟩ = some (.bool ((k + j) % 3 == 0)) := by rw [hown.cellAt j (by omega)]; exact marksB_at k n j hlt
      clear hown
      go_wp2_with fail
      go_round
      case rel => exact ⟨j + 1, by omega, by go_num, by go_num⟩
      case measure => simp [intOf]; omega
    · obtain rfl : j = n := by omega
      clear hown
      go_wp2_with fail
      go_ret
      exact ⟨rfl, rfl⟩

theorem markBoolS_nil (a : Option Addr) (cap : Nat) (k : Int) (w : World) :
    Calls Try.prog 68 #[.slice a 0 cap, .int .i64 k] w fun e' w' => e' = .returned (.int .i64 k) ∧ w' = w := by
  go_enter Try.func68, Try.ntmps68
  go_wp2_with fail
  go_loop [1, 5] (fun m i => i = .int .i64 0 ∧ m = .int .i64 k) (fun _ _ => 0)
  case atStart => exact ⟨rfl, rfl⟩
  case round =>
    obtain ⟨rfl, rfl⟩ := hrel
    go_wp2_with fail
    go_ret
    exact ⟨rfl, rfl⟩
theorem heldBoolS_nil (a : Option Addr) (cap : Nat) (k : Int) (w : World) :
    Calls Try.prog 69 #[.slice a 0 cap, .int .i64 k] w fun e' w' => e' = .returned (.int .i64 k) ∧ w' = w := by
  go_enter Try.func69, Try.ntmps69
  go_wp2_with fail
  go_loop [1, 5] (fun m i => i = .int .i64 0 ∧ m = .int .i64 k) (fun _ _ => 0)
  case atStart => exact ⟨rfl, rfl⟩
  case round =>
    obtain ⟨rfl, rfl⟩ := hrel
    go_wp2_with fail
    go_ret
    exact ⟨rfl, rfl⟩
theorem markBoolS_any (v : Value) (base n : Nat) (e : TypeId) (xs : List Value) (k : Int) (hn : n ≤ 1000000000000) (hk0 : 0 ≤ k) (hk : k ≤ 1000000000000) (w : World) (hown : w.ownsRow base e 1 v n xs) :
    Calls Try.prog 68 #[v, .int .i64 k] w fun e' w' => e' = .returned (.int .i64 (k + n)) ∧ w'.ownsRow base e 1 v n (marksB k n) ∧ w.grownBy w' v.ownBlock := by
  rcases hown.2 with ⟨rfl, rfl⟩ | ⟨g, cap, cur, rfl, _⟩
  · refine (markBoolS_nil none 0 k w).mono ?_
    rintro e' w' ⟨he, rfl⟩
    exact ⟨by rw [he]; exact ret_int (by omega), ⟨rfl, Or.inl ⟨rfl, rfl⟩⟩, grown_refl _ _⟩
  · exact markBoolS_own g cap base n e xs k hn hk0 hk w hown
theorem heldBoolS_any (v : Value) (base n : Nat) (e : TypeId) (k : Int) (hn : n ≤ 1000000000000) (hk0 : 0 ≤ k) (hk : k ≤ 1000000000000) (w : World) (hown : w.ownsRow base e 1 v n (marksB k n)) :
    Calls Try.prog 69 #[v, .int .i64 k] w fun e' w' => e' = .returned (.int .i64 (k + n)) ∧ w' = w := by
  rcases hown.2 with ⟨rfl, rfl⟩ | ⟨g, cap, cur, rfl, _⟩
  · refine (heldBoolS_nil none 0 k w).mono ?_
    rintro e' w' ⟨he, hw⟩
    exact ⟨by rw [he]; exact ret_int (by omega), hw⟩
  · exact heldBoolS_own g cap base n e k hn hk0 hk w hown
end Go.Proofs.Ytmjeaceabjinfaa
