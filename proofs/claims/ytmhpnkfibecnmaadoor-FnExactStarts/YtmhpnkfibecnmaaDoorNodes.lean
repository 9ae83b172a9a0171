/-
  Lists of nodes in memory: the laws' own copies, comparisons and marks of them.
-/
import Derived.Test.YtmhpnkfibecnmaaDoorKind
import Derived.Deep.RegionWith
namespace Go.Proofs.YtmhpnkfibecnmaaDoor
open Go Go.RowKit
open M
set_option linter.unusedVariables false

/-- nodes as the cells of a row -/
def flat : List Nd → List Value
  | [] => []
  | x :: t => .int .i64 x.1 :: .int .u64 x.2 :: flat t
theorem flat_len : ∀ t : List Nd, (flat t).length = t.length * 2
  | [] => rfl
  | x :: t => by
    simp only [flat, List.length_cons, flat_len t]
    omega
theorem flat_append : ∀ s t : List Nd, flat (s ++ t) = flat s ++ flat t
  | [], t => rfl
  | x :: s, t => by simp [flat, flat_append s t]
theorem flat_at0 : ∀ (t : List Nd) (i : Nat) (x : Nd), t[i]? = some x → (flat t)[i * 2]? = some (.int .i64 x.1)
  | [], i, x, h => by simp at h
  | y :: t, 0, x, h => by
    simp at h
    subst h
    rfl
  | y :: t, i + 1, x, h => by
    have h' : t[i]? = some x := by simpa using h
    rw [show (i + 1) * 2 = i * 2 + 1 + 1 from by omega]
    simpa [flat] using flat_at0 t i x h'
theorem flat_at1 : ∀ (t : List Nd) (i : Nat) (x : Nd), t[i]? = some x → (flat t)[i * 2 + 1]? = some (.int .u64 x.2)
  | [], i, x, h => by simp at h
  | y :: t, 0, x, h => by
    simp at h
    subst h
    rfl
  | y :: t, i + 1, x, h => by
    have h' : t[i]? = some x := by simpa using h
    rw [show (i + 1) * 2 + 1 = i * 2 + 1 + 1 + 1 from by omega]
    simpa [flat] using flat_at1 t i x h'
theorem flat_set : ∀ (t : List Nd) (i : Nat) (x : Nd), ((flat t).set (i * 2) (.int .i64 x.1)).set (i * 2 + 1) (.int .u64 x.2) = flat (t.set i x)
  | [], i, x => by simp [flat]
  | y :: t, 0, x => rfl
  | y :: t, i + 1, x => by
    rw [show (i + 1) * 2 = i * 2 + 1 + 1 from by omega]
    simpa [flat] using flat_set t i x
/-- what is owned reads as nodes -/
theorem nodes_of_own {w : World} {base : Nat} {v : Value} {t : List Nd} (hok : ∀ x ∈ t, NdOk x) (hl : t.length ≤ 9223372036854775807) (h : w.ownsRow base 159 2 v t.length (flat t)) : NodesAt w v t := by
  refine ⟨hok, hl, ?_⟩
  rcases h.2 with ⟨h1, h2⟩ | ⟨g, cap, cur, h1, h2, h3, _⟩
  · exact Or.inl ⟨List.length_eq_zero_iff.1 h2, none, 0, h1⟩
  · subst h1
    have hlt : g < w.heap.size := by
      by_cases hg' : g < w.heap.size
      · exact hg'
      · rw [Array.getElem?_eq_none (by omega)] at h3
        cases h3
    refine Or.inr ⟨g, 0, cap, rfl, hlt, fun i x hx => ?_⟩
    have hi : i < t.length := (List.getElem?_eq_some_iff.1 hx).1
    rw [Nat.zero_add, h.cellAt (i * 2) (by omega), h.cellAt (i * 2 + 1) (by omega)]
    exact ⟨flat_at0 t i x hx, flat_at1 t i x hx⟩

theorem toNode_any (op n : Int) (w : World) :
    Calls Tryd.prog 115 #[.agg #[.int .i64 op, .int .u64 n]] w fun e w' => e = .returned (.agg #[.int .i64 op, .int .u64 n]) ∧ Below w.heap.size w w' := by
  go_enter Tryd.func115, Tryd.ntmps115
  go_wp2
  refine bodyPost_ret (v := .agg #[.int .i64 op, .int .u64 n]) (by simp [results, Tryd.results115, go_sem]) rfl ⟨rfl, ?_⟩
  exact (((Below.refl _ _).alloc (Nat.le_refl _) _).alloc (by simp) _).alloc (by simp; omega) _
theorem eqNode_any (x y : Nd) (w : World) :
    Calls Tryd.prog 120 #[.agg #[.int .i64 x.1, .int .u64 x.2], .agg #[.int .i64 y.1, .int .u64 y.2]] w fun e w' => e = .returned (.bool (decide (x = y))) ∧ Below w.heap.size w w' := by
  obtain ⟨op, n⟩ := x
  obtain ⟨op', n'⟩ := y
  have hb : Below w.heap.size w ((w.alloc (.cells #[.int .i64 op, .int .u64 n] 159)).alloc (.cells #[.int .i64 op', .int .u64 n'] 159)) := ((Below.refl _ _).alloc (Nat.le_refl _) _).alloc (by simp) _
  have HB : Hid _ := hb
  clear hb
  by_cases h1 : op = op'
  · subst h1
    by_cases h2 : n = n'
    · subst h2
      rw [decide_eq_true rfl]
      go_enter Tryd.func120, Tryd.ntmps120
      go_wp2
      go_ret
      exact ⟨rfl, HB.out⟩
    · rw [decide_eq_false (by simp [h2])]
      have e2 : (n != n') = true := bne_iff_ne.2 h2
      go_enter Tryd.func120, Tryd.ntmps120
      go_wp2
      go_ret
      exact ⟨rfl, HB.out⟩
  · rw [decide_eq_false (by simp [h1])]
    have e1 : (op != op') = true := bne_iff_ne.2 h1
    go_enter Tryd.func120, Tryd.ntmps120
    go_wp2
    go_ret
    exact ⟨rfl, HB.out⟩
theorem szNodeS_any (a : Option Addr) (len cap : Nat) (left : Int) (hl : len ≤ 9223372036854775807) (h0 : 0 ≤ left) (h1 : left ≤ 9223372036854775807) (w : World) :
    Calls Tryd.prog 84 #[.slice a len cap, .int .i64 left] w fun e w' => e = .returned (.int .i64 (if left < len then -1 else left - len)) ∧ w' = w := by
  by_cases h : left < len
  · rw [if_pos h]
    go_enter Tryd.func84, Tryd.ntmps84
    go_wp2
    go_ret
    exact ⟨rfl, rfl⟩
  · rw [if_neg h]
    go_enter Tryd.func84, Tryd.ntmps84
    go_wp2
    go_ret
    exact ⟨rfl, rfl⟩
theorem infoNode : (Tryd.prog.info? 159).map (fun i => (i.zero, i.size, i.bytes)) = some (some (.agg #[.int .i64 0, .int .u64 0]), 2, 16) := by kernel_rfl
theorem made_zero : ∀ n : Nat, (madeCells #[Value.int .i64 0, .int .u64 0] (n * 2)).toList = flat (List.replicate n (0, 0))
  | 0 => by simp [madeCells, flat]
  | n + 1 => by
    have ih := made_zero n
    unfold madeCells at *
    rw [Array.toList_map, Array.toList_range] at *
    rw [show (n + 1) * 2 = n * 2 + 1 + 1 from by omega, List.range_succ, List.range_succ, List.map_append, List.map_append, ih, List.replicate_succ', flat_append, List.append_assoc]
    congr 1
    have e0 : n * 2 % 2 = 0 := by omega
    have e1 : (n * 2 + 1) % 2 = 1 := by omega
    simp [flat, e0, e1]
theorem set_zero (t : List Nd) (j : Nat) (x : Nd) (hx : t[j]? = some x) : (t.take j ++ List.replicate (t.length - j) ((0, 0) : Nd)).set j x = t.take (j + 1) ++ List.replicate (t.length - (j + 1)) (0, 0) := by
  have hj : j < t.length := (List.getElem?_eq_some_iff.1 hx).1
  have e : t.take (j + 1) = t.take j ++ [x] := by
    rw [List.take_add_one, hx]
    rfl
  have hl : (t.take j).length = j := List.length_take_of_le (by omega)
  obtain ⟨m, hm⟩ : ∃ m, t.length - j = m + 1 := ⟨t.length - j - 1, by omega⟩
  have hm' : t.length - (j + 1) = m := by omega
  rw [e, hm, hm', List.replicate_succ, List.append_assoc, List.set_append_right _ _ (by omega), hl, Nat.sub_self]
  rfl
set_option maxRecDepth 100000 in
set_option maxHeartbeats 1000000 in
theorem toNodeS_in (b off cap : Nat) (t : List Nd) (hl : t.length ≤ 1048576) (w : World) (hlt : b < w.heap.size)
    (hc : ∀ (i : Nat) (x : Nd), t[i]? = some x → w.cell? ⟨b, off + i * 2, none⟩ = some (.int .i64 x.1) ∧ w.cell? ⟨b, off + i * 2 + 1, none⟩ = some (.int .u64 x.2)) :
    Calls Tryd.prog 87 #[.slice (some ⟨b, off, none⟩) t.length cap] w fun e w' => ∃ v, e = .returned v ∧ w'.ownsRow w.heap.size 159 2 v t.length (flat t) ∧ Below w.heap.size w w' := by
  obtain ⟨i0, hi, hz0, hz1, hz2⟩ := info_parts infoNode
  go_enter Tryd.func87, Tryd.ntmps87
  go_wp2_with (at_make; refine wpList_make_full _ rfl _ _ 24 rfl w.heap.size 159 i0 (.agg #[.int .i64 0, .int .u64 0]) 2 Tryd.underlying24 hi hz0 hz1 .i64 .i64 _ _ t.length rfl rfl (by omega) (by omega) (by rw [hz2]; omega) (by unfold maxLen; omega) (Nat.le_refl _) ?_)
  intro w1 hown hgrow
  have hb1 : Below w.heap.size w w1 := (Below.refl _ _).grown hgrow (Nat.le_refl _) (fun k hk => by cases hk)
  have hown1 : w1.ownsRow w.heap.size 159 2 (.slice (some ⟨w.heap.size, 0, none⟩) t.length t.length) t.length (flat (List.replicate t.length (0, 0))) := by
    rw [← made_zero]
    exact hown
  clear hown hgrow
  go_wp2_with fail
  go_loopw [4] (fun i wr => ∃ j : Nat, j ≤ t.length ∧ i = .int .i64 j ∧ wr.ownsRow w.heap.size 159 2 (.slice (some ⟨w.heap.size, 0, none⟩) t.length t.length) t.length (flat (t.take j ++ List.replicate (t.length - j) (0, 0))) ∧ Below w.heap.size w wr) (fun i _ => t.length - (intOf i).toNat)
  case atStart => exact ⟨0, by omega, rfl, hown1, hb1⟩
  case round =>
    obtain ⟨j, hj, rfl, hown, hb⟩ := hrel
    by_cases hlt' : j < t.length
    · obtain ⟨x, hx⟩ : ∃ x, t[j]? = some x := ⟨t[j], List.getElem?_eq_getElem hlt'⟩
      obtain ⟨c0, c1⟩ := hc j x hx
      rw [← hb.cell (p := ⟨b, off + j * 2, none⟩) hlt] at c0
      rw [← hb.cell (p := ⟨b, off + j * 2 + 1, none⟩) hlt] at c1
      obtain ⟨op, n⟩ := x
      simp only at c0 c1
      have g1 := toNode_any op n wr
      have HX : Hid (t[j]? = some (op, n)) := hx
      have HO : Hid (wr.ownsRow w.heap.size 159 2 (.slice (some ⟨w.heap.size, 0, none⟩) t.length t.length) t.length (flat (t.take j ++ List.replicate (t.length - j) (0, 0)))) := hown
      clear hx hc hown
      go_wp2_with fail
      refine g1.mono ?_
      rintro e w2 ⟨rfl, hb2⟩
      clear g1
      have own2 := owns_below HO.out hb2
      have hlen : (flat (t.take j ++ List.replicate (t.length - j) ((0, 0) : Nd))).length = t.length * 2 := own2.1
      obtain ⟨u0, hu0⟩ : ∃ u0, (flat (t.take j ++ List.replicate (t.length - j) ((0, 0) : Nd)))[j * 2]? = some u0 := ⟨_, List.getElem?_eq_getElem (by omega)⟩
      obtain ⟨u1, hu1⟩ : ∃ u1, (flat (t.take j ++ List.replicate (t.length - j) ((0, 0) : Nd)))[j * 2 + 1]? = some u1 := ⟨_, List.getElem?_eq_getElem (by omega)⟩
      have d0 : w2.cell? ⟨w.heap.size, j * 2, none⟩ = some u0 := by rw [own2.cellAt (j * 2) (by omega)]; exact hu0
      have d1 : w2.cell? ⟨w.heap.size, j * 2 + 1, none⟩ = some u1 := by rw [own2.cellAt (j * 2 + 1) (by omega)]; exact hu1
      have f0 := own2.frozenAt (j * 2)
      have f1 := own2.frozenAt (j * 2 + 1)
      have hb3 : Below w.heap.size w w2 := hb.trans (hb2.mono hb.size)
      have own3 := ((own2.stored (j * 2) (.int .i64 op)).1.stored (j * 2 + 1) (.int .u64 n)).1
      have HN : Hid (((w2.setCell ⟨w.heap.size, j * 2, none⟩ (.int .i64 op)).setCell ⟨w.heap.size, j * 2 + 1, none⟩ (.int .u64 n)).ownsRow w.heap.size 159 2 (.slice (some ⟨w.heap.size, 0, none⟩) t.length t.length) t.length (flat (t.take (j + 1) ++ List.replicate (t.length - (j + 1)) (0, 0)))) := by
        have h1 := own3
        rw [flat_set _ j (op, n), set_zero t j (op, n) HX.out] at h1
        exact h1
      have HB3 : Hid (Below w.heap.size w ((w2.setCell ⟨w.heap.size, j * 2, none⟩ (.int .i64 op)).setCell ⟨w.heap.size, j * 2 + 1, none⟩ (.int .u64 n))) := (hb3.setCell (Nat.le_refl _) _).setCell (Nat.le_refl _) _
      clear own2 own3 hlen hu0 hu1 hb2 hb3 hb HO hb1 hown1 HX c0 c1
      go_wp2_with fail
      go_roundw
      case rel => exact ⟨j + 1, by omega, by go_num, HN.out, HB3.out⟩
      case measure => simp [intOf]; omega
    · obtain rfl : j = t.length := by omega
      have HN : Hid (wr.ownsRow w.heap.size 159 2 (.slice (some ⟨w.heap.size, 0, none⟩) t.length t.length) t.length (flat t)) := by
        have h1 := hown
        rw [Nat.sub_self, List.take_length, List.replicate_zero, List.append_nil] at h1
        exact h1
      have HB : Hid (Below w.heap.size w wr) := hb
      clear hown hb hc hown1 hb1
      go_wp2_with fail
      go_ret
      exact ⟨_, rfl, HN.out, HB.out⟩

set_option maxRecDepth 100000 in
theorem toNodeS_nil (a : Option Addr) (cap : Nat) (w : World) :
    Calls Tryd.prog 87 #[.slice a 0 cap] w fun e w' => ∃ v, e = .returned v ∧ w'.ownsRow w.heap.size 159 2 v 0 (flat []) ∧ Below w.heap.size w w' := by
  obtain ⟨i0, hi, hz0, hz1, hz2⟩ := info_parts infoNode
  go_enter Tryd.func87, Tryd.ntmps87
  go_wp2_with (at_make; refine wpList_make_full _ rfl _ _ 24 rfl w.heap.size 159 i0 (.agg #[.int .i64 0, .int .u64 0]) 2 Tryd.underlying24 hi hz0 hz1 .i64 .i64 _ _ 0 rfl rfl (by omega) (by omega) (by rw [hz2]; omega) (by unfold maxLen; omega) (Nat.le_refl _) ?_)
  intro w1 hown hgrow
  have HB : Hid (Below w.heap.size w w1) := (Below.refl _ _).grown hgrow (Nat.le_refl _) (fun k hk => by cases hk)
  have HO : Hid (w1.ownsRow w.heap.size 159 2 (.slice (some ⟨w.heap.size, 0, none⟩) 0 0) 0 (flat [])) := by
    have h : (madeCells #[Value.int .i64 0, .int .u64 0] 0).toList = flat [] := made_zero 0
    have h2 := hown
    rw [h] at h2
    exact h2
  clear hown hgrow
  go_wp2_with fail
  go_loopw [4] (fun i wr => i = .int .i64 0 ∧ wr = w1) (fun _ _ => 0)
  case atStart => exact ⟨rfl, rfl⟩
  case round =>
    obtain ⟨rfl, rfl⟩ := hrel
    go_wp2_with fail
    go_ret
    exact ⟨_, rfl, HO.out, HB.out⟩
theorem toNodeS_any (v : Value) (t : List Nd) (hl : t.length ≤ 1048576) (w : World) (h : NodesAt w v t) :
    Calls Tryd.prog 87 #[v] w fun e w' => ∃ v', e = .returned v' ∧ w'.ownsRow w.heap.size 159 2 v' t.length (flat t) ∧ Below w.heap.size w w' := by
  obtain ⟨hok, hlen, h⟩ := h
  rcases h with ⟨rfl, a, cap, rfl⟩ | ⟨b, off, cap, rfl, hlt, hc⟩
  · exact toNodeS_nil a cap w
  · exact toNodeS_in b off cap t hl w hlt hc

/-- where two lists part -/
theorem take_all {s t : List Nd} {j : Nat} {x y : Nd} (hx : s[j]? = some x) (hy : t[j]? = some y) (h : s.take j = t.take j) (hne : x = y) : s.take (j + 1) = t.take (j + 1) := by
  rw [List.take_add_one, List.take_add_one, hx, hy, h, hne]
set_option maxRecDepth 100000 in
set_option maxHeartbeats 1000000 in
theorem eqNodeS_in (b off cap b' off' cap' : Nat) (s t : List Nd) (hl : s.length = t.length) (hl0 : t.length ≤ 9223372036854775807) (w : World) (hlt : b < w.heap.size) (hlt2 : b' < w.heap.size)
    (hc : ∀ (i : Nat) (x : Nd), s[i]? = some x → w.cell? ⟨b, off + i * 2, none⟩ = some (.int .i64 x.1) ∧ w.cell? ⟨b, off + i * 2 + 1, none⟩ = some (.int .u64 x.2))
    (hc2 : ∀ (i : Nat) (x : Nd), t[i]? = some x → w.cell? ⟨b', off' + i * 2, none⟩ = some (.int .i64 x.1) ∧ w.cell? ⟨b', off' + i * 2 + 1, none⟩ = some (.int .u64 x.2)) :
    Calls Tryd.prog 91 #[.slice (some ⟨b, off, none⟩) t.length cap, .slice (some ⟨b', off', none⟩) t.length cap'] w fun e w' => e = .returned (.bool (decide (s = t))) ∧ Below w.heap.size w w' := by
  go_enter Tryd.func91, Tryd.ntmps91
  go_wp2_with fail
  go_loopw [5] (fun i wr => ∃ j : Nat, j ≤ t.length ∧ i = .int .i64 j ∧ Hid (s.take j = t.take j) ∧ Below w.heap.size w wr) (fun i _ => t.length - (intOf i).toNat)
  case atStart => exact ⟨0, by omega, rfl, rfl, Below.refl _ _⟩
  case round =>
    obtain ⟨j, hj, rfl, HT, hb⟩ := hrel
    by_cases hlt' : j < t.length
    · obtain ⟨x, hx⟩ : ∃ x, s[j]? = some x := ⟨s[j], List.getElem?_eq_getElem (by omega)⟩
      obtain ⟨y, hy⟩ : ∃ y, t[j]? = some y := ⟨t[j], List.getElem?_eq_getElem hlt'⟩
      obtain ⟨c0, c1⟩ := hc j x hx
      obtain ⟨d0, d1⟩ := hc2 j y hy
      rw [← hb.cell (p := ⟨b, off + j * 2, none⟩) hlt] at c0
      rw [← hb.cell (p := ⟨b, off + j * 2 + 1, none⟩) hlt] at c1
      rw [← hb.cell (p := ⟨b', off' + j * 2, none⟩) hlt2] at d0
      rw [← hb.cell (p := ⟨b', off' + j * 2 + 1, none⟩) hlt2] at d1
      have g := fun ww => eqNode_any x y ww
      have HX : Hid (s[j]? = some x) := hx
      have HY : Hid (t[j]? = some y) := hy
      have HB : Hid (Below w.heap.size w wr) := hb
      clear hx hy hc hc2 hb
      by_cases hxy : x = y
      · simp only [decide_eq_true hxy] at g
        have HN : Hid (s.take (j + 1) = t.take (j + 1)) := take_all HX.out HY.out HT.out hxy
        clear hxy
        go_wp2_with fail
        go_region_with (go_at_call 120; refine (g _).mono ?_; rintro e w2 ⟨rfl, hb2⟩; have HB2 : Hid (Below w.heap.size w w2) := (by first | exact HB.out.trans (hb2.mono HB.out.size) | exact HB.out.drew.trans (hb2.mono HB.out.size) | exact HB.out.drew.drew.trans (hb2.mono HB.out.size)); clear hb2)
        all_goals
          clear g HB
          go_wp2_with fail
          go_roundw
          case rel => exact ⟨j + 1, by omega, by go_num, HN, Hid.out (by assumption)⟩
          case measure => simp [intOf]; omega
      · simp only [decide_eq_false hxy] at g
        have HN : Hid (decide (s = t) = false) := decide_eq_false (by
          intro e
          subst e
          have h1 := HX.out
          rw [HY.out] at h1
          exact hxy (Option.some.inj h1).symm)
        clear hxy
        go_wp2_with fail
        go_region_with (go_at_call 120; refine (g _).mono ?_; rintro e w2 ⟨rfl, hb2⟩; have HB2 : Hid (Below w.heap.size w w2) := (by first | exact HB.out.trans (hb2.mono HB.out.size) | exact HB.out.drew.trans (hb2.mono HB.out.size) | exact HB.out.drew.drew.trans (hb2.mono HB.out.size)); clear hb2)
        all_goals
          clear g HB
          go_wp2_with fail
          go_ret
          exact ⟨ret_bool HN.out.symm, Hid.out (by assumption)⟩
    · obtain rfl : j = t.length := by omega
      have HN : Hid (decide (s = t) = true) := decide_eq_true (by
        have h1 := HT.out
        rw [List.take_length, ← hl, List.take_length] at h1
        exact h1)
      have HB : Hid (Below w.heap.size w wr) := hb
      clear hb hc hc2
      go_wp2_with fail
      go_ret
      exact ⟨ret_bool HN.out.symm, HB.out⟩
theorem eqNodeS_len (a a' : Option Addr) (n m cap cap' : Nat) (h : n ≠ m) (hn : n ≤ 9223372036854775807) (hm : m ≤ 9223372036854775807) (w : World) :
    Calls Tryd.prog 91 #[.slice a n cap, .slice a' m cap'] w fun e w' => e = .returned (.bool false) ∧ w' = w := by
  have hne : ((n : Int) != (m : Int)) = true := bne_iff_ne.2 (by omega)
  go_enter Tryd.func91, Tryd.ntmps91
  go_wp2_with fail
  go_ret
  exact ⟨rfl, rfl⟩
theorem eqNodeS_nil (a a' : Option Addr) (cap cap' : Nat) (w : World) :
    Calls Tryd.prog 91 #[.slice a 0 cap, .slice a' 0 cap'] w fun e w' => e = .returned (.bool true) ∧ w' = w := by
  go_enter Tryd.func91, Tryd.ntmps91
  go_wp2_with fail
  go_loop [5] (fun i => i = .int .i64 0) (fun _ => 0)
  case atStart => rfl
  case round =>
    obtain rfl := hrel
    go_wp2_with fail
    go_ret
    exact ⟨rfl, rfl⟩
theorem NodesAt.shape {w : World} {v : Value} {t : List Nd} (h : NodesAt w v t) : ∃ (a : Option Addr) (cap : Nat), v = .slice a t.length cap := by
  obtain ⟨_, _, h⟩ := h
  rcases h with ⟨rfl, a, cap, h⟩ | ⟨b, off, cap, h, _⟩
  · exact ⟨a, cap, h⟩
  · exact ⟨_, cap, h⟩
theorem eqNodeS_any (u v : Value) (s t : List Nd) (w : World) (h1 : NodesAt w u s) (h2 : NodesAt w v t) :
    Calls Tryd.prog 91 #[u, v] w fun e w' => e = .returned (.bool (decide (s = t))) ∧ Below w.heap.size w w' := by
  by_cases hl : s.length = t.length
  · obtain ⟨_, hls, k1⟩ := h1
    obtain ⟨_, hlt, k2⟩ := h2
    rcases k1 with ⟨rfl, a, cap, rfl⟩ | ⟨b, off, cap, rfl, hb, hc⟩
    · obtain rfl : t = [] := List.length_eq_zero_iff.1 hl.symm
      rcases k2 with ⟨_, a', cap', rfl⟩ | ⟨b', off', cap', rfl, _⟩
      all_goals
        refine (eqNodeS_nil _ _ _ _ w).mono ?_
        rintro e w' ⟨he, rfl⟩
        exact ⟨he, Below.refl _ _⟩
    · rcases k2 with ⟨rfl, a', cap', rfl⟩ | ⟨b', off', cap', rfl, hb', hc'⟩
      · obtain rfl : s = [] := List.length_eq_zero_iff.1 hl
        refine (eqNodeS_nil _ _ _ _ w).mono ?_
        rintro e w' ⟨he, rfl⟩
        exact ⟨he, Below.refl _ _⟩
      · rw [hl]
        exact eqNodeS_in b off cap b' off' cap' s t hl hlt w hb hb' hc hc'
  · obtain ⟨a, cap, rfl⟩ := h1.shape
    obtain ⟨a', cap', rfl⟩ := h2.shape
    rw [decide_eq_false (fun e => hl (congrArg List.length e))]
    refine (eqNodeS_len a a' s.length t.length cap cap' hl h1.2.1 h2.2.1 w).mono ?_
    rintro e w' ⟨he, rfl⟩
    exact ⟨he, Below.refl _ _⟩
end Go.Proofs.YtmhpnkfibecnmaaDoor
