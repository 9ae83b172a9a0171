/-
  Lists of words in memory: the laws' own copies and comparisons of them, and a slice of words that came in.
-/
import Derived.Test.YtjbolpfilgkbfaaDoorValueOf
import Derived.OpenShut
import Derived.ProofKit
namespace Go.Proofs.YtjbolpfilgkbfaaDoor
open Go Go.RowKit
open M
set_option linter.unusedVariables false

def cellsU (xs : List Int) : List Value := xs.map (Value.int .u64)
theorem infoU64 : (Tryd.prog.info? 46).map (fun i => (i.zero, i.size, i.bytes)) = some (some (.int .u64 0), 1, 8) := by kernel_rfl
theorem st_of_own {w : World} {base : Nat} {e : TypeId} {v : Value} {xs : List Int} (h : w.ownsRow base e 1 v xs.length (cellsU xs)) : StAt w v xs := by
  rcases h.2 with ⟨h1, h2⟩ | ⟨g, cap, cur, h1, h2, h3, _⟩
  · exact Or.inl ⟨List.length_eq_zero_iff.1 h2, none, 0, h1⟩
  · subst h1
    have hlt : g < w.heap.size := by
      by_cases hg' : g < w.heap.size
      · exact hg'
      · rw [Array.getElem?_eq_none (by omega)] at h3
        cases h3
    refine Or.inr ⟨g, 0, cap, rfl, hlt, fun i x hx => ?_⟩
    have hi : i < xs.length := (List.getElem?_eq_some_iff.1 hx).1
    rw [Nat.zero_add, h.cellAt i (by omega)]
    simp [cellsU, hx]
theorem setU_zero (t : List Int) (j : Nat) (x : Int) (hx : t[j]? = some x) : (cellsU (t.take j ++ List.replicate (t.length - j) 0)).set j (.int .u64 x) = cellsU (t.take (j + 1) ++ List.replicate (t.length - (j + 1)) 0) := by
  have hj : j < t.length := (List.getElem?_eq_some_iff.1 hx).1
  have e : t.take (j + 1) = t.take j ++ [x] := by
    rw [List.take_add_one, hx]
    rfl
  have hl : (t.take j).length = j := List.length_take_of_le (by omega)
  obtain ⟨m, hm⟩ : ∃ m, t.length - j = m + 1 := ⟨t.length - j - 1, by omega⟩
  have hm' : t.length - (j + 1) = m := by omega
  unfold cellsU
  rw [e, hm, hm', List.replicate_succ, List.append_assoc, List.map_append, List.set_append_right _ _ (by rw [List.length_map]; omega), List.length_map, hl, Nat.sub_self, List.map_append]
  rfl
set_option maxRecDepth 100000 in
set_option maxHeartbeats 1000000 in
theorem toUint64S_in (b off cap : Nat) (t : List Int) (hl : t.length ≤ 1048576) (w : World) (hlt : b < w.heap.size) (hc : ∀ (i : Nat) (x : Int), t[i]? = some x → w.cell? ⟨b, off + i, none⟩ = some (.int .u64 x)) :
    Calls Tryd.prog 47 #[.slice (some ⟨b, off, none⟩) t.length cap] w fun e w' => ∃ v, e = .returned v ∧ w'.ownsRow w.heap.size 46 1 v t.length (cellsU t) ∧ Below w.heap.size w w' := by
  obtain ⟨i0, hi, hz0, hz1, hz2⟩ := info_parts infoU64
  go_enter Tryd.func47, Tryd.ntmps47
  go_wp2_with (at_make; refine wpList_make_full _ rfl _ _ 28 rfl w.heap.size 46 i0 (.int .u64 0) 1 Tryd.underlying28 hi hz0 hz1 .i64 .i64 _ _ t.length rfl rfl (by omega) (by omega) (by rw [hz2]; omega) (by unfold maxLen; omega) (Nat.le_refl _) ?_)
  intro w1 hown hgrow
  have hb1 : Below w.heap.size w w1 := (Below.refl _ _).grown hgrow (Nat.le_refl _) (fun k hk => by cases hk)
  have hown1 : w1.ownsRow w.heap.size 46 1 (.slice (some ⟨w.heap.size, 0, none⟩) t.length t.length) t.length (cellsU (List.replicate t.length 0)) := by
    have h2 := hown
    rw [toList_madeCells_one] at h2
    unfold cellsU
    rw [List.map_replicate]
    exact h2
  clear hown hgrow
  go_wp2_with fail
  go_loopw [4] (fun i wr => ∃ j : Nat, j ≤ t.length ∧ i = .int .i64 j ∧ Hid (wr.ownsRow w.heap.size 46 1 (.slice (some ⟨w.heap.size, 0, none⟩) t.length t.length) t.length (cellsU (t.take j ++ List.replicate (t.length - j) 0))) ∧ Below w.heap.size w wr) (fun i _ => t.length - (intOf i).toNat)
  case atStart => exact ⟨0, by omega, rfl, hown1, hb1⟩
  case round =>
    obtain ⟨j, hj, rfl, HO, hb⟩ := hrel
    by_cases hlt' : j < t.length
    · obtain ⟨x, hx⟩ : ∃ x, t[j]? = some x := ⟨t[j], List.getElem?_eq_getElem hlt'⟩
      have c0 := hc j x hx
      rw [← hb.cell (p := ⟨b, off + j, none⟩) hlt] at c0
      have own2 := HO.out
      have hlen := own2.1
      obtain ⟨u0, hu0⟩ : ∃ u0, (cellsU (t.take j ++ List.replicate (t.length - j) 0))[j]? = some u0 := ⟨_, List.getElem?_eq_getElem (by omega)⟩
      have d0 : wr.cell? ⟨w.heap.size, j, none⟩ = some u0 := by rw [own2.cellAt j (by omega)]; exact hu0
      have f0 := own2.frozenAt j
      have st := own2.stored j (.int .u64 x)
      have HN : Hid ((wr.setCell ⟨w.heap.size, j, none⟩ (.int .u64 x)).ownsRow w.heap.size 46 1 (.slice (some ⟨w.heap.size, 0, none⟩) t.length t.length) t.length (cellsU (t.take (j + 1) ++ List.replicate (t.length - (j + 1)) 0))) := by
        have h1 := st.1
        rw [setU_zero t j x hx] at h1
        exact h1
      have HB3 : Hid (Below w.heap.size w (wr.setCell ⟨w.heap.size, j, none⟩ (.int .u64 x))) := hb.setCell (Nat.le_refl _) _
      clear own2 st hlen hu0 HO hb hx hc hown1 hb1
      go_wp2_with fail
      go_roundw
      case rel => exact ⟨j + 1, by omega, by go_num, HN, HB3.out⟩
      case measure => simp [intOf]; omega
    · obtain rfl : j = t.length := by omega
      have HN : Hid (wr.ownsRow w.heap.size 46 1 (.slice (some ⟨w.heap.size, 0, none⟩) t.length t.length) t.length (cellsU t)) := by
        have h1 := HO.out
        rw [Nat.sub_self, List.take_length, List.replicate_zero, List.append_nil] at h1
        exact h1
      have HB : Hid (Below w.heap.size w wr) := hb
      clear HO hb hc hown1 hb1
      go_wp2_with fail
      go_ret
      exact ⟨_, rfl, HN.out, HB.out⟩
set_option maxRecDepth 100000 in
theorem toUint64S_nil (a : Option Addr) (cap : Nat) (w : World) :
    Calls Tryd.prog 47 #[.slice a 0 cap] w fun e w' => ∃ v, e = .returned v ∧ w'.ownsRow w.heap.size 46 1 v 0 (cellsU []) ∧ Below w.heap.size w w' := by
  obtain ⟨i0, hi, hz0, hz1, hz2⟩ := info_parts infoU64
  go_enter Tryd.func47, Tryd.ntmps47
  go_wp2_with (at_make; refine wpList_make_full _ rfl _ _ 28 rfl w.heap.size 46 i0 (.int .u64 0) 1 Tryd.underlying28 hi hz0 hz1 .i64 .i64 _ _ 0 rfl rfl (by omega) (by omega) (by rw [hz2]; omega) (by unfold maxLen; omega) (Nat.le_refl _) ?_)
  intro w1 hown hgrow
  have HB : Hid (Below w.heap.size w w1) := (Below.refl _ _).grown hgrow (Nat.le_refl _) (fun k hk => by cases hk)
  have HO : Hid (w1.ownsRow w.heap.size 46 1 (.slice (some ⟨w.heap.size, 0, none⟩) 0 0) 0 (cellsU [])) := by
    have h2 := hown
    rw [toList_madeCells_one] at h2
    exact h2
  clear hown hgrow
  go_wp2_with fail
  go_loopw [4] (fun i wr => i = .int .i64 0 ∧ wr = w1) (fun _ _ => 0)
  case atStart => exact ⟨rfl, rfl⟩
  case round =>
    obtain ⟨rfl, rfl⟩ := hrel
    go_wp2_with fail
    go_ret
    exact ⟨_, rfl, HO.out, HB.out⟩
theorem toUint64S_any (v : Value) (t : List Int) (hl : t.length ≤ 1048576) (w : World) (h : StAt w v t) :
    Calls Tryd.prog 47 #[v] w fun e w' => ∃ v', e = .returned v' ∧ w'.ownsRow w.heap.size 46 1 v' t.length (cellsU t) ∧ Below w.heap.size w w' := by
  rcases h with ⟨rfl, a, cap, rfl⟩ | ⟨b, off, cap, rfl, hlt, hc⟩
  · exact toUint64S_nil a cap w
  · exact toUint64S_in b off cap t hl w hlt hc
theorem takeWord_all {s t : List Int} {j : Nat} {x y : Int} (hx : s[j]? = some x) (hy : t[j]? = some y) (h : s.take j = t.take j) (hne : x = y) : s.take (j + 1) = t.take (j + 1) := by
  rw [List.take_add_one, List.take_add_one, hx, hy, h, hne]
set_option maxRecDepth 100000 in
set_option maxHeartbeats 1000000 in
theorem eqUint64S_in (b off cap b' off' cap' : Nat) (s t : List Int) (hl : s.length = t.length) (hl0 : t.length ≤ 9223372036854775807) (w : World) (hlt : b < w.heap.size) (hlt2 : b' < w.heap.size)
    (hc : ∀ (i : Nat) (x : Int), s[i]? = some x → w.cell? ⟨b, off + i, none⟩ = some (.int .u64 x)) (hc2 : ∀ (i : Nat) (x : Int), t[i]? = some x → w.cell? ⟨b', off' + i, none⟩ = some (.int .u64 x)) :
    Calls Tryd.prog 49 #[.slice (some ⟨b, off, none⟩) t.length cap, .slice (some ⟨b', off', none⟩) t.length cap'] w fun e w' => e = .returned (.bool (decide (s = t))) ∧ Below w.heap.size w w' := by
  go_enter Tryd.func49, Tryd.ntmps49
  go_wp2_with fail
  go_loopw [5] (fun i wr => ∃ j : Nat, j ≤ t.length ∧ i = .int .i64 j ∧ Hid (s.take j = t.take j) ∧ Below w.heap.size w wr) (fun i _ => t.length - (intOf i).toNat)
  case atStart => exact ⟨0, by omega, rfl, rfl, Below.refl _ _⟩
  case round =>
    obtain ⟨j, hj, rfl, HT, hb⟩ := hrel
    by_cases hlt' : j < t.length
    · obtain ⟨x, hx⟩ : ∃ x, s[j]? = some x := ⟨s[j], List.getElem?_eq_getElem (by omega)⟩
      obtain ⟨y, hy⟩ : ∃ y, t[j]? = some y := ⟨t[j], List.getElem?_eq_getElem hlt'⟩
      have c0 := hc j x hx
      have d0 := hc2 j y hy
      rw [← hb.cell (p := ⟨b, off + j, none⟩) hlt] at c0
      rw [← hb.cell (p := ⟨b', off' + j, none⟩) hlt2] at d0
      have HX : Hid (s[j]? = some x) := hx
      have HY : Hid (t[j]? = some y) := hy
      have HB : Hid (Below w.heap.size w wr) := hb
      clear hx hy hc hc2 hb
      by_cases hxy : x = y
      · have HN : Hid (s.take (j + 1) = t.take (j + 1)) := takeWord_all HX.out HY.out HT.out hxy
        subst hxy
        go_wp2_with fail
        go_region
        all_goals
          go_wp2_with fail
          go_roundw
          case rel => exact ⟨j + 1, by omega, by go_num, HN, HB.out.drew⟩
          case measure => simp [intOf]; omega
      · have HN : Hid (decide (s = t) = false) := decide_eq_false (by
          intro e
          subst e
          have h1 := HX.out
          rw [HY.out] at h1
          exact hxy (Option.some.inj h1).symm)
        have hne : (x != y) = true := bne_iff_ne.2 hxy
        clear hxy
        go_wp2_with fail
        go_region
        all_goals
          go_wp2_with fail
          go_ret
          exact ⟨ret_bool HN.out.symm, HB.out.drew⟩
    · obtain rfl : j = t.length := by omega
      have HN : Hid (decide (s = t) = true) := decide_eq_true (by
        have h1 := HT.out
        rw [List.take_length, ← hl, List.take_length] at h1
        exact h1)
      have HB : Hid (Below w.heap.size w wr) := hb
      clear hb hc hc2
      go_wp2_with fail
      go_ret
      exact ⟨ret_bool HN.out.symm, HB.out⟩
theorem eqUint64S_len (a a' : Option Addr) (n m cap cap' : Nat) (h : n ≠ m) (hn : n ≤ 9223372036854775807) (hm : m ≤ 9223372036854775807) (w : World) :
    Calls Tryd.prog 49 #[.slice a n cap, .slice a' m cap'] w fun e w' => e = .returned (.bool false) ∧ w' = w := by
  have hne : ((n : Int) != (m : Int)) = true := bne_iff_ne.2 (by omega)
  go_enter Tryd.func49, Tryd.ntmps49
  go_wp2_with fail
  go_ret
  exact ⟨rfl, rfl⟩
theorem eqUint64S_nil (a a' : Option Addr) (cap cap' : Nat) (w : World) :
    Calls Tryd.prog 49 #[.slice a 0 cap, .slice a' 0 cap'] w fun e w' => e = .returned (.bool true) ∧ w' = w := by
  go_enter Tryd.func49, Tryd.ntmps49
  go_wp2_with fail
  go_loop [5] (fun i => i = .int .i64 0) (fun _ => 0)
  case atStart => rfl
  case round =>
    obtain rfl := hrel
    go_wp2_with fail
    go_ret
    exact ⟨rfl, rfl⟩
theorem eqUint64S_any (u v : Value) (s t : List Int) (w : World) (hls : s.length ≤ 9223372036854775807) (hlt : t.length ≤ 9223372036854775807) (h1 : StAt w u s) (h2 : StAt w v t) :
    Calls Tryd.prog 49 #[u, v] w fun e w' => e = .returned (.bool (decide (s = t))) ∧ Below w.heap.size w w' := by
  by_cases hl : s.length = t.length
  · have k1 := h1
    have k2 := h2
    rcases k1 with ⟨rfl, a, cap, rfl⟩ | ⟨b, off, cap, rfl, hb, hc⟩
    · obtain rfl : t = [] := List.length_eq_zero_iff.1 hl.symm
      rcases k2 with ⟨_, a', cap', rfl⟩ | ⟨b', off', cap', rfl, _⟩
      all_goals
        refine (eqUint64S_nil _ _ _ _ w).mono ?_
        rintro e w' ⟨he, rfl⟩
        exact ⟨he, Below.refl _ _⟩
    · rcases k2 with ⟨rfl, a', cap', rfl⟩ | ⟨b', off', cap', rfl, hb', hc'⟩
      · obtain rfl : s = [] := List.length_eq_zero_iff.1 hl
        refine (eqUint64S_nil _ _ _ _ w).mono ?_
        rintro e w' ⟨he, rfl⟩
        exact ⟨he, Below.refl _ _⟩
      · rw [hl]
        exact eqUint64S_in b off cap b' off' cap' s t hl hlt w hb hb' hc hc'
  · obtain ⟨a, cap, rfl⟩ := h1.shape
    obtain ⟨a', cap', rfl⟩ := h2.shape
    rw [decide_eq_false (fun e => hl (congrArg List.length e))]
    refine (eqUint64S_len a a' s.length t.length cap cap' hl hls hlt w).mono ?_
    rintro e w' ⟨he, rfl⟩
    exact ⟨he, Below.refl _ _⟩
open Go.ChangeShapes Go.WideShapes Go.ChangeAt in
theorem stAt_of {H : Type} {enc : TypeId × Value → H} {W : World} {a : Option Addr} {len cap : Nat} {d : DataW H} {p : List MemPlace}
    (h : DataW.Trod enc Tryd.prog W 0 (fun _ => true) true 28 (.slice a len cap) d p) : ∃ st : List Int, st.length = len ∧ len ≤ 9223372036854775807 ∧ (∀ s ∈ st, 0 ≤ s ∧ s ≤ 18446744073709551615) ∧ StAt W (.slice a len cap) st := by
  obtain ⟨fuel, hf⟩ := h
  rcases open_ints Tryd.underlying28 Tryd.underlying46 (by kernel_rfl) hf with ⟨hcs, _⟩ | ⟨x, l, c, zs, hcs, _, hl, hm, hz, _, hcell, hwz⟩
  · simp [Value.cells] at hcs
    obtain ⟨rfl, rfl, rfl⟩ := hcs
    exact ⟨[], rfl, by omega, by simp, Or.inl ⟨rfl, none, 0, rfl⟩⟩
  · simp [Value.cells] at hcs
    obtain ⟨rfl, rfl, rfl⟩ := hcs
    have hm' := hm
    unfold maxLen at hm'
    have hz' : zs.length = cap := by simpa using hz
    have hlen : (zs.take len).length = len := List.length_take_of_le (by omega)
    refine ⟨zs.take len, hlen, by omega, fun s hs => bounds_u64 (hwz s (List.mem_of_mem_take hs)), ?_⟩
    by_cases h0 : len = 0
    · subst h0
      exact Or.inl ⟨rfl, _, _, rfl⟩
    · obtain ⟨b, off, spot⟩ := x
      have hc := hcell 0 (by omega)
      have hspot : spot = none := by simpa [Addr.add] using World.cell?_spot hc
      subst hspot
      refine Or.inr ⟨b, off, cap, by rw [hlen], ?_, fun i s hs => ?_⟩
      · have h1 : W.cell? ⟨b, off, none⟩ = some (.int .u64 (zs.getD 0 0)) := by simpa [Addr.add] using hc
        by_cases hb : b < W.heap.size
        · exact hb
        · have e : W.heap[b]? = none := Array.getElem?_eq_none (by omega)
          simp [World.cell?, e] at h1
      · have hi : i < len := by
          have := (List.getElem?_eq_some_iff.1 hs).1
          omega
        have hci := hcell i (by omega)
        have hs' : zs[i]? = some s := by
          rw [List.getElem?_take_of_lt hi] at hs
          exact hs
        have e1 : zs.getD i 0 = s := by simp [List.getD, hs']
        rw [e1] at hci
        by_cases hi0 : i = 0
        · subst hi0
          simpa [Addr.add] using hci
        · simpa [Addr.add, hi0] using hci
end Go.Proofs.YtjbolpfilgkbfaaDoor
