/-
  Lists of whole numbers in memory: the laws' own copies of them, and a slice of numbers that came in.
-/
import Derived.Test.YthamdefkcjfjpaaVars
import Derived.Test.YthamdefkcjfjpaaLGood
import Derived.OpenShut
import Derived.ProofKit
import Derived.Deep.Slices
namespace Go.Proofs.Ythamdefkcjfjpaa
open Go Go.RowKit
open M
set_option linter.unusedVariables false

def cellsI (xs : List Int) : List Value := xs.map (Value.int .i64)
theorem setI_zero (t : List Int) (j : Nat) (x : Int) (hx : t[j]? = some x) : (cellsI (t.take j ++ List.replicate (t.length - j) 0)).set j (.int .i64 x) = cellsI (t.take (j + 1) ++ List.replicate (t.length - (j + 1)) 0) := by
  have hj : j < t.length := (List.getElem?_eq_some_iff.1 hx).1
  have e : t.take (j + 1) = t.take j ++ [x] := by
    rw [List.take_add_one, hx]
    rfl
  have hl : (t.take j).length = j := List.length_take_of_le (by omega)
  obtain ⟨m, hm⟩ : ∃ m, t.length - j = m + 1 := ⟨t.length - j - 1, by omega⟩
  have hm' : t.length - (j + 1) = m := by omega
  unfold cellsI
  rw [e, hm, hm', List.replicate_succ, List.append_assoc, List.map_append, List.set_append_right _ _ (by rw [List.length_map]; omega), List.length_map, hl, Nat.sub_self, List.map_append]
  rfl
set_option maxRecDepth 100000 in
set_option maxHeartbeats 1000000 in
theorem toIntS_in (b off cap : Nat) (t : List Int) (hl : t.length ≤ 1048576) (w : World) (hlt : b < w.heap.size) (hc : ∀ (i : Nat) (x : Int), t[i]? = some x → w.cell? ⟨b, off + i, none⟩ = some (.int .i64 x)) :
    Calls Try.prog 65 #[.slice (some ⟨b, off, none⟩) t.length cap] w fun e w' => ∃ v, e = .returned v ∧ w'.ownsRow w.heap.size 3 1 v t.length (cellsI t) ∧ Below w.heap.size w w' := by
  obtain ⟨i0, hi, hz0, hz1, hz2⟩ := info_parts infoInt
  go_enter Try.func65, Try.ntmps65
  go_wp2_with (at_make; refine wpList_make_full _ rfl _ _ 24 rfl w.heap.size 3 i0 (.int .i64 0) 1 Try.underlying24 hi hz0 hz1 .i64 .i64 _ _ t.length rfl rfl (by omega) (by omega) (by rw [hz2]; omega) (by unfold maxLen; omega) (Nat.le_refl _) ?_)
  intro w1 hown hgrow
  have hb1 : Below w.heap.size w w1 := (Below.refl _ _).grown hgrow (Nat.le_refl _) (fun k hk => by cases hk)
  have hown1 : w1.ownsRow w.heap.size 3 1 (.slice (some ⟨w.heap.size, 0, none⟩) t.length t.length) t.length (cellsI (List.replicate t.length 0)) := by
    have h2 := hown
    rw [toList_madeCells_one] at h2
    unfold cellsI
    rw [List.map_replicate]
    exact h2
  clear hown hgrow
  go_wp2_with fail
  go_loopw [4] (fun i wr => ∃ j : Nat, j ≤ t.length ∧ i = .int .i64 j ∧ Hid (wr.ownsRow w.heap.size 3 1 (.slice (some ⟨w.heap.size, 0, none⟩) t.length t.length) t.length (cellsI (t.take j ++ List.replicate (t.length - j) 0))) ∧ Below w.heap.size w wr) (fun i _ => t.length - (intOf i).toNat)
  case atStart => exact ⟨0, by omega, rfl, hown1, hb1⟩
  case round =>
    obtain ⟨j, hj, rfl, HO, hb⟩ := hrel
    by_cases hlt' : j < t.length
    · obtain ⟨x, hx⟩ : ∃ x, t[j]? = some x := ⟨t[j], List.getElem?_eq_getElem hlt'⟩
      have c0 := hc j x hx
      rw [← hb.cell (p := ⟨b, off + j, none⟩) hlt] at c0
      have own2 := HO.out
      have hlen := own2.1
      obtain ⟨u0, hu0⟩ : ∃ u0, (cellsI (t.take j ++ List.replicate (t.length - j) 0))[j]? = some u0 := ⟨_, List.getElem?_eq_getElem (by omega)⟩
      have d0 : wr.cell? ⟨w.heap.size, j, none⟩ = some u0 := by rw [own2.cellAt j (by omega)]; exact hu0
      have f0 := own2.frozenAt j
      have st := own2.stored j (.int .i64 x)
      have HN : Hid ((wr.setCell ⟨w.heap.size, j, none⟩ (.int .i64 x)).ownsRow w.heap.size 3 1 (.slice (some ⟨w.heap.size, 0, none⟩) t.length t.length) t.length (cellsI (t.take (j + 1) ++ List.replicate (t.length - (j + 1)) 0))) := by
        have h1 := st.1
        rw [setI_zero t j x hx] at h1
        exact h1
      have HB3 : Hid (Below w.heap.size w (wr.setCell ⟨w.heap.size, j, none⟩ (.int .i64 x))) := hb.setCell (Nat.le_refl _) _
      clear own2 st hlen hu0 HO hb hx hc hown1 hb1
      go_wp2_with fail
      go_roundw
      case rel => exact ⟨j + 1, by omega, by go_num, HN, HB3.out⟩
      case measure => simp [intOf]; omega
    · obtain rfl : j = t.length := by omega
      have HN : Hid (wr.ownsRow w.heap.size 3 1 (.slice (some ⟨w.heap.size, 0, none⟩) t.length t.length) t.length (cellsI t)) := by
        have h1 := HO.out
        rw [Nat.sub_self, List.take_length, List.replicate_zero, List.append_nil] at h1
        exact h1
      have HB : Hid (Below w.heap.size w wr) := hb
      clear HO hb hc hown1 hb1
      go_wp2_with fail
      go_ret
      exact ⟨_, rfl, HN.out, HB.out⟩
set_option maxRecDepth 100000 in
theorem toIntS_nil (a : Option Addr) (cap : Nat) (w : World) :
    Calls Try.prog 65 #[.slice a 0 cap] w fun e w' => ∃ v, e = .returned v ∧ w'.ownsRow w.heap.size 3 1 v 0 (cellsI []) ∧ Below w.heap.size w w' := by
  obtain ⟨i0, hi, hz0, hz1, hz2⟩ := info_parts infoInt
  go_enter Try.func65, Try.ntmps65
  go_wp2_with (at_make; refine wpList_make_full _ rfl _ _ 24 rfl w.heap.size 3 i0 (.int .i64 0) 1 Try.underlying24 hi hz0 hz1 .i64 .i64 _ _ 0 rfl rfl (by omega) (by omega) (by rw [hz2]; omega) (by unfold maxLen; omega) (Nat.le_refl _) ?_)
  intro w1 hown hgrow
  have HB : Hid (Below w.heap.size w w1) := (Below.refl _ _).grown hgrow (Nat.le_refl _) (fun k hk => by cases hk)
  have HO : Hid (w1.ownsRow w.heap.size 3 1 (.slice (some ⟨w.heap.size, 0, none⟩) 0 0) 0 (cellsI [])) := by
    have h2 := hown
    rw [toList_madeCells_one] at h2
    exact h2
  clear hown hgrow
  go_wp2_with fail
  go_loopw [4] (fun i wr => i = .int .i64 0 ∧ wr = w1) (fun _ _ => 0)
  case atStart => exact ⟨rfl, rfl⟩
  case round =>
    obtain ⟨rfl, rfl⟩ := hrel
    go_wp2_with fail
    go_ret
    exact ⟨_, rfl, HO.out, HB.out⟩
theorem toIntS_any (v : Value) (t : List Int) (hl : t.length ≤ 1048576) (w : World) (h : IntsAt w v t) :
    Calls Try.prog 65 #[v] w fun e w' => ∃ v', e = .returned v' ∧ w'.ownsRow w.heap.size 3 1 v' t.length (cellsI t) ∧ Below w.heap.size w w' := by
  rcases h.2 with ⟨rfl, a, cap, rfl⟩ | ⟨b, off, cap, rfl, hlt, hc⟩
  · exact toIntS_nil a cap w
  · exact toIntS_in b off cap t hl w hlt hc
theorem szIntS_any (a : Option Addr) (len cap : Nat) (left : Int) (hl : len ≤ 9223372036854775807) (h0 : 0 ≤ left) (h1 : left ≤ 9223372036854775807) (w : World) :
    Calls Try.prog 64 #[.slice a len cap, .int .i64 left] w fun e w' => e = .returned (.int .i64 (if left < len then -1 else left - len)) ∧ w' = w := by
  by_cases h : left < len
  · rw [if_pos h]
    go_enter Try.func64, Try.ntmps64
    go_wp2
    go_ret
    exact ⟨rfl, rfl⟩
  · rw [if_neg h]
    go_enter Try.func64, Try.ntmps64
    go_wp2
    go_ret
    exact ⟨rfl, rfl⟩
open Go.ChangeShapes Go.WideShapes Go.ChangeAt in
theorem intsAt_of {H : Type} {enc : TypeId × Value → H} {W : World} {a : Option Addr} {len cap : Nat} {d : DataW H} {p : List MemPlace}
    (h : DataW.Trod enc Try.prog W 0 (fun _ => true) true 24 (.slice a len cap) d p) : ∃ st : List Int, st.length = len ∧ len ≤ 9223372036854775807 ∧ (∀ s ∈ st, -9223372036854775808 ≤ s ∧ s ≤ 9223372036854775807) ∧ IntsAt W (.slice a len cap) st := by
  obtain ⟨fuel, hf⟩ := h
  rcases open_ints Try.underlying24 Try.underlying3 (by kernel_rfl) hf with ⟨hcs, _⟩ | ⟨x, l, c, zs, hcs, _, hl, hm, hz, _, hcell, hwz⟩
  · simp [Value.cells] at hcs
    obtain ⟨rfl, rfl, rfl⟩ := hcs
    exact ⟨[], rfl, by omega, by simp, by simp, Or.inl ⟨rfl, none, 0, rfl⟩⟩
  · simp [Value.cells] at hcs
    obtain ⟨rfl, rfl, rfl⟩ := hcs
    have hm' := hm
    unfold maxLen at hm'
    have hz' : zs.length = cap := by simpa using hz
    have hlen : (zs.take len).length = len := List.length_take_of_le (by omega)
    refine ⟨zs.take len, hlen, by omega, fun s hs => bounds_i64 (hwz s (List.mem_of_mem_take hs)), by omega, ?_⟩
    by_cases h0 : len = 0
    · subst h0
      exact Or.inl ⟨rfl, _, _, rfl⟩
    · obtain ⟨b, off, spot⟩ := x
      have hc := hcell 0 (by omega)
      have hspot : spot = none := by simpa [Addr.add] using World.cell?_spot hc
      subst hspot
      refine Or.inr ⟨b, off, cap, by rw [hlen], ?_, fun i s hs => ?_⟩
      · have h1 : W.cell? ⟨b, off, none⟩ = some (.int .i64 (zs.getD 0 0)) := by simpa [Addr.add] using hc
        by_cases hb : b < W.heap.size
        · exact hb
        · have e : W.heap[b]? = none := Array.getElem?_eq_none (by omega)
          simp [World.cell?, e] at h1
      · have hi : i < len := by
          have := (List.getElem?_eq_some_iff.1 hs).1
          omega
        have hci := hcell i (by omega)
        have hs' : zs[i]? = some s := by
          rw [List.getElem?_take_of_lt hi] at hs
          exact hs
        have e1 : zs.getD i 0 = s := by simp [List.getD, hs']
        rw [e1] at hci
        by_cases hi0 : i = 0
        · subst hi0
          simpa [Addr.add] using hci
        · simpa [Addr.add, hi0] using hci
end Go.Proofs.Ythamdefkcjfjpaa
