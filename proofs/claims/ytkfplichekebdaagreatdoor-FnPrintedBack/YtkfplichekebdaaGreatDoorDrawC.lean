/-
  The drawing of a state (the model's state); what the laws do besides: whether lists are the same, whether bytes are too many, a number out of bytes.
-/
import Derived.Test.YtkfplichekebdaaGreatDoorDrawB
import Derived.Test.YtkfplichekebdaaGreatDoorVars
import Derived.Test.YtkfplichekebdaaGreatDoorMarks
namespace Go.Proofs.YtkfplichekebdaaGreatDoor
open Go Go.RowKit
open M
set_option linter.unusedVariables false

theorem big_yes (a0 a1 : Option Addr) (l0 c0 l1 c1 : Nat) (h0 : l0 ≤ 9223372036854775807) (h1 : l1 ≤ 9223372036854775807) (h : 1048576 < l0 + l1) (w : World) :
    Calls Tryz.prog 5 #[.slice a0 l0 c0, .slice a1 l1 c1] w fun e w' => e = .returned (.bool true) ∧ w' = w := by
  by_cases hl : 1048576 < l0
  · go_enter Tryz.func5, Tryz.ntmps5
    go_wp2
    go_ret
    exact ⟨rfl, rfl⟩
  · have hd : decide (1048576 - (l0 : Int) < (l1 : Int)) = true := decide_eq_true (by omega)
    go_enter Tryz.func5, Tryz.ntmps5
    go_wp2
    go_ret
    exact ⟨ret_bool (by first | rfl | exact hd | exact decide_eq_false (by omega)), rfl⟩
theorem big_no (a0 a1 : Option Addr) (l0 c0 l1 c1 : Nat) (h0 : l0 ≤ 9223372036854775807) (h1 : l1 ≤ 9223372036854775807) (h : l0 + l1 ≤ 1048576) (w : World) :
    Calls Tryz.prog 5 #[.slice a0 l0 c0, .slice a1 l1 c1] w fun e w' => e = .returned (.bool false) ∧ w' = w := by
  have hd : decide (1048576 - (l0 : Int) < (l1 : Int)) = false := decide_eq_false (by omega)
  go_enter Tryz.func5, Tryz.ntmps5
  go_wp2
  go_ret
  exact ⟨ret_bool (by first | rfl | exact hd | exact decide_eq_false (by omega)), rfl⟩
theorem sum_bd (n x : Int) (h0 : 0 ≤ n) (h1 : n < 1000003) (hx0 : 0 ≤ x) (hx1 : x ≤ 255) : 0 ≤ (31 * n + x) % 1000003 ∧ (31 * n + x) % 1000003 < 1000003 := by omega
theorem cur_new (w : World) (sv : Value) (h : CodeOk w.heap.size w sv) : Cur w.heap.size w.heap.size 0 sv (w.alloc (.cells #[sv, .int .i64 0, .int .u64 0] 66)) := by
  refine ⟨Nat.le_refl _, by simp, ?_, h.below ((Below.refl _ _).alloc (Nat.le_refl _) _), ⟨0, ?_, by omega⟩, ⟨0, ?_, by omega, by omega⟩, ?_, ?_⟩
  · rw [World.cell?_alloc_new]; rfl
  · rw [World.cell?_alloc_new]; rfl
  · rw [World.cell?_alloc_new]; rfl
  · rw [World.frozen?_alloc_at (hn := rfl)]
  · rw [World.frozen?_alloc_at (hn := rfl)]
/-- a state that is drawn -/
def StateD (w w' : World) (v : Value) (st : List Int) : Prop := w'.ownsRow w.heap.size 34 1 v st.length (cellsU st) ∧ ∀ s ∈ st, 0 ≤ s ∧ s ≤ 18446744073709551615
theorem oneU_cells (w : World) (n : Int) : ∀ (j : Nat) (u : Value), ([.int .u64 n] : List Value)[j]? = some u → (w.alloc (.cells #[.int .u64 n] 34)).cell? ((⟨w.heap.size, 0, none⟩ : Addr).add j) = some u := by
  intro j u hu
  match j, hu with
  | 0, hu => simp at hu; subst hu; simp [Addr.add]
theorem equalNode (a b c d : Int) (w : World) : Sem.run Tryz.prog (Op.equalIn 10000 63 (.agg #[.int .i64 a, .int .u64 b]) (.agg #[.int .i64 c, .int .u64 d])) w = .ok (a == c && b == d) w := by
  have u3 := Tryz.underlying3
  have a3 := Tryz.isAgg3
  have z3 := Tryz.sizeOf3
  have u4 := Tryz.underlying34
  have a4 := Tryz.isAgg34
  have z4 := Tryz.sizeOf34
  have h := run_equalIn_agg (P := Tryz.prog) (w := w) 9999 63 #[.int .i64 a, .int .u64 b] #[.int .i64 c, .int .u64 d] (by kernel_rfl) (by kernel_rfl)
  rw [h]
  simp only [Program.fieldsOf, Tryz.underlying63]
  go_simp
  by_cases h1 : a = c <;> by_cases h2 : b = d <;> simp [h1, h2]
set_option maxRecDepth 100000 in
set_option maxHeartbeats 2000000 in
theorem sameNodes_in (b off cap b' off' cap' : Nat) (t : List Nd) (hl0 : t.length ≤ 9223372036854775807) (w : World)
    (hc : ∀ (i : Nat) (x : Nd), t[i]? = some x → w.cell? ⟨b, off + i * 2, none⟩ = some (.int .i64 x.1) ∧ w.cell? ⟨b, off + i * 2 + 1, none⟩ = some (.int .u64 x.2))
    (hc2 : ∀ (i : Nat) (x : Nd), t[i]? = some x → w.cell? ⟨b', off' + i * 2, none⟩ = some (.int .i64 x.1) ∧ w.cell? ⟨b', off' + i * 2 + 1, none⟩ = some (.int .u64 x.2)) :
    Calls Tryz.prog 12 #[.slice (some ⟨b, off, none⟩) t.length cap, .slice (some ⟨b', off', none⟩) t.length cap'] w fun e w' => e = .returned (.bool true) ∧ w'.heap = w.heap ∧ Below w.heap.size w w' := by
  have HC : Hid _ := hc
  have HC2 : Hid _ := hc2
  clear hc hc2
  go_enter Tryz.func12, Tryz.ntmps12
  go_wp2_with fail
  go_loopw [13] (fun i wr => ∃ j : Nat, j ≤ t.length ∧ i = .int .i64 j ∧ Hid (wr.heap = w.heap ∧ Below w.heap.size w wr)) (fun i _ => t.length - (intOf i).toNat)
  case atStart => exact ⟨0, by omega, rfl, rfl, Below.refl _ _⟩
  case round =>
    obtain ⟨j, hj, rfl, HB⟩ := hrel
    by_cases hlt' : j < t.length
    · obtain ⟨⟨op, n⟩, hx⟩ : ∃ x, t[j]? = some x := ⟨t[j], List.getElem?_eq_getElem hlt'⟩
      obtain ⟨c0, c1⟩ := HC.out j (op, n) hx
      obtain ⟨d0, d1⟩ := HC2.out j (op, n) hx
      have hcell : ∀ p : Addr, wr.cell? p = w.cell? p := fun p => by simp [World.cell?, HB.out.1]
      rw [← hcell] at c0 c1 d0 d1
      simp only at c0 c1 d0 d1
      have eqN := equalNode op n op n wr
      have eqN2 := equalNode op n op n wr.drew
      rw [show (op == op && n == n) = true from by simp] at eqN eqN2
      have HB2 : Hid (wr.drew.heap = w.heap ∧ Below w.heap.size w wr.drew) := ⟨HB.out.1, HB.out.2.drew⟩
      clear hx hcell
      go_wp2_with fail
      go_region
      all_goals
        go_wp2_with fail
        go_roundw
        case rel => exact ⟨j + 1, by omega, by go_num, HB2⟩
        case measure => simp [intOf]; omega
    · obtain rfl : j = t.length := by omega
      go_wp2_with fail
      go_ret
      exact ⟨rfl, HB.out.1, HB.out.2⟩
theorem sameNodes_nil (a a' : Option Addr) (cap cap' : Nat) (w : World) :
    Calls Tryz.prog 12 #[.slice a 0 cap, .slice a' 0 cap'] w fun e w' => e = .returned (.bool true) ∧ w' = w := by
  go_enter Tryz.func12, Tryz.ntmps12
  go_wp2_with fail
  go_loop [13] (fun i => i = .int .i64 0) (fun _ => 0)
  case atStart => rfl
  case round =>
    obtain rfl := hrel
    go_wp2_with fail
    go_ret
    exact ⟨rfl, rfl⟩
theorem sameNodes_any (u v : Value) (t : List Nd) (w : World) (h1 : NodesAt w u t) (h2 : NodesAt w v t) :
    Calls Tryz.prog 12 #[u, v] w fun e w' => e = .returned (.bool true) ∧ Below w.heap.size w w' := by
  obtain ⟨_, hls, k1⟩ := h1
  obtain ⟨_, hlt, k2⟩ := h2
  rcases k1 with ⟨rfl, a, cap, rfl⟩ | ⟨b, off, cap, rfl, hb, hc⟩
  · rcases k2 with ⟨_, a', cap', rfl⟩ | ⟨b', off', cap', rfl, _⟩
    all_goals
      refine (sameNodes_nil _ _ _ _ w).mono ?_
      rintro e w' ⟨he, rfl⟩
      exact ⟨he, Below.refl _ _⟩
  · rcases k2 with ⟨rfl, a', cap', rfl⟩ | ⟨b', off', cap', rfl, hb', hc'⟩
    · refine (sameNodes_nil _ _ _ _ w).mono ?_
      rintro e w' ⟨he, rfl⟩
      exact ⟨he, Below.refl _ _⟩
    · refine (sameNodes_in b off cap b' off' cap' t hlt w hc hc').mono ?_
      rintro e w' ⟨he, _, hb⟩
      exact ⟨he, hb⟩
end Go.Proofs.YtkfplichekebdaaGreatDoor
