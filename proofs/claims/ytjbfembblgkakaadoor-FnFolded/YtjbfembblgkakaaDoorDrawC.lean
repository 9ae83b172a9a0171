/-
  The drawing of a state (the model's state); what the laws do besides: whether lists are the same, whether bytes are too many, a number out of bytes.
-/
import Derived.Test.YtjbfembblgkakaaDoorDrawB
import Derived.Test.YtjbfembblgkakaaDoorVars
import Derived.Test.YtjbfembblgkakaaDoorMarks
namespace Go.Proofs.YtjbfembblgkakaaDoor
open Go Go.RowKit
open M
set_option linter.unusedVariables false

theorem big_yes (a0 a1 : Option Addr) (l0 c0 l1 c1 : Nat) (h0 : l0 ≤ 9223372036854775807) (h1 : l1 ≤ 9223372036854775807) (h : 1048576 < l0 + l1) (w : World) :
    Calls Tryd.prog 18 #[.slice a0 l0 c0, .slice a1 l1 c1] w fun e w' => e = .returned (.bool true) ∧ w' = w := by
  by_cases hl : 1048576 < l0
  · go_enter Tryd.func18, Tryd.ntmps18
    go_wp2
    go_ret
    exact ⟨rfl, rfl⟩
  · have hd : decide (1048576 - (l0 : Int) < (l1 : Int)) = true := decide_eq_true (by omega)
    go_enter Tryd.func18, Tryd.ntmps18
    go_wp2
    go_ret
    exact ⟨ret_bool (by first | rfl | exact hd | exact decide_eq_false (by omega)), rfl⟩
theorem big_no (a0 a1 : Option Addr) (l0 c0 l1 c1 : Nat) (h0 : l0 ≤ 9223372036854775807) (h1 : l1 ≤ 9223372036854775807) (h : l0 + l1 ≤ 1048576) (w : World) :
    Calls Tryd.prog 18 #[.slice a0 l0 c0, .slice a1 l1 c1] w fun e w' => e = .returned (.bool false) ∧ w' = w := by
  have hd : decide (1048576 - (l0 : Int) < (l1 : Int)) = false := decide_eq_false (by omega)
  go_enter Tryd.func18, Tryd.ntmps18
  go_wp2
  go_ret
  exact ⟨ret_bool (by first | rfl | exact hd | exact decide_eq_false (by omega)), rfl⟩
theorem sum_bd (n x : Int) (h0 : 0 ≤ n) (h1 : n < 1000003) (hx0 : 0 ≤ x) (hx1 : x ≤ 255) : 0 ≤ (31 * n + x) % 1000003 ∧ (31 * n + x) % 1000003 < 1000003 := by omega
set_option maxHeartbeats 400000 in
theorem lawNumber_nil (a : Option Addr) (c : Nat) (w : World) :
    Calls Tryd.prog 51 #[.slice a 0 c] w fun e w' => ∃ x : Int, (0 ≤ x ∧ x < 1000003) ∧ e = .returned (.int .i64 x) ∧ w' = w := by
  go_enter Tryd.func51, Tryd.ntmps51
  go_wp2
  go_loop [3, 8] (fun n i => i = .int .i64 0 ∧ n = .int .i64 0) (fun _ _ => 0)
  case atStart => exact ⟨rfl, rfl⟩
  case round =>
    obtain ⟨rfl, rfl⟩ := hrel
    go_wp2
    go_ret
    exact ⟨0, ⟨by omega, by omega⟩, rfl, rfl⟩
set_option maxHeartbeats 400000 in
theorem lawNumber_row (cb off len cap : Nat) (hlen : len ≤ 9223372036854775807) (w : World) (hc : ∀ i : Nat, i < len → ∃ x : Int, w.cell? ⟨cb, off + i, none⟩ = some (.int .u8 x) ∧ 0 ≤ x ∧ x ≤ 255) :
    Calls Tryd.prog 51 #[.slice (some ⟨cb, off, none⟩) len cap] w fun e w' => ∃ x : Int, (0 ≤ x ∧ x < 1000003) ∧ e = .returned (.int .i64 x) ∧ w' = w := by
  go_enter Tryd.func51, Tryd.ntmps51
  go_wp2
  go_loop [3, 8] (fun n i => ∃ (j : Nat) (x : Int), j ≤ len ∧ i = .int .i64 j ∧ n = .int .i64 x ∧ 0 ≤ x ∧ x < 1000003) (fun _ i => len - (intOf i).toNat)
  case atStart => exact ⟨0, 0, by omega, rfl, rfl, by omega, by omega⟩
  case round =>
    obtain ⟨j, x, hj, rfl, rfl, hx0, hx1⟩ := hrel
    by_cases hlt : j < len
    · obtain ⟨y, hy, hy0, hy1⟩ := hc j hlt
      have hs := sum_bd x y hx0 hx1 hy0 hy1
      clear hc
      go_wp2
      go_round
      case rel => exact ⟨j + 1, _, by omega, by go_num, rfl, hs.1, hs.2⟩
      case measure => simp [intOf]; omega
    · go_wp2
      go_ret
      exact ⟨x, ⟨hx0, hx1⟩, rfl, rfl⟩
theorem lawNumber_any (B : Nat) (sv : Value) (w : World) (h : CodeOk B w sv) :
    Calls Tryd.prog 51 #[sv] w fun e w' => ∃ x : Int, (0 ≤ x ∧ x < 1000003) ∧ e = .returned (.int .i64 x) ∧ w' = w := by
  rcases h with ⟨a, cap, rfl⟩ | ⟨cb, off, len, cap, rfl, _, hlen, hc⟩
  · exact lawNumber_nil a cap w
  · exact lawNumber_row cb off len cap hlen w hc
theorem cur_new (w : World) (sv : Value) (h : CodeOk w.heap.size w sv) : Cur w.heap.size w.heap.size 0 sv (w.alloc (.cells #[sv, .int .i64 0, .int .u64 0] 98)) := by
  refine ⟨Nat.le_refl _, by simp, ?_, h.below ((Below.refl _ _).alloc (Nat.le_refl _) _), ⟨0, ?_, by omega⟩, ⟨0, ?_, by omega, by omega⟩, ?_, ?_⟩
  · rw [World.cell?_alloc_new]; rfl
  · rw [World.cell?_alloc_new]; rfl
  · rw [World.cell?_alloc_new]; rfl
  · rw [World.frozen?_alloc_at (hn := rfl)]
  · rw [World.frozen?_alloc_at (hn := rfl)]
/-- a state that is drawn -/
def StateD (w w' : World) (v : Value) (st : List Int) : Prop := w'.ownsRow w.heap.size 28 1 v st.length (cellsU st) ∧ ∀ s ∈ st, 0 ≤ s ∧ s ≤ 18446744073709551615
theorem oneU_cells (w : World) (n : Int) : ∀ (j : Nat) (u : Value), ([.int .u64 n] : List Value)[j]? = some u → (w.alloc (.cells #[.int .u64 n] 28)).cell? ((⟨w.heap.size, 0, none⟩ : Addr).add j) = some u := by
  intro j u hu
  match j, hu with
  | 0, hu => simp at hu; subst hu; simp [Addr.add]
set_option maxRecDepth 100000 in
set_option maxHeartbeats 2000000 in
theorem state_any (B b m : Nat) (sv : Value) (k : Nat) (n : Nat) (hk : k ≤ 65) (hn : n ≤ 5) (w : World) (hc : Cur B b m sv w) (hm : m ≤ 1000000) :
    Calls Tryd.prog 78 #[ptr b, .int .i64 k, .int .i64 (n : Int)] w fun e w' => ∃ v st, e = .returned v ∧ st.length = n ∧ StateD w w' v st ∧ Only b w w' ∧ Cur B b (m + 70) sv w' := by
  have HBW : Hid (b < w.heap.size) := hc.lies
  have HC0 : Hid _ := hc
  obtain ⟨i0, hi, hz0, hz1, hz2⟩ := info_parts infoU64
  have GW : Hid (∀ (m' : Nat) (w1 : World), Cur B b m' sv w1 → m' ≤ 2000000 → Calls Tryd.prog 135 #[ptr b, .int .i64 k] w1 fun e w' => ∃ x : Int, (0 ≤ x ∧ x ≤ 18446744073709551615) ∧ e = .returned (.int .u64 x) ∧ Only b w1 w' ∧ Cur B b (m' + 14) sv w') := fun m' w1 hc' hm' => word_any B b m' sv k hk w1 hc' (by omega)
  clear hc
  go_enter Tryd.func78, Tryd.ntmps78
  go_wp2_with fail
  go_loopw [7, 8] (fun v i wr => ∃ (j : Nat) (st : List Int), j ≤ n ∧ i = .int .i64 j ∧ st.length = j ∧ Hid (StateD w wr v st) ∧ Hid (Only b w wr) ∧ Hid (Cur B b (m + j * 14) sv wr)) (fun _ i _ => n - (intOf i).toNat)
  case atStart => exact ⟨0, [], by omega, rfl, rfl, ⟨World.ownsRow_nil _ _ _ _, fun s hs => by cases hs⟩, Only.refl _ _, by rw [Nat.zero_mul, Nat.add_zero]; exact HC0⟩
  case round =>
    obtain ⟨j, st, hj, rfl, hsl, HS, HO, HC⟩ := hrel
    by_cases hlt' : j < n
    · have g := GW.out _ wr HC.out (by omega)
      have HSL : Hid (st.length = j) := hsl
      have hst5 : st.length ≤ 5 := by omega
      clear hsl
      go_wp2_with fail
      refine g.mono ?_
      rintro e w2 ⟨x, ⟨hx0, hx1⟩, rfl, ho2, hc2⟩
      have own0 : w2.ownsRow w.heap.size 28 1 u7 st.length (cellsU st) := own_keeps HS.out.1 HBW.out ho2
      have own1 := own0.alloc (.cells #[.int .u64 x] 28)
      have HOW : Hid (w2.ownsRow w.heap.size 28 1 u7 st.length (cellsU st)) := own0
      have HO2 : Hid (Only b w w2) := HO.out.trans ho2
      have HC2 : Hid (Cur B b (m + (j + 1) * 14) sv w2) := hc2.more (by omega)
      have HX : Hid (0 ≤ x ∧ x ≤ 18446744073709551615) := ⟨hx0, hx1⟩
      have cellsN := oneU_cells w2 x
      have HSB : Hid _ := HS.out.2
      clear g ho2 hc2 own0 HS
      generalize hcu : cellsU st = xs0 at own1
      have HCU : Hid _ := hcu
      clear hcu
      go_wp2_with (at_builtin; refine wpList_append_own _ rfl _ _ 25 rfl w.heap.size 28 i0 (.int .u64 0) 1 8 Tryd.underlying25 hi hz0 hz1 hz2 rfl (by decide) _ _ _ rfl own1 ⟨w2.heap.size, 0, none⟩ 1 1 [.int .u64 x] rfl rfl cellsN (by intro u hu; simp at hu; subst hu; rfl) (by unfold maxLen; omega) (by omega) (by have := HO2.out.size; simp; omega) ?_)
      intro v7 w7 own7 grow7 _
      have HS7 : Hid (StateD w w7 v7 (st ++ [x])) := by
        refine ⟨?_, ?_⟩
        · rw [List.length_append]
          have h1 := own7
          rw [← HCU.out] at h1
          unfold cellsU at h1 ⊢
          rw [List.map_append]
          exact h1
        · intro s hs
          rcases List.mem_append.1 hs with hs | hs
          · exact HSB.out s hs
          · simp at hs
            subst hs
            exact HX.out
      have hrow : ∀ k, u7.ownBlock = some k → w.heap.size ≤ k := fun k hk => (World.ownsRow.lt HOW.out k hk).1
      have HO7 : Hid (Only b w w7) := by
        have hs := HO2.out.size
        exact ⟨grow7.os.trans HO2.out.os, grow7.tape.trans HO2.out.tape, grow7.output.trans HO2.out.output, Nat.le_trans hs (Nat.le_trans (by simp) grow7.size), fun k hk hks => by
          rw [grow7.block k (by simp; omega) (fun e => by have := hrow k e.symm; omega), Below.heap_alloc _ _ _ (by omega)]
          exact HO2.out.block k hk hks⟩
      have HC7 : Hid (Cur B b (m + (j + 1) * 14) sv w7) := by
        refine (HC2.out.alloc (.cells #[.int .u64 x] 28)).below ⟨grow7.os, grow7.tape, grow7.output, grow7.size, fun k hk => grow7.block k ?_ (fun e => ?_)⟩
        · have := HC2.out.lies
          simp
          omega
        · have := hrow k e.symm
          have := HBW.out
          omega
      clear own1 own7 grow7 cellsN hrow
      go_wp2_with fail
      go_roundw
      case rel => exact ⟨j + 1, st ++ [x], by omega, by go_num, by have := HSL.out; simp; omega, HS7, HO7, HC7⟩
      case measure => simp [intOf]; omega
    · obtain rfl : j = n := by omega
      have HR : Hid (∃ st : List Int, st.length = j ∧ StateD w wr u7 st ∧ Only b w wr ∧ Cur B b (m + 70) sv wr) := ⟨st, hsl, HS.out, HO.out, HC.out.more (by omega)⟩
      clear hsl HS HO HC
      go_wp2_with fail
      go_ret
      obtain ⟨st, h1, h2, h3, h4⟩ := HR.out
      exact ⟨_, st, rfl, h1, h2, h3, h4⟩
theorem equalNode (a b c d : Int) (w : World) : Sem.run Tryd.prog (Op.equalIn 10000 112 (.agg #[.int .i64 a, .int .u64 b]) (.agg #[.int .i64 c, .int .u64 d])) w = .ok (a == c && b == d) w := by
  have u3 := Tryd.underlying3
  have a3 := Tryd.isAgg3
  have z3 := Tryd.sizeOf3
  have u4 := Tryd.underlying28
  have a4 := Tryd.isAgg28
  have z4 := Tryd.sizeOf28
  have h := run_equalIn_agg (P := Tryd.prog) (w := w) 9999 112 #[.int .i64 a, .int .u64 b] #[.int .i64 c, .int .u64 d] (by kernel_rfl) (by kernel_rfl)
  rw [h]
  simp only [Program.fieldsOf, Tryd.underlying112]
  go_simp
  by_cases h1 : a = c <;> by_cases h2 : b = d <;> simp [h1, h2]
set_option maxRecDepth 100000 in
set_option maxHeartbeats 2000000 in
theorem sameNodes_in (b off cap b' off' cap' : Nat) (t : List Nd) (hl0 : t.length ≤ 9223372036854775807) (w : World)
    (hc : ∀ (i : Nat) (x : Nd), t[i]? = some x → w.cell? ⟨b, off + i * 2, none⟩ = some (.int .i64 x.1) ∧ w.cell? ⟨b, off + i * 2 + 1, none⟩ = some (.int .u64 x.2))
    (hc2 : ∀ (i : Nat) (x : Nd), t[i]? = some x → w.cell? ⟨b', off' + i * 2, none⟩ = some (.int .i64 x.1) ∧ w.cell? ⟨b', off' + i * 2 + 1, none⟩ = some (.int .u64 x.2)) :
    Calls Tryd.prog 24 #[.slice (some ⟨b, off, none⟩) t.length cap, .slice (some ⟨b', off', none⟩) t.length cap'] w fun e w' => e = .returned (.bool true) ∧ w'.heap = w.heap ∧ Below w.heap.size w w' := by
  have HC : Hid _ := hc
  have HC2 : Hid _ := hc2
  clear hc hc2
  go_enter Tryd.func24, Tryd.ntmps24
  go_wp2_with fail
  go_loopw [13] (fun i wr => ∃ j : Nat, j ≤ t.length ∧ i = .int .i64 j ∧ Hid (wr.heap = w.heap ∧ Below w.heap.size w wr)) (fun i _ => t.length - (intOf i).toNat)
  case atStart => exact ⟨0, by omega, rfl, rfl, Below.refl _ _⟩
  case round =>
    obtain ⟨j, hj, rfl, HB⟩ := hrel
    by_cases hlt' : j < t.length
    · obtain ⟨⟨op, n⟩, hx⟩ : ∃ x, t[j]? = some x := ⟨t[j], List.getElem?_eq_getElem hlt'⟩
      obtain ⟨c0, c1⟩ := HC.out j (op, n) hx
      obtain ⟨d0, d1⟩ := HC2.out j (op, n) hx
      have hcell : ∀ p : Addr, wr.cell? p = w.cell? p := fun p => by simp [World.cell?, HB.out.1]
      rw [← hcell] at c0 c1 d0 d1
      simp only at c0 c1 d0 d1
      have eqN := equalNode op n op n wr
      have eqN2 := equalNode op n op n wr.drew
      rw [show (op == op && n == n) = true from by simp] at eqN eqN2
      have HB2 : Hid (wr.drew.heap = w.heap ∧ Below w.heap.size w wr.drew) := ⟨HB.out.1, HB.out.2.drew⟩
      clear hx hcell
      go_wp2_with fail
      go_region
      all_goals
        go_wp2_with fail
        go_roundw
        case rel => exact ⟨j + 1, by omega, by go_num, HB2⟩
        case measure => simp [intOf]; omega
    · obtain rfl : j = t.length := by omega
      go_wp2_with fail
      go_ret
      exact ⟨rfl, HB.out.1, HB.out.2⟩
theorem sameNodes_nil (a a' : Option Addr) (cap cap' : Nat) (w : World) :
    Calls Tryd.prog 24 #[.slice a 0 cap, .slice a' 0 cap'] w fun e w' => e = .returned (.bool true) ∧ w' = w := by
  go_enter Tryd.func24, Tryd.ntmps24
  go_wp2_with fail
  go_loop [13] (fun i => i = .int .i64 0) (fun _ => 0)
  case atStart => rfl
  case round =>
    obtain rfl := hrel
    go_wp2_with fail
    go_ret
    exact ⟨rfl, rfl⟩
theorem sameNodes_any (u v : Value) (t : List Nd) (w : World) (h1 : NodesAt w u t) (h2 : NodesAt w v t) :
    Calls Tryd.prog 24 #[u, v] w fun e w' => e = .returned (.bool true) ∧ Below w.heap.size w w' := by
  obtain ⟨_, hls, k1⟩ := h1
  obtain ⟨_, hlt, k2⟩ := h2
  rcases k1 with ⟨rfl, a, cap, rfl⟩ | ⟨b, off, cap, rfl, hb, hc⟩
  · rcases k2 with ⟨_, a', cap', rfl⟩ | ⟨b', off', cap', rfl, _⟩
    all_goals
      refine (sameNodes_nil _ _ _ _ w).mono ?_
      rintro e w' ⟨he, rfl⟩
      exact ⟨he, Below.refl _ _⟩
  · rcases k2 with ⟨rfl, a', cap', rfl⟩ | ⟨b', off', cap', rfl, hb', hc'⟩
    · refine (sameNodes_nil _ _ _ _ w).mono ?_
      rintro e w' ⟨he, rfl⟩
      exact ⟨he, Below.refl _ _⟩
    · refine (sameNodes_in b off cap b' off' cap' t hlt w hc hc').mono ?_
      rintro e w' ⟨he, _, hb⟩
      exact ⟨he, hb⟩
set_option maxRecDepth 100000 in
set_option maxHeartbeats 2000000 in
theorem sameInts_in (b off cap b' off' cap' : Nat) (t : List Int) (hl0 : t.length ≤ 9223372036854775807) (w : World)
    (hc : ∀ (i : Nat) (x : Int), t[i]? = some x → w.cell? ⟨b, off + i, none⟩ = some (.int .i64 x))
    (hc2 : ∀ (i : Nat) (x : Int), t[i]? = some x → w.cell? ⟨b', off' + i, none⟩ = some (.int .i64 x)) :
    Calls Tryd.prog 27 #[.slice (some ⟨b, off, none⟩) t.length cap, .slice (some ⟨b', off', none⟩) t.length cap'] w fun e w' => e = .returned (.bool true) ∧ w'.heap = w.heap ∧ Below w.heap.size w w' := by
  have HC : Hid _ := hc
  have HC2 : Hid _ := hc2
  clear hc hc2
  go_enter Tryd.func27, Tryd.ntmps27
  go_wp2_with fail
  go_loopw [13] (fun i wr => ∃ j : Nat, j ≤ t.length ∧ i = .int .i64 j ∧ Hid (wr.heap = w.heap ∧ Below w.heap.size w wr)) (fun i _ => t.length - (intOf i).toNat)
  case atStart => exact ⟨0, by omega, rfl, rfl, Below.refl _ _⟩
  case round =>
    obtain ⟨j, hj, rfl, HB⟩ := hrel
    by_cases hlt' : j < t.length
    · obtain ⟨x, hx⟩ : ∃ x, t[j]? = some x := ⟨t[j], List.getElem?_eq_getElem hlt'⟩
      have c0 := HC.out j x hx
      have d0 := HC2.out j x hx
      have hcell : ∀ p : Addr, wr.cell? p = w.cell? p := fun p => by simp [World.cell?, HB.out.1]
      rw [← hcell] at c0 d0
      have HB2 : Hid (wr.drew.heap = w.heap ∧ Below w.heap.size w wr.drew) := ⟨HB.out.1, HB.out.2.drew⟩
      clear hx hcell
      go_wp2_with fail
      go_region
      all_goals
        go_wp2_with fail
        go_roundw
        case rel => exact ⟨j + 1, by omega, by go_num, HB2⟩
        case measure => simp [intOf]; omega
    · obtain rfl : j = t.length := by omega
      go_wp2_with fail
      go_ret
      exact ⟨rfl, HB.out.1, HB.out.2⟩
theorem sameInts_nil (a a' : Option Addr) (cap cap' : Nat) (w : World) :
    Calls Tryd.prog 27 #[.slice a 0 cap, .slice a' 0 cap'] w fun e w' => e = .returned (.bool true) ∧ w' = w := by
  go_enter Tryd.func27, Tryd.ntmps27
  go_wp2_with fail
  go_loop [13] (fun i => i = .int .i64 0) (fun _ => 0)
  case atStart => rfl
  case round =>
    obtain rfl := hrel
    go_wp2_with fail
    go_ret
    exact ⟨rfl, rfl⟩
theorem sameInts_any (u v : Value) (t : List Int) (w : World) (h1 : IntsAt w u t) (h2 : IntsAt w v t) :
    Calls Tryd.prog 27 #[u, v] w fun e w' => e = .returned (.bool true) ∧ Below w.heap.size w w' := by
  obtain ⟨hls, k1⟩ := h1
  obtain ⟨hlt, k2⟩ := h2
  rcases k1 with ⟨rfl, a, cap, rfl⟩ | ⟨b, off, cap, rfl, hb, hc⟩
  · rcases k2 with ⟨_, a', cap', rfl⟩ | ⟨b', off', cap', rfl, _⟩
    all_goals
      refine (sameInts_nil _ _ _ _ w).mono ?_
      rintro e w' ⟨he, rfl⟩
      exact ⟨he, Below.refl _ _⟩
  · rcases k2 with ⟨rfl, a', cap', rfl⟩ | ⟨b', off', cap', rfl, hb', hc'⟩
    · refine (sameInts_nil _ _ _ _ w).mono ?_
      rintro e w' ⟨he, rfl⟩
      exact ⟨he, Below.refl _ _⟩
    · refine (sameInts_in b off cap b' off' cap' t hlt w hc hc').mono ?_
      rintro e w' ⟨he, _, hb⟩
      exact ⟨he, hb⟩
end Go.Proofs.YtjbfembblgkakaaDoor
