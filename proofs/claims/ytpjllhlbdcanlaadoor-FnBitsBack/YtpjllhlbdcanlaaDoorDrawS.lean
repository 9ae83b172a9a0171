/-
  The cursor at its beginning; a state that is drawn.
-/
import Derived.Test.YtpjllhlbdcanlaaDoorDrawT
import Derived.Test.YtpjllhlbdcanlaaDoorU64
namespace Go.Proofs.YtpjllhlbdcanlaaDoor
open Go Go.RowKit
open M
set_option linter.unusedVariables false

theorem cur_new5 (w : World) (sv : Value) (h : CodeOk w.heap.size w sv) : Cur w.heap.size w.heap.size 0 sv (w.alloc (.cells #[sv, .int .i64 0, .int .u64 0] 63)) := by
  refine ⟨Nat.le_refl _, by simp, ?_, h.below ((Below.refl _ _).alloc (Nat.le_refl _) _), ⟨0, ?_, by omega⟩, ⟨0, ?_, by omega, by omega⟩, ?_, ?_⟩
  · rw [World.cell?_alloc_new]; rfl
  · rw [World.cell?_alloc_new]; rfl
  · rw [World.cell?_alloc_new]; rfl
  · rw [World.frozen?_alloc_at (hn := rfl)]
  · rw [World.frozen?_alloc_at (hn := rfl)]
/-- a state that is drawn -/
def StateD5 (w w' : World) (v : Value) (st : List Int) : Prop := w'.ownsRow w.heap.size 55 1 v st.length (cellsU st) ∧ ∀ s ∈ st, 0 ≤ s ∧ s ≤ 18446744073709551615
theorem oneU_cells5 (w : World) (n : Int) : ∀ (j : Nat) (u : Value), ([.int .u64 n] : List Value)[j]? = some u → (w.alloc (.cells #[.int .u64 n] 55)).cell? ((⟨w.heap.size, 0, none⟩ : Addr).add j) = some u := by
  intro j u hu
  match j, hu with
  | 0, hu => simp at hu; subst hu; simp [Addr.add]
set_option maxRecDepth 100000 in
set_option maxHeartbeats 2000000 in
theorem state_any5 (B b m : Nat) (sv : Value) (k : Nat) (n : Nat) (hk : k ≤ 65) (hn : n ≤ 5) (w : World) (hc : Cur B b m sv w) (hm : m ≤ 1000000) :
    Calls Tryd.prog 37 #[ptr b, .int .i64 k, .int .i64 (n : Int)] w fun e w' => ∃ v st, e = .returned v ∧ st.length = n ∧ StateD5 w w' v st ∧ Only b w w' ∧ Cur B b (m + 70) sv w' := by
  have HBW : Hid (b < w.heap.size) := hc.lies
  have HC0 : Hid _ := hc
  obtain ⟨i0, hi, hz0, hz1, hz2⟩ := info_parts infoU64
  have GW : Hid (∀ (m' : Nat) (w1 : World), Cur B b m' sv w1 → m' ≤ 2000000 → Calls Tryd.prog 66 #[ptr b, .int .i64 k] w1 fun e w' => ∃ x : Int, (0 ≤ x ∧ x ≤ 18446744073709551615) ∧ e = .returned (.int .u64 x) ∧ Only b w1 w' ∧ Cur B b (m' + 14) sv w') := fun m' w1 hc' hm' => word_any B b m' sv k hk w1 hc' (by omega)
  clear hc
  go_enter Tryd.func37, Tryd.ntmps37
  go_wp2_with fail
  go_loopw [7, 8] (fun v i wr => ∃ (j : Nat) (st : List Int), j ≤ n ∧ i = .int .i64 j ∧ st.length = j ∧ Hid (StateD5 w wr v st) ∧ Hid (Only b w wr) ∧ Hid (Cur B b (m + j * 14) sv wr)) (fun _ i _ => n - (intOf i).toNat)
  case atStart => exact ⟨0, [], by omega, rfl, rfl, ⟨World.ownsRow_nil _ _ _ _, fun s hs => by cases hs⟩, Only.refl _ _, by rw [Nat.zero_mul, Nat.add_zero]; exact HC0⟩
  case round =>
    obtain ⟨j, st, hj, rfl, hsl, HS, HO, HC⟩ := hrel
    by_cases hlt' : j < n
    · have g := GW.out _ wr HC.out (by omega)
      have HSL : Hid (st.length = j) := hsl
      have hst5 : st.length ≤ 5 := by omega
      clear hsl
      go_wp2_with fail
      refine g.mono ?_
      rintro e w2 ⟨x, ⟨hx0, hx1⟩, rfl, ho2, hc2⟩
      have own0 : w2.ownsRow w.heap.size 55 1 u7 st.length (cellsU st) := own_keeps HS.out.1 HBW.out ho2
      have own1 := own0.alloc (.cells #[.int .u64 x] 55)
      have HOW : Hid (w2.ownsRow w.heap.size 55 1 u7 st.length (cellsU st)) := own0
      have HO2 : Hid (Only b w w2) := HO.out.trans ho2
      have HC2 : Hid (Cur B b (m + (j + 1) * 14) sv w2) := hc2.more (by omega)
      have HX : Hid (0 ≤ x ∧ x ≤ 18446744073709551615) := ⟨hx0, hx1⟩
      have cellsN := oneU_cells5 w2 x
      have HSB : Hid _ := HS.out.2
      clear g ho2 hc2 own0 HS
      generalize hcu : cellsU st = xs0 at own1
      have HCU : Hid _ := hcu
      clear hcu
      go_wp2_with (at_builtin; refine wpList_append_own _ rfl _ _ 24 rfl w.heap.size 55 i0 (.int .u64 0) 1 8 Tryd.underlying24 hi hz0 hz1 hz2 rfl (by decide) _ _ _ rfl own1 ⟨w2.heap.size, 0, none⟩ 1 1 [.int .u64 x] rfl rfl cellsN (by intro u hu; simp at hu; subst hu; rfl) (by unfold maxLen; omega) (by omega) (by have := HO2.out.size; simp; omega) ?_)
      intro v7 w7 own7 grow7 _
      have HS7 : Hid (StateD5 w w7 v7 (st ++ [x])) := by
        refine ⟨?_, ?_⟩
        · rw [List.length_append]
          have h1 := own7
          rw [← HCU.out] at h1
          unfold cellsU at h1 ⊢
          rw [List.map_append]
          exact h1
        · intro s hs
          rcases List.mem_append.1 hs with hs | hs
          · exact HSB.out s hs
          · simp at hs
            subst hs
            exact HX.out
      have hrow : ∀ k, u7.ownBlock = some k → w.heap.size ≤ k := fun k hk => (World.ownsRow.lt HOW.out k hk).1
      have HO7 : Hid (Only b w w7) := by
        have hs := HO2.out.size
        exact ⟨grow7.os.trans HO2.out.os, grow7.tape.trans HO2.out.tape, grow7.output.trans HO2.out.output, Nat.le_trans hs (Nat.le_trans (by simp) grow7.size), fun k hk hks => by
          rw [grow7.block k (by simp; omega) (fun e => by have := hrow k e.symm; omega), Below.heap_alloc _ _ _ (by omega)]
          exact HO2.out.block k hk hks⟩
      have HC7 : Hid (Cur B b (m + (j + 1) * 14) sv w7) := by
        refine (HC2.out.alloc (.cells #[.int .u64 x] 55)).below ⟨grow7.os, grow7.tape, grow7.output, grow7.size, fun k hk => grow7.block k ?_ (fun e => ?_)⟩
        · have := HC2.out.lies
          simp
          omega
        · have := hrow k e.symm
          have := HBW.out
          omega
      clear own1 own7 grow7 cellsN hrow
      go_wp2_with fail
      go_roundw
      case rel => exact ⟨j + 1, st ++ [x], by omega, by go_num, by have := HSL.out; simp; omega, HS7, HO7, HC7⟩
      case measure => simp [intOf]; omega
    · obtain rfl : j = n := by omega
      have HR : Hid (∃ st : List Int, st.length = j ∧ StateD5 w wr u7 st ∧ Only b w wr ∧ Cur B b (m + 70) sv wr) := ⟨st, hsl, HS.out, HO.out, HC.out.more (by omega)⟩
      clear hsl HS HO HC
      go_wp2_with fail
      go_ret
      obtain ⟨st, h1, h2, h3, h4⟩ := HR.out
      exact ⟨_, st, rfl, h1, h2, h3, h4⟩
end Go.Proofs.YtpjllhlbdcanlaaDoor
