/-
  The model's bits of a state.
  The program's BitsOf, at any arguments.
  The model's BitsOf, at any arguments.
  Plain mathematics of words out of bits. No program stands in it.
  The program's StateFrom.
  What wires carry: the program's carried and AllWires.
  AllWires of the model and of the program, as the law's walk takes them.
  What outs carry: RunCircuit of the model and of the program.
  RunLaid: the program's and the model's.
  GateCount: the program's and the model's.
-/
import Derived.Test.YtpjllhlbdcanlaaDoorKL54
import Derived.Test.YtpjllhlbdcanlaaDoorOwn5
import Derived.Test.YtpjllhlbdcanlaaDoorKL53
import Derived.Test.YtpjllhlbdcanlaaDoorPut
import Derived.Test.YtpjllhlbdcanlaaDoorRun
import Derived.Test.YtpjllhlbdcanlaaDoorIGood4
import Derived.Test.YtpjllhlbdcanlaaDoorDo
import Derived.Test.YtpjllhlbdcanlaaDoorKL51
import Derived.Test.YtpjllhlbdcanlaaDoorKL52
namespace Go.Proofs.YtpjllhlbdcanlaaDoor
open Go Go.RowKit
open M
set_option linter.unusedVariables false
set_option linter.unusedSimpArgs false

set_option maxRecDepth 100000 in
set_option maxHeartbeats 8000000 in
theorem sBits_in (W : Nat) (h1 : 1 ≤ W) (h4 : W ≤ 4) (b off cap : Nat) (st : List Int) (hn1 : 1 ≤ st.length) (hn4 : st.length ≤ 4) (hst : ∀ s ∈ st, 0 ≤ s ∧ s ≤ 18446744073709551615) (w : World) (hlt : b < w.heap.size)
    (hc : ∀ (i : Nat) (s : Int), st[i]? = some s → w.cell? ⟨b, off + i, none⟩ = some (.int .u64 s)) :
    Calls Tryd.prog 45 #[.int .i64 W, .slice (some ⟨b, off, none⟩) st.length cap] w fun e w' => ∃ r, e = .returned r ∧ w'.ownsRow w.heap.size 4 1 r (bitsL W st).length (cellsB (bitsL W st)) ∧ Below w.heap.size w w' := by
  obtain ⟨i0, hi, hz0, hz1, hz2⟩ := info_parts infoBool
  have HC : Hid (∀ w' : World, Below w.heap.size w w' → ∀ (i : Nat) (s : Int), st[i]? = some s → w'.cell? ⟨b, off + i, none⟩ = some (.int .u64 s)) := fun w' hb i s hs => (hb.cell (p := ⟨b, off + i, none⟩) hlt).trans (hc i s hs)
  have HST : Hid (∀ s ∈ st, 0 ≤ s ∧ s ≤ 18446744073709551615) := hst
  clear hc hst
  generalize hnn : st.length = n at *
  have HN : Hid (st.length = n) := hnn
  clear hnn
  go_enter Tryd.func45, Tryd.ntmps45
  go_wp2_with fail
  have HO3 : Hid (w.ownsRow w.heap.size 4 1 (.slice none 0 0) 0 []) := World.ownsRow_nil _ _ _ _
  have HB3 : Hid (Below w.heap.size w w) := Below.refl _ _
  go_loopw [5, 11] (fun v i wr => ∃ j : Nat, j ≤ n ∧ i = .int .i64 j ∧ Hid (wr.ownsRow w.heap.size 4 1 v (bitsL W (st.take j)).length (cellsB (bitsL W (st.take j)))) ∧ Hid (Below w.heap.size w wr)) (fun _ i _ => n - (intOf i).toNat)
  case atStart => exact ⟨0, by omega, rfl, HO3, HB3⟩
  case round =>
    obtain ⟨j, hj, rfl, HO, HB⟩ := hrel
    generalize wr = wq at *
    clear HO3 HB3
    by_cases hlt2 : j < n
    · obtain ⟨s, hs⟩ : ∃ s, st[j]? = some s := ⟨st[j]'(by have := HN.out; omega), List.getElem?_eq_getElem _⟩
      have cs := HC.out wq HB.out j s hs
      obtain ⟨hs0, hs1⟩ := HST.out s (List.mem_of_getElem? hs)
      have hbl : b < wq.heap.size := Nat.lt_of_lt_of_le hlt HB.out.size
      have HT1 : Hid (bitsL W (st.take (j + 1)) = bitsL W (st.take j) ++ bits1 W s) := by
        show bitsL W (st.take (j + 1)) = _
        rw [List.take_add_one, hs, ← bitsL_snoc]
        rfl
      have hbll : (bitsL W (st.take j)).length ≤ 16 := by
        rw [bitsL_len]
        have h5 : (st.take j).length ≤ 4 := by rw [List.length_take]; omega
        exact Nat.mul_le_mul h5 h4
      obtain ⟨L, hL⟩ : ∃ L, bitsL W (st.take j) = L := ⟨_, rfl⟩
      rw [hL] at HO HT1 hbll
      obtain ⟨va, vcp, hv⟩ := own_shape HO.out
      subst hv
      have hjA : (j : Int) < (n : Int) := by omega
      clear hL hs
      obtain ⟨ln, hln⟩ : ∃ ln, L.length = ln := ⟨_, rfl⟩
      rw [hln] at HO ⊢
      have HLN : Hid (L.length = ln) := hln
      have hln16 : ln ≤ 16 := by omega
      clear hln hbll
      go_wp2_with fail
      go_loopw [5, 8] (fun v i wr => ∃ k : Nat, k ≤ W ∧ i = .int .i64 k ∧ Hid (wr.ownsRow w.heap.size 4 1 v (ln + k) (cellsB (L ++ bits1 k s))) ∧ Hid (Below w.heap.size w wr)) (fun _ i _ => W - (intOf i).toNat)
      case atStart => exact ⟨0, by omega, rfl, (by show World.ownsRow _ _ _ _ _ (ln + 0) (cellsB (L ++ [])); rw [List.append_nil]; exact HO.out), HB⟩
      case round =>
        obtain ⟨k, hk, rfl, HOk, HBk⟩ := hrel
        by_cases hlt3 : k < W
        · obtain ⟨va2, vcp2, hv2⟩ := own_shape HOk.out
          subst hv2
          have hbit := bits_bit1 s hs0 hs1 k
          obtain ⟨z, hz⟩ : ∃ z : Bool, (bitI s k == 1) = z := ⟨_, rfl⟩
          have HS : Hid (bits1 (k + 1) s = bits1 k s ++ [z]) := by
            show bits1 (k + 1) s = _
            rw [bits1_snoc, hz]
          have hzz : (bits BinOp.and IntKind.u64 (s / 2 ^ k) 1 == 1) = z := by rw [hbit]; exact hz
          have own6 := World.ownsRow.alloc HOk.out (.cells #[.bool z] 4)
          have hb6 : Below w.heap.size w (wr.alloc (.cells #[.bool z] 4)) := HBk.out.alloc HBk.out.size _
          have hs6 := hb6.size
          have hkA : (k : Int) < (W : Int) := by omega
          have hlk : ln + k ≤ 20 := by omega
          clear hbit hz HOk HBk
          go_wp2_with (at_builtin; refine wpList_append_own _ rfl _ _ 27 rfl w.heap.size 4 i0 (.bool false) 1 1 Tryd.underlying27 hi hz0 hz1 hz2 rfl (by decide) _ _ _ rfl own6 ⟨wr.heap.size, 0, none⟩ 1 1 [.bool z] rfl rfl (oneB_cells wr z) (bools_one [z]) (by unfold maxLen; omega) (by omega) hs6 ?_)
          intro v7 w7 own7 grow7 _
          have HB7 : Hid (Below w.heap.size w w7) := below_app hb6 (by omega) (Nat.le_refl _) own6 grow7
          have HO7 : Hid (w7.ownsRow w.heap.size 4 1 v7 (ln + (k + 1)) (cellsB (L ++ bits1 (k + 1) s))) := by
            show w7.ownsRow w.heap.size 4 1 v7 (ln + (k + 1)) (cellsB (L ++ bits1 (k + 1) s))
            rw [HS.out, ← List.append_assoc, cellsB_append, ← Nat.add_assoc]
            exact own7
          clear own6 own7 grow7 hb6 HS
          go_wp2_with fail
          go_roundw
          case rel => exact ⟨k + 1, by omega, by go_num, HO7, HB7⟩
          case measure => simp [intOf]; omega
        · obtain rfl : k = W := by omega
          have HO9 : Hid (wr.ownsRow w.heap.size 4 1 u5 (bitsL k (st.take (j + 1))).length (cellsB (bitsL k (st.take (j + 1))))) := by
            show wr.ownsRow w.heap.size 4 1 u5 (bitsL k (st.take (j + 1))).length (cellsB (bitsL k (st.take (j + 1))))
            rw [HT1.out, List.length_append, bits1_len, HLN.out]
            exact HOk.out
          clear HOk
          go_wp2_with fail
          go_roundw
          case rel => exact ⟨j + 1, by omega, by go_num, HO9, HBk⟩
          case measure => simp [intOf]; omega
    · obtain rfl : j = n := by omega
      have HO9 : Hid (wq.ownsRow w.heap.size 4 1 u5 (bitsL W st).length (cellsB (bitsL W st))) := by
        have h1 := HO.out
        rw [← HN.out, List.take_length] at h1
        exact h1
      clear HO HC
      go_wp2_with fail
      go_ret
      exact ⟨_, rfl, HO9.out, HB.out⟩
end Go.Proofs.YtpjllhlbdcanlaaDoor

namespace Go.Proofs.YtpjllhlbdcanlaaDoor
open Go Go.RowKit
open M
set_option linter.unusedVariables false
set_option linter.unusedSimpArgs false

set_option maxRecDepth 100000 in
set_option maxHeartbeats 8000000 in
theorem iBitsOf_bad (W : Nat) (h1 : 1 ≤ W) (h4 : W ≤ 4) (b off cap : Nat) (st : List Int) (hn1 : 1 ≤ st.length) (hn4 : st.length ≤ 4) (hst : ∀ s ∈ st, 0 ≤ s ∧ s ≤ 18446744073709551615) (hall : st.all (goodB W) = false) (w : World) (hT : Tab w) (hlt : b < w.heap.size)
    (hc : ∀ (i : Nat) (s : Int), st[i]? = some s → w.cell? ⟨b, off + i, none⟩ = some (.int .u64 s)) (gl : Calls Tryd.prog 39 #[.int .i64 W] w fun e w' => e = .returned (.bool true) ∧ w' = w) :
    Calls Tryd.prog 10 #[.int .i64 W, .slice (some ⟨b, off, none⟩) st.length cap] w fun e w' => e = .returned (.tuple #[.slice none 0 0, .bool false]) ∧ Below w.heap.size w w' := by
  have g2 := goodVars_yes st.length (by omega) w
  obtain ⟨i0, hi, hz0, hz1, hz2⟩ := info_parts infoBool
  obtain ⟨m, hm⟩ : ∃ m : Nat, W * st.length = m := ⟨_, rfl⟩
  have hm1 : m ≤ 16 := by rw [← hm]; exact Nat.mul_le_mul h4 hn4
  have hmi : (W : Int) * (st.length : Int) = (m : Int) := by rw [← hm]; exact (Int.natCast_mul W st.length).symm
  have HC : Hid (∀ w' : World, Below w.heap.size w w' → ∀ (i : Nat) (s : Int), st[i]? = some s → w'.cell? ⟨b, off + i, none⟩ = some (.int .u64 s)) := fun w' hb i s hs => (hb.cell (p := ⟨b, off + i, none⟩) hlt).trans (hc i s hs)
  have HG : Hid (∀ (i : Nat) (s : Int) (w' : World), st[i]? = some s → Below w.heap.size w w' → Calls Tryd.prog 41 #[.int .i64 W, .int .u64 s] w' fun e w'' => e = .returned (.bool (goodB W s)) ∧ w'' = w') := by
    intro i s w' hs hb
    exact iGoodWord_any W s w' (hT.below hb hT.some)
  have HALL : Hid (st.all (goodB W) = false) := hall
  have HST : Hid (∀ s ∈ st, 0 ≤ s ∧ s ≤ 18446744073709551615) := hst
  clear hc hall hT hst hm
  generalize hnn : st.length = n at *
  have HN : Hid (st.length = n) := hnn
  clear hnn
  go_enter Tryd.func10, Tryd.ntmps10
  go_wp2_with fail
  refine gl.mono ?_
  rintro e w1 ⟨rfl, rfl⟩
  go_wp2_with fail
  refine g2.mono ?_
  rintro e w1 ⟨rfl, rfl⟩
  go_wp2_with (at_make; refine wpList_make_own _ rfl _ _ 27 rfl w1.heap.size 4 i0 (.bool false) 1 Tryd.underlying27 hi hz0 hz1 .i64 .i64 _ m rfl rfl (by first | exact hmi | omega) (by rw [hz2]; omega) (by unfold maxLen; omega) (Nat.le_refl _) ?_)
  intro w3 own3 grow3
  have HO3 : Hid (w3.ownsRow w1.heap.size 4 1 (.slice (some ⟨w1.heap.size, 0, none⟩) 0 m) 0 []) := own3
  have HB3 : Hid (Below w1.heap.size w1 w3) := (Below.refl _ _).grown grow3 (Nat.le_refl _) (fun k hk => by cases hk)
  clear own3 grow3 gl g2
  go_wp2_with fail
  go_loopw [6, 26] (fun v i wr => ∃ j : Nat, j ≤ n ∧ i = .int .i64 j ∧ Hid ((st.take j).all (goodB W) = true) ∧ Hid (wr.ownsRow w1.heap.size 4 1 v (bitsL W (st.take j)).length (cellsB (bitsL W (st.take j)))) ∧ Hid (Below w1.heap.size w1 wr)) (fun _ i _ => n - (intOf i).toNat)
  case atStart => exact ⟨0, by omega, rfl, rfl, HO3, HB3⟩
  case round =>
    obtain ⟨j, hj, rfl, HA, HO, HB⟩ := hrel
    generalize wr = wq at *
    clear HO3 HB3
    by_cases hlt2 : j < n
    · obtain ⟨s, hs⟩ : ∃ s, st[j]? = some s := ⟨st[j]'(by have := HN.out; omega), List.getElem?_eq_getElem _⟩
      have cs := HC.out wq HB.out j s hs
      have g3 := HG.out j s wq hs HB.out
      obtain ⟨hs0, hs1⟩ := HST.out s (List.mem_of_getElem? hs)
      have hbl : b < wq.heap.size := Nat.lt_of_lt_of_le hlt HB.out.size
      have HT1 : Hid (bitsL W (st.take (j + 1)) = bitsL W (st.take j) ++ bits1 W s) := by
        show bitsL W (st.take (j + 1)) = _
        rw [List.take_add_one, hs, ← bitsL_snoc]
        rfl
      have hbll : (bitsL W (st.take j)).length ≤ 16 := by
        rw [bitsL_len]
        have h5 : (st.take j).length ≤ 4 := by rw [List.length_take]; omega
        exact Nat.mul_le_mul h5 h4
      obtain ⟨L, hL⟩ : ∃ L, bitsL W (st.take j) = L := ⟨_, rfl⟩
      rw [hL] at HO HT1 hbll
      obtain ⟨va, vcp, hv⟩ := own_shape HO.out
      subst hv
      have hjA : (j : Int) < (n : Int) := by omega
      have HS9 : Hid (st[j]? = some s) := hs
      clear hL hs
      obtain ⟨ln, hln⟩ : ∃ ln, L.length = ln := ⟨_, rfl⟩
      rw [hln] at HO ⊢
      have HLN : Hid (L.length = ln) := hln
      have hln16 : ln ≤ 16 := by omega
      clear hln hbll
      cases hgd : goodB W s with
      | true =>
        rw [hgd] at g3
        have HA9 : Hid ((st.take (j + 1)).all (goodB W) = true) := by
          show (st.take (j + 1)).all (goodB W) = true
          rw [List.take_add_one, HS9.out, List.all_append, HA.out]
          simp [hgd]
        clear hgd HS9
        go_wp2_with fail
        refine g3.mono ?_
        rintro e w4 ⟨rfl, hw4⟩
        have hw5 := hw4.symm
        subst hw5
        clear g3 hw4
        go_wp2_with fail
        go_loopw [6, 35] (fun v i wr => ∃ k : Nat, k ≤ W ∧ i = .int .i64 k ∧ Hid (wr.ownsRow w1.heap.size 4 1 v (ln + k) (cellsB (L ++ bits1 k s))) ∧ Hid (Below w1.heap.size w1 wr)) (fun _ i _ => W - (intOf i).toNat)
        case atStart => exact ⟨0, by omega, rfl, (by show World.ownsRow _ _ _ _ _ (ln + 0) (cellsB (L ++ [])); rw [List.append_nil]; exact HO.out), HB⟩
        case round =>
          obtain ⟨k, hk, rfl, HOk, HBk⟩ := hrel
          by_cases hlt3 : k < W
          · obtain ⟨va2, vcp2, hv2⟩ := own_shape HOk.out
            subst hv2
            have hbit := bits_bit1 s hs0 hs1 k
            obtain ⟨z, hz⟩ : ∃ z : Bool, (bitI s k == 1) = z := ⟨_, rfl⟩
            have HS : Hid (bits1 (k + 1) s = bits1 k s ++ [z]) := by
              show bits1 (k + 1) s = _
              rw [bits1_snoc, hz]
            have hzz : (bits BinOp.and IntKind.u64 (s / 2 ^ k) 1 == 1) = z := by rw [hbit]; exact hz
            have own6 := World.ownsRow.alloc HOk.out (.cells #[.bool z] 4)
            have hb6 : Below w1.heap.size w1 (wr.alloc (.cells #[.bool z] 4)) := HBk.out.alloc HBk.out.size _
            have hs6 := hb6.size
            have hkA : (k : Int) < (W : Int) := by omega
            have hlk : ln + k ≤ 20 := by omega
            clear hbit hz HOk HBk
            go_wp2_with (at_builtin; refine wpList_append_own _ rfl _ _ 27 rfl w1.heap.size 4 i0 (.bool false) 1 1 Tryd.underlying27 hi hz0 hz1 hz2 rfl (by decide) _ _ _ rfl own6 ⟨wr.heap.size, 0, none⟩ 1 1 [.bool z] rfl rfl (oneB_cells wr z) (bools_one [z]) (by unfold maxLen; omega) (by omega) hs6 ?_)
            intro v7 w7 own7 grow7 _
            have HB7 : Hid (Below w1.heap.size w1 w7) := below_app hb6 (by omega) (Nat.le_refl _) own6 grow7
            have HO7 : Hid (w7.ownsRow w1.heap.size 4 1 v7 (ln + (k + 1)) (cellsB (L ++ bits1 (k + 1) s))) := by
              show w7.ownsRow w1.heap.size 4 1 v7 (ln + (k + 1)) (cellsB (L ++ bits1 (k + 1) s))
              rw [HS.out, ← List.append_assoc, cellsB_append, ← Nat.add_assoc]
              exact own7
            clear own6 own7 grow7 hb6 HS
            go_wp2_with fail
            go_roundw
            case rel => exact ⟨k + 1, by omega, by go_num, HO7, HB7⟩
            case measure => simp [intOf]; omega
          · obtain rfl : k = W := by omega
            have HO9 : Hid (wr.ownsRow w1.heap.size 4 1 u6 (bitsL k (st.take (j + 1))).length (cellsB (bitsL k (st.take (j + 1))))) := by
              show wr.ownsRow w1.heap.size 4 1 u6 (bitsL k (st.take (j + 1))).length (cellsB (bitsL k (st.take (j + 1))))
              rw [HT1.out, List.length_append, bits1_len, HLN.out]
              exact HOk.out
            clear HOk
            go_wp2_with fail
            go_roundw
            case rel => exact ⟨j + 1, by omega, by go_num, HA9, HO9, HBk⟩
            case measure => simp [intOf]; omega
      | false =>
        rw [hgd] at g3
        clear HS9 HO hgd
        go_wp2_with fail
        refine g3.mono ?_
        rintro e w4 ⟨rfl, hw4⟩
        have hw5 := hw4.symm
        subst hw5
        clear g3 hw4
        go_wp2_with fail
        go_ret2
        exact ⟨rfl, HB.out⟩
    · obtain rfl : j = n := by omega
      exfalso
      have h1 := HA.out
      rw [← HN.out, List.take_length, HALL.out] at h1
      cases h1
/-- what BitsOf answers -/
def bitsOk (wide : Int) (st : List Int) : Bool := decide (1 ≤ wide ∧ wide ≤ 4) && (decide (1 ≤ st.length ∧ st.length ≤ 4) && st.all (goodB wide))
def bitsR (wide : Int) (st : List Int) : List Bool := if bitsOk wide st = true then bitsL wide.toNat st else []
theorem bitsR_no {wide : Int} {st : List Int} (h : bitsOk wide st = false) : bitsR wide st = [] := by unfold bitsR; rw [h]; rfl
theorem bitsR_len (wide : Int) (st : List Int) : (bitsR wide st).length ≤ 16 := by
  unfold bitsR bitsOk
  split
  · rename_i h
    simp only [Bool.and_eq_true, decide_eq_true_eq] at h
    rw [bitsL_len]
    exact Nat.mul_le_mul h.2.1.2 (show wide.toNat ≤ 4 by omega)
  · simp
theorem own_nilB (w : World) (lo hi : Nat) (h : hi ≤ w.heap.size) : OwnBS w lo hi (.slice none 0 0) [] := ⟨World.ownsRow_nil _ _ _ _, (fun k hk => by cases hk), h⟩
set_option maxRecDepth 100000 in
set_option maxHeartbeats 2000000 in
theorem iBitsOf_any (wide : Int) (v : Value) (st : List Int) (w : World) (hT : Tab w) (h : WordsAt w v st) :
    Calls Tryd.prog 10 #[.int .i64 wide, v] w fun e w' => ∃ r, e = .returned (.tuple #[r, .bool (bitsOk wide st)]) ∧ OwnBS w' w.heap.size w'.heap.size r (bitsR wide st) ∧ Below w.heap.size w w' := by
  have g1 := goodLaid_any wide w
  obtain ⟨a, cap, rfl⟩ := h.shape
  have hln := h.2.1
  by_cases hw : 1 ≤ wide ∧ wide ≤ 4
  · by_cases hn : 1 ≤ st.length ∧ st.length ≤ 4
    · obtain ⟨W, rfl⟩ : ∃ W : Nat, wide = (W : Int) := ⟨wide.toNat, by omega⟩
      rw [decide_eq_true hw] at g1
      rcases h.2.2 with ⟨rfl, _⟩ | ⟨b, off, cap', hv, hlt, hc⟩
      · simp at hn
      rw [hv]
      cases hall : st.all (goodB W) with
      | true =>
        have hb : bitsOk W st = true := by unfold bitsOk; rw [decide_eq_true hw, decide_eq_true hn, hall]; rfl
        have hr : bitsR W st = bitsL W st := by unfold bitsR; rw [if_pos hb]; simp
        rw [hb, hr]
        refine (iBitsOf_in W (by omega) (by omega) b off cap' st hn.1 hn.2 h.1 hall w hT hlt hc g1).mono ?_
        rintro e w' ⟨r, he, ho, hb⟩
        exact ⟨r, he, rowIn_of ho, hb⟩
      | false =>
        have hb : bitsOk W st = false := by unfold bitsOk; rw [hall, Bool.and_false, Bool.and_false]
        rw [hb, bitsR_no hb]
        refine (iBitsOf_bad W (by omega) (by omega) b off cap' st hn.1 hn.2 h.1 hall w hT hlt hc g1).mono ?_
        rintro e w' ⟨he, hb⟩
        exact ⟨_, he, own_nilB _ _ _ (Nat.le_refl _), hb⟩
    · have hb : bitsOk wide st = false := by unfold bitsOk; rw [decide_eq_false hn, Bool.false_and, Bool.and_false]
      rw [hb, bitsR_no hb]
      rw [decide_eq_true hw] at g1
      have g2 := goodVars_no st.length (by omega) w
      generalize st.length = n at *
      clear h hb
      go_enter Tryd.func10, Tryd.ntmps10
      go_wp2_with fail
      refine g1.mono ?_
      rintro e w1 ⟨rfl, rfl⟩
      go_wp2_with fail
      refine g2.mono ?_
      rintro e w1 ⟨rfl, rfl⟩
      go_wp2_with fail
      go_ret2
      exact ⟨_, rfl, own_nilB _ _ _ (Nat.le_refl _), Below.refl _ _⟩
  · have hb : bitsOk wide st = false := by unfold bitsOk; rw [decide_eq_false hw, Bool.false_and]
    rw [hb, bitsR_no hb]
    rw [decide_eq_false hw] at g1
    generalize st.length = n at *
    clear h hb
    go_enter Tryd.func10, Tryd.ntmps10
    go_wp2_with fail
    refine g1.mono ?_
    rintro e w1 ⟨rfl, rfl⟩
    go_wp2_with fail
    go_ret2
    exact ⟨_, rfl, own_nilB _ _ _ (Nat.le_refl _), Below.refl _ _⟩
end Go.Proofs.YtpjllhlbdcanlaaDoor

namespace Go.Proofs.YtpjllhlbdcanlaaDoor
open Go Go.RowKit
open M
set_option linter.unusedVariables false
set_option linter.unusedSimpArgs false

set_option maxRecDepth 100000 in
set_option maxHeartbeats 2000000 in
theorem sBitsOf_any (wide : Int) (v : Value) (st : List Int) (hl : st.length ≤ 1048576) (w : World) (h : WordsAt w v st) :
    Calls Tryd.prog 11 #[.int .i64 wide, v] w fun e w' => ∃ r, e = .returned (.tuple #[r, .bool (bitsOk wide st)]) ∧ OwnBS w' w.heap.size w'.heap.size r (bitsR wide st) ∧ Below w.heap.size w w' := by
  have g1 := l5Wide_any wide w
  have g2 := l1In_any (st.length : Int) 1 4 w
  have g3 := l2Words_any wide v st ⟨hl, h.1⟩ w h.2.2
  obtain ⟨a, cap, rfl⟩ := h.shape
  have hln := h.2.1
  by_cases hw : 1 ≤ wide ∧ wide ≤ 4
  · rw [decide_eq_true hw] at g1
    by_cases hn : 1 ≤ st.length ∧ st.length ≤ 4
    · rw [decide_eq_true (by omega)] at g2
      obtain ⟨W, rfl⟩ : ∃ W : Nat, wide = (W : Int) := ⟨wide.toNat, by omega⟩
      cases hall : st.all (goodB W) with
      | true =>
        have hb : bitsOk W st = true := by unfold bitsOk; rw [decide_eq_true hw, decide_eq_true hn, hall]; rfl
        have hr : bitsR W st = bitsL W st := by unfold bitsR; rw [if_pos hb]; simp
        rw [hb, hr]
        have g4 : Calls Tryd.prog 45 #[.int .i64 W, .slice a st.length cap] w fun e w' => ∃ r, e = .returned r ∧ w'.ownsRow w.heap.size 4 1 r (bitsL W st).length (cellsB (bitsL W st)) ∧ Below w.heap.size w w' := by
          rcases h.2.2 with ⟨rfl, _⟩ | ⟨b, off, cap', hv, hlt, hc⟩
          · simp at hn
          rw [hv]
          exact sBits_in W (by omega) (by omega) b off cap' st hn.1 hn.2 h.1 w hlt hc
        rw [hall] at g3
        generalize bitsL W st = L at *
        generalize st.length = n at *
        clear h hb hr hall
        go_enter Tryd.func11, Tryd.ntmps11
        go_wp2_with fail
        refine g1.mono ?_
        rintro e w1 ⟨rfl, rfl⟩
        go_wp2_with fail
        refine g2.mono ?_
        rintro e w1 ⟨rfl, rfl⟩
        go_wp2_with fail
        refine g3.mono ?_
        rintro e w1 ⟨rfl, rfl⟩
        go_wp2_with fail
        refine g4.mono ?_
        rintro e w2 ⟨r, rfl, ho, hb⟩
        have HO : Hid (OwnBS w2 w1.heap.size w2.heap.size r L) := rowIn_of ho
        have HB : Hid (Below w1.heap.size w1 w2) := hb
        clear ho hb
        go_wp2_with fail
        go_ret2
        exact ⟨_, rfl, HO.out, HB.out⟩
      | false =>
        have hb : bitsOk W st = false := by unfold bitsOk; rw [hall, Bool.and_false, Bool.and_false]
        rw [hb, bitsR_no hb]
        rw [hall] at g3
        generalize st.length = n at *
        clear h hb hall
        go_enter Tryd.func11, Tryd.ntmps11
        go_wp2_with fail
        refine g1.mono ?_
        rintro e w1 ⟨rfl, rfl⟩
        go_wp2_with fail
        refine g2.mono ?_
        rintro e w1 ⟨rfl, rfl⟩
        go_wp2_with fail
        refine g3.mono ?_
        rintro e w1 ⟨rfl, rfl⟩
        go_wp2_with fail
        go_ret2
        exact ⟨_, rfl, own_nilB _ _ _ (Nat.le_refl _), Below.refl _ _⟩
    · have hb : bitsOk wide st = false := by unfold bitsOk; rw [decide_eq_false hn, Bool.false_and, Bool.and_false]
      rw [hb, bitsR_no hb]
      rw [decide_eq_false (by omega)] at g2
      generalize st.length = n at *
      clear h hb g3
      go_enter Tryd.func11, Tryd.ntmps11
      go_wp2_with fail
      refine g1.mono ?_
      rintro e w1 ⟨rfl, rfl⟩
      go_wp2_with fail
      refine g2.mono ?_
      rintro e w1 ⟨rfl, rfl⟩
      go_wp2_with fail
      go_ret2
      exact ⟨_, rfl, own_nilB _ _ _ (Nat.le_refl _), Below.refl _ _⟩
  · have hb : bitsOk wide st = false := by unfold bitsOk; rw [decide_eq_false hw, Bool.false_and]
    rw [hb, bitsR_no hb]
    rw [decide_eq_false hw] at g1
    generalize st.length = n at *
    clear h hb g2 g3
    go_enter Tryd.func11, Tryd.ntmps11
    go_wp2_with fail
    refine g1.mono ?_
    rintro e w1 ⟨rfl, rfl⟩
    go_wp2_with fail
    go_ret2
    exact ⟨_, rfl, own_nilB _ _ _ (Nat.le_refl _), Below.refl _ _⟩
end Go.Proofs.YtpjllhlbdcanlaaDoor

namespace Go.Proofs.YtpjllhlbdcanlaaDoor
open Go Go.RowKit
open M
set_option linter.unusedVariables false

/-- the number that bits make, the first one counting least -/
def numB : List Bool → Nat
  | [] => 0
  | b :: l => (if b = true then 1 else 0) + 2 * numB l
/-- a bit that is put at a place -/
def putN (a k : Nat) (x : Bool) : Nat := a + (if x = true then 2 ^ k else 0)
theorem numB_snoc : ∀ (l : List Bool) (x : Bool), numB (l ++ [x]) = putN (numB l) l.length x
  | [], x => by cases x <;> simp [numB, putN]
  | b :: l, x => by
    have ih := numB_snoc l x
    unfold putN at *
    simp only [List.cons_append, numB, ih, List.length_cons]
    cases x <;> simp [Nat.pow_succ] <;> omega
theorem numB_lt : ∀ l : List Bool, numB l < 2 ^ l.length
  | [] => by simp [numB]
  | b :: l => by
    have ih := numB_lt l
    simp only [numB, List.length_cons, Nat.pow_succ]
    split <;> omega
/-- a bit that is put at the place behind -/
theorem or_put : ∀ k : Nat, k < 4 → ∀ a : Nat, a < 2 ^ k → ∀ x : Bool, bits .or .u64 (a : Int) (IntKind.u64.wrap ((if x = true then 1 else 0) * 2 ^ k)) = (putN a k x : Int) := by decide +kernel
def wordAt (W : Nat) (l : List Bool) (j : Nat) : Int := numB ((l.drop (j * W)).take W)
def stateL (W m : Nat) (l : List Bool) : List Int := (List.range m).map (wordAt W l)
theorem stateL_snoc (W m : Nat) (l : List Bool) : stateL W (m + 1) l = stateL W m l ++ [wordAt W l m] := by simp [stateL, List.range_succ]
theorem stateL_len (W m : Nat) (l : List Bool) : (stateL W m l).length = m := by simp [stateL]
theorem wordAt_bd (W : Nat) (hW : W ≤ 4) (l : List Bool) (j : Nat) : 0 ≤ wordAt W l j ∧ wordAt W l j < 16 := by
  unfold wordAt
  have h := numB_lt ((l.drop (j * W)).take W)
  have h2 : ((l.drop (j * W)).take W).length ≤ 4 := by rw [List.length_take]; omega
  have h3 : 2 ^ ((l.drop (j * W)).take W).length ≤ 2 ^ 4 := Nat.pow_le_pow_right (by omega) h2
  omega
def stateOk (wide : Int) (l : List Bool) : Bool := decide (1 ≤ wide ∧ wide ≤ 4) && (decide (l.length % wide.toNat = 0) && decide (1 ≤ l.length / wide.toNat ∧ l.length / wide.toNat ≤ 4))
def stateR (wide : Int) (l : List Bool) : List Int := if stateOk wide l = true then stateL wide.toNat (l.length / wide.toNat) l else []
theorem stateR_no {wide : Int} {l : List Bool} (h : stateOk wide l = false) : stateR wide l = [] := by unfold stateR; rw [h]; rfl
theorem stateR_ok (wide : Int) (l : List Bool) : WsOk (stateR wide l) := by
  unfold stateR stateOk
  split
  · rename_i h
    simp only [Bool.and_eq_true, decide_eq_true_eq] at h
    refine ⟨fun s hs => ?_, by rw [stateL_len]; omega⟩
    obtain ⟨j, _, rfl⟩ := List.mem_map.1 hs
    have := wordAt_bd wide.toNat (by omega) l j
    omega
  · exact ⟨by simp, by simp⟩
theorem own_nilU (w : World) (lo hi : Nat) (h : hi ≤ w.heap.size) : OwnUS w lo hi (.slice none 0 0) [] := ⟨World.ownsRow_nil _ _ _ _, (fun k hk => by cases hk), h⟩
end Go.Proofs.YtpjllhlbdcanlaaDoor

namespace Go.Proofs.YtpjllhlbdcanlaaDoor
open Go Go.RowKit
open M
set_option linter.unusedVariables false
set_option linter.unusedSimpArgs false

set_option maxRecDepth 100000 in
set_option maxHeartbeats 2000000 in
theorem laidNumber_in (b off cap n : Nat) (l : List Bool) (hln : l.length = n) (hl : n ≤ 4) (w : World) (hc : ∀ (i : Nat) (x : Bool), l[i]? = some x → w.cell? ⟨b, off + i, none⟩ = some (.bool x)) :
    Calls Tryd.prog 46 #[.slice (some ⟨b, off, none⟩) n cap] w fun e w' => e = .returned (.int .u64 (numB l)) ∧ w' = w := by
  have HC : Hid _ := hc
  have HN : Hid (l.length = n) := hln
  clear hc hln
  go_enter Tryd.func46, Tryd.ntmps46
  go_wp2_with fail
  go_loop [3, 8] (fun m i => ∃ j : Nat, j ≤ n ∧ i = .int .i64 j ∧ m = .int .u64 (numB (l.take j))) (fun _ i => n - (intOf i).toNat)
  case atStart => exact ⟨0, by omega, rfl, rfl⟩
  case round =>
    obtain ⟨j, hj, rfl, rfl⟩ := hrel
    by_cases hlt : j < n
    · obtain ⟨x, hx⟩ : ∃ x, l[j]? = some x := ⟨l[j]'(by have := HN.out; omega), List.getElem?_eq_getElem _⟩
      have c0 := HC.out j x hx
      have g := bitOf_any x w
      have ho := or_put j (by omega) (numB (l.take j)) (by have h := numB_lt (l.take j); rw [List.length_take_of_le (by have := HN.out; omega)] at h; exact h) x
      have HS : Hid (numB (l.take (j + 1)) = putN (numB (l.take j)) j x) := by
        show numB (l.take (j + 1)) = _
        have e : l.take (j + 1) = l.take j ++ [x] := by rw [List.take_add_one, hx]; rfl
        rw [e, numB_snoc, List.length_take_of_le (by have := HN.out; omega)]
      have hj63 : (j : Int) < 64 := by omega
      generalize hA : numB (l.take j) = A at *
      generalize hP : putN A j x = P at *
      generalize hX : (if x = true then (1 : Int) else 0) = X at *
      clear hx hP hX
      go_wp2_with fail
      refine g.mono ?_
      rintro e w1 ⟨rfl, rfl⟩
      go_wp2_with fail
      go_round
      case rel => exact ⟨j + 1, by omega, by go_num, by rw [HS.out]⟩
      case measure => simp [intOf]; omega
    · obtain rfl : j = n := by omega
      have HE : Hid (numB (l.take j) = numB l) := by
        show numB (l.take j) = numB l
        rw [← HN.out, List.take_length]
      rw [HE.out]
      go_wp2_with fail
      go_ret
      exact ⟨rfl, rfl⟩
set_option maxRecDepth 100000 in
theorem laidNumber_nil (a : Option Addr) (cap : Nat) (w : World) :
    Calls Tryd.prog 46 #[.slice a 0 cap] w fun e w' => e = .returned (.int .u64 0) ∧ w' = w := by
  go_enter Tryd.func46, Tryd.ntmps46
  go_wp2_with fail
  go_loop [3, 8] (fun m i => i = .int .i64 0 ∧ m = .int .u64 0) (fun _ i => 0)
  case atStart => exact ⟨rfl, rfl⟩
  case round =>
    obtain ⟨rfl, rfl⟩ := hrel
    go_wp2_with fail
    go_ret
    exact ⟨rfl, rfl⟩
theorem oneU_cells (w : World) (n : Int) : ∀ (j : Nat) (u : Value), ([.int .u64 n] : List Value)[j]? = some u → (w.alloc (.cells #[.int .u64 n] 55)).cell? ((⟨w.heap.size, 0, none⟩ : Addr).add j) = some u := by
  intro j u hu
  match j with
  | 0 => simp at hu; subst hu; simp [Addr.add]
  | j + 1 => simp at hu
theorem cellsU_append (s t : List Int) : cellsU (s ++ t) = cellsU s ++ cellsU t := by simp [cellsU]
theorem word_one (x : Int) : ∀ u ∈ ([.int .u64 x] : List Value), u.oneCell' = true := by
  intro u hu
  simp at hu
  subst hu
  rfl
set_option maxRecDepth 100000 in
set_option maxHeartbeats 4000000 in
theorem iState_1 (b off cap n m : Nat) (l : List Bool) (hln : l.length = n) (hn : n = 1 * m) (hm1 : 1 ≤ m) (hm4 : m ≤ 4) (hcap : n ≤ cap) (hcap1 : cap ≤ 9223372036854775807) (w : World) (hlt : b < w.heap.size)
    (hc : ∀ (i : Nat) (x : Bool), l[i]? = some x → w.cell? ⟨b, off + i, none⟩ = some (.bool x)) :
    Calls Tryd.prog 13 #[.int .i64 1, .slice (some ⟨b, off, none⟩) n cap] w fun e w' => ∃ r, e = .returned (.tuple #[r, .bool true]) ∧ w'.ownsRow w.heap.size 55 1 r (stateL 1 m l).length (cellsU (stateL 1 m l)) ∧ Below w.heap.size w w' := by
  obtain ⟨i0, hi, hz0, hz1, hz2⟩ := info_parts infoU64
  have g1 := goodLaid_any 1 w
  rw [decide_eq_true (by omega)] at g1
  have g2 := goodVars_yes m (by omega) w
  have hmod : (n : Int) % 1 = 0 := by omega
  have hdiv : (n : Int) / 1 = m := by omega
  have HL : Hid (∀ (j : Nat) (w1 : World), j < m → Below w.heap.size w w1 → Calls Tryd.prog 46 #[.slice (some ⟨b, off + 1 * j, none⟩) 1 (cap - 1 * j)] w1 fun e w' => e = .returned (.int .u64 (wordAt 1 l j)) ∧ w' = w1) := by
    intro j w1 hj hb
    have hl2 : ((l.drop (j * 1)).take 1).length = 1 := by rw [List.length_take, List.length_drop]; omega
    refine laidNumber_in b (off + 1 * j) (cap - 1 * j) 1 ((l.drop (j * 1)).take 1) hl2 (by omega) w1 ?_
    intro i x hx
    rw [List.getElem?_take] at hx
    split at hx
    · rw [List.getElem?_drop] at hx
      rw [hb.cell (p := ⟨b, off + 1 * j + i, none⟩) hlt, show off + 1 * j + i = off + (j * 1 + i) from by omega]
      exact hc _ x hx
    · cases hx
  have HN : Hid (n = 1 * m) := hn
  have hn63 : (n : Int) ≤ 16 := by omega
  clear hc hln
  go_enter Tryd.func13, Tryd.ntmps13
  go_wp2_with fail
  refine g1.mono ?_
  rintro e w1 ⟨rfl, rfl⟩
  clear g1
  go_wp2_with fail
  refine g2.mono ?_
  rintro e w1 ⟨rfl, rfl⟩
  clear g2
  go_wp2_with fail
  have HO3 : Hid (w1.ownsRow w1.heap.size 55 1 (.slice none 0 0) 0 []) := World.ownsRow_nil _ _ _ _
  have HB3 : Hid (Below w1.heap.size w1 w1) := Below.refl _ _
  go_loopw [6, 7] (fun v i wr => ∃ j : Nat, j ≤ m ∧ i = .int .i64 ((1 * j : Nat) : Int) ∧ Hid (wr.ownsRow w1.heap.size 55 1 v j (cellsU (stateL 1 j l))) ∧ Hid (Below w1.heap.size w1 wr)) (fun _ i _ => n - (intOf i).toNat)
  case atStart => exact ⟨0, by omega, rfl, HO3, HB3⟩
  case round =>
    obtain ⟨j, hj, rfl, HO, HB⟩ := hrel
    clear HO3 HB3
    by_cases hlt2 : j < m
    · have g3 := HL.out j wr hlt2 HB.out
      obtain ⟨va, vcp, hv⟩ := own_shape HO.out
      subst hv
      obtain ⟨q, hq⟩ : ∃ q : Nat, 1 * j = q := ⟨_, rfl⟩
      rw [hq] at g3 ⊢
      have HQ : Hid (1 * j = q) := hq
      have hq1 : q + 1 ≤ n := by omega
      have hq2 : q + 1 ≤ cap := by omega
      have HS : Hid (stateL 1 (j + 1) l = stateL 1 j l ++ [wordAt 1 l j]) := stateL_snoc 1 j l
      obtain ⟨z, hz⟩ : ∃ z, wordAt 1 l j = z := ⟨_, rfl⟩
      rw [hz] at g3 HS
      have own6 := World.ownsRow.alloc HO.out (.cells #[.int .u64 z] 55)
      have hb6 : Below w1.heap.size w1 (wr.alloc (.cells #[.int .u64 z] 55)) := HB.out.alloc HB.out.size _
      have hs6 := hb6.size
      clear hz hq HO HB
      go_wp2_with fail
      refine g3.mono ?_
      rintro e w4 ⟨rfl, hw4⟩
      have hw5 := hw4.symm
      subst hw5
      clear g3 hw4
      go_wp2_with (at_builtin; refine wpList_append_own _ rfl _ _ 24 rfl w1.heap.size 55 i0 (.int .u64 0) 1 8 Tryd.underlying24 hi hz0 hz1 hz2 rfl (by decide) _ _ _ rfl own6 ⟨wr.heap.size, 0, none⟩ 1 1 [.int .u64 z] rfl rfl (oneU_cells wr z) (word_one z) (by unfold maxLen; omega) (by omega) hs6 ?_)
      intro v7 w7 own7 grow7 _
      have HB7 : Hid (Below w1.heap.size w1 w7) := below_app hb6 (by omega) (Nat.le_refl _) own6 grow7
      have HO7 : Hid (w7.ownsRow w1.heap.size 55 1 v7 (j + 1) (cellsU (stateL 1 (j + 1) l))) := by
        show w7.ownsRow w1.heap.size 55 1 v7 (j + 1) (cellsU (stateL 1 (j + 1) l))
        rw [HS.out, cellsU_append]
        exact own7
      clear own6 own7 grow7 hb6 HS
      go_wp2_with fail
      go_roundw
      case rel => exact ⟨j + 1, by omega, (by rw [show 1 * (j + 1) = q + 1 from by have := HQ.out; omega]; go_num), HO7, HB7⟩
      case measure => simp [intOf]; omega
    · obtain rfl : j = m := by omega
      have HO9 : Hid (wr.ownsRow w1.heap.size 55 1 u6 (stateL 1 j l).length (cellsU (stateL 1 j l))) := by
        show wr.ownsRow w1.heap.size 55 1 u6 (stateL 1 j l).length (cellsU (stateL 1 j l))
        rw [stateL_len]
        exact HO.out
      rw [← HN.out]
      clear HO HL
      go_wp2_with fail
      go_ret2
      exact ⟨_, rfl, HO9.out, HB.out⟩
set_option maxRecDepth 100000 in
set_option maxHeartbeats 4000000 in
theorem iState_2 (b off cap n m : Nat) (l : List Bool) (hln : l.length = n) (hn : n = 2 * m) (hm1 : 1 ≤ m) (hm4 : m ≤ 4) (hcap : n ≤ cap) (hcap1 : cap ≤ 9223372036854775807) (w : World) (hlt : b < w.heap.size)
    (hc : ∀ (i : Nat) (x : Bool), l[i]? = some x → w.cell? ⟨b, off + i, none⟩ = some (.bool x)) :
    Calls Tryd.prog 13 #[.int .i64 2, .slice (some ⟨b, off, none⟩) n cap] w fun e w' => ∃ r, e = .returned (.tuple #[r, .bool true]) ∧ w'.ownsRow w.heap.size 55 1 r (stateL 2 m l).length (cellsU (stateL 2 m l)) ∧ Below w.heap.size w w' := by
  obtain ⟨i0, hi, hz0, hz1, hz2⟩ := info_parts infoU64
  have g1 := goodLaid_any 2 w
  rw [decide_eq_true (by omega)] at g1
  have g2 := goodVars_yes m (by omega) w
  have hmod : (n : Int) % 2 = 0 := by omega
  have hdiv : (n : Int) / 2 = m := by omega
  have HL : Hid (∀ (j : Nat) (w1 : World), j < m → Below w.heap.size w w1 → Calls Tryd.prog 46 #[.slice (some ⟨b, off + 2 * j, none⟩) 2 (cap - 2 * j)] w1 fun e w' => e = .returned (.int .u64 (wordAt 2 l j)) ∧ w' = w1) := by
    intro j w1 hj hb
    have hl2 : ((l.drop (j * 2)).take 2).length = 2 := by rw [List.length_take, List.length_drop]; omega
    refine laidNumber_in b (off + 2 * j) (cap - 2 * j) 2 ((l.drop (j * 2)).take 2) hl2 (by omega) w1 ?_
    intro i x hx
    rw [List.getElem?_take] at hx
    split at hx
    · rw [List.getElem?_drop] at hx
      rw [hb.cell (p := ⟨b, off + 2 * j + i, none⟩) hlt, show off + 2 * j + i = off + (j * 2 + i) from by omega]
      exact hc _ x hx
    · cases hx
  have HN : Hid (n = 2 * m) := hn
  have hn63 : (n : Int) ≤ 16 := by omega
  clear hc hln
  go_enter Tryd.func13, Tryd.ntmps13
  go_wp2_with fail
  refine g1.mono ?_
  rintro e w1 ⟨rfl, rfl⟩
  clear g1
  go_wp2_with fail
  refine g2.mono ?_
  rintro e w1 ⟨rfl, rfl⟩
  clear g2
  go_wp2_with fail
  have HO3 : Hid (w1.ownsRow w1.heap.size 55 1 (.slice none 0 0) 0 []) := World.ownsRow_nil _ _ _ _
  have HB3 : Hid (Below w1.heap.size w1 w1) := Below.refl _ _
  go_loopw [6, 7] (fun v i wr => ∃ j : Nat, j ≤ m ∧ i = .int .i64 ((2 * j : Nat) : Int) ∧ Hid (wr.ownsRow w1.heap.size 55 1 v j (cellsU (stateL 2 j l))) ∧ Hid (Below w1.heap.size w1 wr)) (fun _ i _ => n - (intOf i).toNat)
  case atStart => exact ⟨0, by omega, rfl, HO3, HB3⟩
  case round =>
    obtain ⟨j, hj, rfl, HO, HB⟩ := hrel
    clear HO3 HB3
    by_cases hlt2 : j < m
    · have g3 := HL.out j wr hlt2 HB.out
      obtain ⟨va, vcp, hv⟩ := own_shape HO.out
      subst hv
      obtain ⟨q, hq⟩ : ∃ q : Nat, 2 * j = q := ⟨_, rfl⟩
      rw [hq] at g3 ⊢
      have HQ : Hid (2 * j = q) := hq
      have hq1 : q + 2 ≤ n := by omega
      have hq2 : q + 2 ≤ cap := by omega
      have HS : Hid (stateL 2 (j + 1) l = stateL 2 j l ++ [wordAt 2 l j]) := stateL_snoc 2 j l
      obtain ⟨z, hz⟩ : ∃ z, wordAt 2 l j = z := ⟨_, rfl⟩
      rw [hz] at g3 HS
      have own6 := World.ownsRow.alloc HO.out (.cells #[.int .u64 z] 55)
      have hb6 : Below w1.heap.size w1 (wr.alloc (.cells #[.int .u64 z] 55)) := HB.out.alloc HB.out.size _
      have hs6 := hb6.size
      clear hz hq HO HB
      go_wp2_with fail
      refine g3.mono ?_
      rintro e w4 ⟨rfl, hw4⟩
      have hw5 := hw4.symm
      subst hw5
      clear g3 hw4
      go_wp2_with (at_builtin; refine wpList_append_own _ rfl _ _ 24 rfl w1.heap.size 55 i0 (.int .u64 0) 1 8 Tryd.underlying24 hi hz0 hz1 hz2 rfl (by decide) _ _ _ rfl own6 ⟨wr.heap.size, 0, none⟩ 1 1 [.int .u64 z] rfl rfl (oneU_cells wr z) (word_one z) (by unfold maxLen; omega) (by omega) hs6 ?_)
      intro v7 w7 own7 grow7 _
      have HB7 : Hid (Below w1.heap.size w1 w7) := below_app hb6 (by omega) (Nat.le_refl _) own6 grow7
      have HO7 : Hid (w7.ownsRow w1.heap.size 55 1 v7 (j + 1) (cellsU (stateL 2 (j + 1) l))) := by
        show w7.ownsRow w1.heap.size 55 1 v7 (j + 1) (cellsU (stateL 2 (j + 1) l))
        rw [HS.out, cellsU_append]
        exact own7
      clear own6 own7 grow7 hb6 HS
      go_wp2_with fail
      go_roundw
      case rel => exact ⟨j + 1, by omega, (by rw [show 2 * (j + 1) = q + 2 from by have := HQ.out; omega]; go_num), HO7, HB7⟩
      case measure => simp [intOf]; omega
    · obtain rfl : j = m := by omega
      have HO9 : Hid (wr.ownsRow w1.heap.size 55 1 u6 (stateL 2 j l).length (cellsU (stateL 2 j l))) := by
        show wr.ownsRow w1.heap.size 55 1 u6 (stateL 2 j l).length (cellsU (stateL 2 j l))
        rw [stateL_len]
        exact HO.out
      rw [← HN.out]
      clear HO HL
      go_wp2_with fail
      go_ret2
      exact ⟨_, rfl, HO9.out, HB.out⟩
set_option maxRecDepth 100000 in
set_option maxHeartbeats 4000000 in
theorem iState_3 (b off cap n m : Nat) (l : List Bool) (hln : l.length = n) (hn : n = 3 * m) (hm1 : 1 ≤ m) (hm4 : m ≤ 4) (hcap : n ≤ cap) (hcap1 : cap ≤ 9223372036854775807) (w : World) (hlt : b < w.heap.size)
    (hc : ∀ (i : Nat) (x : Bool), l[i]? = some x → w.cell? ⟨b, off + i, none⟩ = some (.bool x)) :
    Calls Tryd.prog 13 #[.int .i64 3, .slice (some ⟨b, off, none⟩) n cap] w fun e w' => ∃ r, e = .returned (.tuple #[r, .bool true]) ∧ w'.ownsRow w.heap.size 55 1 r (stateL 3 m l).length (cellsU (stateL 3 m l)) ∧ Below w.heap.size w w' := by
  obtain ⟨i0, hi, hz0, hz1, hz2⟩ := info_parts infoU64
  have g1 := goodLaid_any 3 w
  rw [decide_eq_true (by omega)] at g1
  have g2 := goodVars_yes m (by omega) w
  have hmod : (n : Int) % 3 = 0 := by omega
  have hdiv : (n : Int) / 3 = m := by omega
  have HL : Hid (∀ (j : Nat) (w1 : World), j < m → Below w.heap.size w w1 → Calls Tryd.prog 46 #[.slice (some ⟨b, off + 3 * j, none⟩) 3 (cap - 3 * j)] w1 fun e w' => e = .returned (.int .u64 (wordAt 3 l j)) ∧ w' = w1) := by
    intro j w1 hj hb
    have hl2 : ((l.drop (j * 3)).take 3).length = 3 := by rw [List.length_take, List.length_drop]; omega
    refine laidNumber_in b (off + 3 * j) (cap - 3 * j) 3 ((l.drop (j * 3)).take 3) hl2 (by omega) w1 ?_
    intro i x hx
    rw [List.getElem?_take] at hx
    split at hx
    · rw [List.getElem?_drop] at hx
      rw [hb.cell (p := ⟨b, off + 3 * j + i, none⟩) hlt, show off + 3 * j + i = off + (j * 3 + i) from by omega]
      exact hc _ x hx
    · cases hx
  have HN : Hid (n = 3 * m) := hn
  have hn63 : (n : Int) ≤ 16 := by omega
  clear hc hln
  go_enter Tryd.func13, Tryd.ntmps13
  go_wp2_with fail
  refine g1.mono ?_
  rintro e w1 ⟨rfl, rfl⟩
  clear g1
  go_wp2_with fail
  refine g2.mono ?_
  rintro e w1 ⟨rfl, rfl⟩
  clear g2
  go_wp2_with fail
  have HO3 : Hid (w1.ownsRow w1.heap.size 55 1 (.slice none 0 0) 0 []) := World.ownsRow_nil _ _ _ _
  have HB3 : Hid (Below w1.heap.size w1 w1) := Below.refl _ _
  go_loopw [6, 7] (fun v i wr => ∃ j : Nat, j ≤ m ∧ i = .int .i64 ((3 * j : Nat) : Int) ∧ Hid (wr.ownsRow w1.heap.size 55 1 v j (cellsU (stateL 3 j l))) ∧ Hid (Below w1.heap.size w1 wr)) (fun _ i _ => n - (intOf i).toNat)
  case atStart => exact ⟨0, by omega, rfl, HO3, HB3⟩
  case round =>
    obtain ⟨j, hj, rfl, HO, HB⟩ := hrel
    clear HO3 HB3
    by_cases hlt2 : j < m
    · have g3 := HL.out j wr hlt2 HB.out
      obtain ⟨va, vcp, hv⟩ := own_shape HO.out
      subst hv
      obtain ⟨q, hq⟩ : ∃ q : Nat, 3 * j = q := ⟨_, rfl⟩
      rw [hq] at g3 ⊢
      have HQ : Hid (3 * j = q) := hq
      have hq1 : q + 3 ≤ n := by omega
      have hq2 : q + 3 ≤ cap := by omega
      have HS : Hid (stateL 3 (j + 1) l = stateL 3 j l ++ [wordAt 3 l j]) := stateL_snoc 3 j l
      obtain ⟨z, hz⟩ : ∃ z, wordAt 3 l j = z := ⟨_, rfl⟩
      rw [hz] at g3 HS
      have own6 := World.ownsRow.alloc HO.out (.cells #[.int .u64 z] 55)
      have hb6 : Below w1.heap.size w1 (wr.alloc (.cells #[.int .u64 z] 55)) := HB.out.alloc HB.out.size _
      have hs6 := hb6.size
      clear hz hq HO HB
      go_wp2_with fail
      refine g3.mono ?_
      rintro e w4 ⟨rfl, hw4⟩
      have hw5 := hw4.symm
      subst hw5
      clear g3 hw4
      go_wp2_with (at_builtin; refine wpList_append_own _ rfl _ _ 24 rfl w1.heap.size 55 i0 (.int .u64 0) 1 8 Tryd.underlying24 hi hz0 hz1 hz2 rfl (by decide) _ _ _ rfl own6 ⟨wr.heap.size, 0, none⟩ 1 1 [.int .u64 z] rfl rfl (oneU_cells wr z) (word_one z) (by unfold maxLen; omega) (by omega) hs6 ?_)
      intro v7 w7 own7 grow7 _
      have HB7 : Hid (Below w1.heap.size w1 w7) := below_app hb6 (by omega) (Nat.le_refl _) own6 grow7
      have HO7 : Hid (w7.ownsRow w1.heap.size 55 1 v7 (j + 1) (cellsU (stateL 3 (j + 1) l))) := by
        show w7.ownsRow w1.heap.size 55 1 v7 (j + 1) (cellsU (stateL 3 (j + 1) l))
        rw [HS.out, cellsU_append]
        exact own7
      clear own6 own7 grow7 hb6 HS
      go_wp2_with fail
      go_roundw
      case rel => exact ⟨j + 1, by omega, (by rw [show 3 * (j + 1) = q + 3 from by have := HQ.out; omega]; go_num), HO7, HB7⟩
      case measure => simp [intOf]; omega
    · obtain rfl : j = m := by omega
      have HO9 : Hid (wr.ownsRow w1.heap.size 55 1 u6 (stateL 3 j l).length (cellsU (stateL 3 j l))) := by
        show wr.ownsRow w1.heap.size 55 1 u6 (stateL 3 j l).length (cellsU (stateL 3 j l))
        rw [stateL_len]
        exact HO.out
      rw [← HN.out]
      clear HO HL
      go_wp2_with fail
      go_ret2
      exact ⟨_, rfl, HO9.out, HB.out⟩
set_option maxRecDepth 100000 in
set_option maxHeartbeats 4000000 in
theorem iState_4 (b off cap n m : Nat) (l : List Bool) (hln : l.length = n) (hn : n = 4 * m) (hm1 : 1 ≤ m) (hm4 : m ≤ 4) (hcap : n ≤ cap) (hcap1 : cap ≤ 9223372036854775807) (w : World) (hlt : b < w.heap.size)
    (hc : ∀ (i : Nat) (x : Bool), l[i]? = some x → w.cell? ⟨b, off + i, none⟩ = some (.bool x)) :
    Calls Tryd.prog 13 #[.int .i64 4, .slice (some ⟨b, off, none⟩) n cap] w fun e w' => ∃ r, e = .returned (.tuple #[r, .bool true]) ∧ w'.ownsRow w.heap.size 55 1 r (stateL 4 m l).length (cellsU (stateL 4 m l)) ∧ Below w.heap.size w w' := by
  obtain ⟨i0, hi, hz0, hz1, hz2⟩ := info_parts infoU64
  have g1 := goodLaid_any 4 w
  rw [decide_eq_true (by omega)] at g1
  have g2 := goodVars_yes m (by omega) w
  have hmod : (n : Int) % 4 = 0 := by omega
  have hdiv : (n : Int) / 4 = m := by omega
  have HL : Hid (∀ (j : Nat) (w1 : World), j < m → Below w.heap.size w w1 → Calls Tryd.prog 46 #[.slice (some ⟨b, off + 4 * j, none⟩) 4 (cap - 4 * j)] w1 fun e w' => e = .returned (.int .u64 (wordAt 4 l j)) ∧ w' = w1) := by
    intro j w1 hj hb
    have hl2 : ((l.drop (j * 4)).take 4).length = 4 := by rw [List.length_take, List.length_drop]; omega
    refine laidNumber_in b (off + 4 * j) (cap - 4 * j) 4 ((l.drop (j * 4)).take 4) hl2 (by omega) w1 ?_
    intro i x hx
    rw [List.getElem?_take] at hx
    split at hx
    · rw [List.getElem?_drop] at hx
      rw [hb.cell (p := ⟨b, off + 4 * j + i, none⟩) hlt, show off + 4 * j + i = off + (j * 4 + i) from by omega]
      exact hc _ x hx
    · cases hx
  have HN : Hid (n = 4 * m) := hn
  have hn63 : (n : Int) ≤ 16 := by omega
  clear hc hln
  go_enter Tryd.func13, Tryd.ntmps13
  go_wp2_with fail
  refine g1.mono ?_
  rintro e w1 ⟨rfl, rfl⟩
  clear g1
  go_wp2_with fail
  refine g2.mono ?_
  rintro e w1 ⟨rfl, rfl⟩
  clear g2
  go_wp2_with fail
  have HO3 : Hid (w1.ownsRow w1.heap.size 55 1 (.slice none 0 0) 0 []) := World.ownsRow_nil _ _ _ _
  have HB3 : Hid (Below w1.heap.size w1 w1) := Below.refl _ _
  go_loopw [6, 7] (fun v i wr => ∃ j : Nat, j ≤ m ∧ i = .int .i64 ((4 * j : Nat) : Int) ∧ Hid (wr.ownsRow w1.heap.size 55 1 v j (cellsU (stateL 4 j l))) ∧ Hid (Below w1.heap.size w1 wr)) (fun _ i _ => n - (intOf i).toNat)
  case atStart => exact ⟨0, by omega, rfl, HO3, HB3⟩
  case round =>
    obtain ⟨j, hj, rfl, HO, HB⟩ := hrel
    clear HO3 HB3
    by_cases hlt2 : j < m
    · have g3 := HL.out j wr hlt2 HB.out
      obtain ⟨va, vcp, hv⟩ := own_shape HO.out
      subst hv
      obtain ⟨q, hq⟩ : ∃ q : Nat, 4 * j = q := ⟨_, rfl⟩
      rw [hq] at g3 ⊢
      have HQ : Hid (4 * j = q) := hq
      have hq1 : q + 4 ≤ n := by omega
      have hq2 : q + 4 ≤ cap := by omega
      have HS : Hid (stateL 4 (j + 1) l = stateL 4 j l ++ [wordAt 4 l j]) := stateL_snoc 4 j l
      obtain ⟨z, hz⟩ : ∃ z, wordAt 4 l j = z := ⟨_, rfl⟩
      rw [hz] at g3 HS
      have own6 := World.ownsRow.alloc HO.out (.cells #[.int .u64 z] 55)
      have hb6 : Below w1.heap.size w1 (wr.alloc (.cells #[.int .u64 z] 55)) := HB.out.alloc HB.out.size _
      have hs6 := hb6.size
      clear hz hq HO HB
      go_wp2_with fail
      refine g3.mono ?_
      rintro e w4 ⟨rfl, hw4⟩
      have hw5 := hw4.symm
      subst hw5
      clear g3 hw4
      go_wp2_with (at_builtin; refine wpList_append_own _ rfl _ _ 24 rfl w1.heap.size 55 i0 (.int .u64 0) 1 8 Tryd.underlying24 hi hz0 hz1 hz2 rfl (by decide) _ _ _ rfl own6 ⟨wr.heap.size, 0, none⟩ 1 1 [.int .u64 z] rfl rfl (oneU_cells wr z) (word_one z) (by unfold maxLen; omega) (by omega) hs6 ?_)
      intro v7 w7 own7 grow7 _
      have HB7 : Hid (Below w1.heap.size w1 w7) := below_app hb6 (by omega) (Nat.le_refl _) own6 grow7
      have HO7 : Hid (w7.ownsRow w1.heap.size 55 1 v7 (j + 1) (cellsU (stateL 4 (j + 1) l))) := by
        show w7.ownsRow w1.heap.size 55 1 v7 (j + 1) (cellsU (stateL 4 (j + 1) l))
        rw [HS.out, cellsU_append]
        exact own7
      clear own6 own7 grow7 hb6 HS
      go_wp2_with fail
      go_roundw
      case rel => exact ⟨j + 1, by omega, (by rw [show 4 * (j + 1) = q + 4 from by have := HQ.out; omega]; go_num), HO7, HB7⟩
      case measure => simp [intOf]; omega
    · obtain rfl : j = m := by omega
      have HO9 : Hid (wr.ownsRow w1.heap.size 55 1 u6 (stateL 4 j l).length (cellsU (stateL 4 j l))) := by
        show wr.ownsRow w1.heap.size 55 1 u6 (stateL 4 j l).length (cellsU (stateL 4 j l))
        rw [stateL_len]
        exact HO.out
      rw [← HN.out]
      clear HO HL
      go_wp2_with fail
      go_ret2
      exact ⟨_, rfl, HO9.out, HB.out⟩
end Go.Proofs.YtpjllhlbdcanlaaDoor

namespace Go.Proofs.YtpjllhlbdcanlaaDoor
open Go Go.RowKit
open M
set_option linter.unusedVariables false

/-- a row of bools that is read -/
theorem BoolsAt.at {w : World} {v : Value} {t : List Bool} (h : BoolsAt w v t) {i : Int} (h0 : 0 ≤ i) (h1 : i < t.length) : ∃ g off cap : Nat, v = .slice (some ⟨g, off, none⟩) t.length cap ∧ g < w.heap.size ∧ w.cell? ⟨g, off + i.toNat, none⟩ = some (.bool (at' t i)) := by
  rcases h.2 with ⟨rfl, _⟩ | ⟨g, off, cap, rfl, hlt, hc⟩
  · simp at h1
    omega
  · refine ⟨g, off, cap, rfl, hlt, hc i.toNat _ ?_⟩
    unfold at'
    rw [List.getD_eq_getElem?_getD, List.getElem?_eq_getElem (by omega)]
    rfl
set_option maxRecDepth 100000 in
set_option maxHeartbeats 2000000 in
theorem carried_any (g : Gt) (wv : Value) (rl : List Bool) (own : Int) (hown : own = rl.length) (hlim : rl.length ≤ 1000) (hg : gateB own g = true) (w : World) (h : BoolsAt w wv rl) :
    Calls Tryd.prog 114 #[gv g, wv] w fun e w' => e = .returned (.bool (gateV rl g)) ∧ Below w.heap.size w w' := by
  have hgk := gateB_kind hg
  subst hown
  obtain ⟨k, xa, xb⟩ := g
  unfold gv
  simp only at *
  have HB : Hid (Below w.heap.size w (w.alloc (.cells #[.int .i64 k, .int .i64 xa, .int .i64 xb] 107))) := (Below.refl _ _).alloc (Nat.le_refl _) _
  clear hg
  rcases hgk with ⟨rfl, ha0, ha1, rfl⟩ | ⟨rfl, ⟨ha0, ha1⟩, rfl⟩ | ⟨hk, ⟨ha0, ha1⟩, ⟨hb0, hb1⟩⟩
  · have hz : gateV rl (1, xa, 0) = (xa == 1) := by
      show (if (1 : Int) = 1 then decide (xa = 1) else _) = _
      rw [if_pos rfl, Bool.eq_iff_iff]
      simp
    rw [hz]
    clear hz h
    go_enter Tryd.func114, Tryd.ntmps114
    go_wp2_with fail
    go_ret
    exact ⟨rfl, HB.out⟩
  · obtain ⟨vg, voff, vcp, rfl, hvl, hcell⟩ := h.at ha0 ha1
    obtain ⟨A, rfl⟩ := Int.eq_ofNat_of_zero_le ha0
    rw [Int.toNat_natCast] at hcell
    have hz : gateV rl (2, (A : Int), 0) = !(at' rl A) := by simp [gateV]
    rw [hz]
    generalize at' rl A = p at *
    clear hz h
    cases p
    all_goals
      go_enter Tryd.func114, Tryd.ntmps114
      go_wp2_with fail
      go_ret
      exact ⟨rfl, HB.out⟩
  · obtain ⟨vg, voff, vcp, rfl, hvl, hcell⟩ := h.at ha0 ha1
    obtain ⟨vg', voff', vcp', hv', hvl', hcell'⟩ := h.at hb0 hb1
    injection hv' with e1 e2 e3
    injection e1 with e1
    injection e1 with e1 e4
    subst e1 e3 e4
    obtain ⟨A, rfl⟩ := Int.eq_ofNat_of_zero_le ha0
    obtain ⟨B, rfl⟩ := Int.eq_ofNat_of_zero_le hb0
    rw [Int.toNat_natCast] at hcell hcell'
    have hz3 : gateV rl (3, (A : Int), (B : Int)) = (at' rl A && at' rl B) := by simp [gateV]
    have hz4 : gateV rl (4, (A : Int), (B : Int)) = (at' rl A || at' rl B) := by simp [gateV]
    have hz5 : gateV rl (5, (A : Int), (B : Int)) = (at' rl A != at' rl B) := by simp [gateV]
    rcases hk with rfl | rfl | rfl
    · rw [hz3]
      generalize at' rl A = p at *
      generalize at' rl B = q at *
      clear hz3 hz4 hz5 h
      cases p <;> cases q
      all_goals
        go_enter Tryd.func114, Tryd.ntmps114
        go_wp2_with fail
        go_ret
        exact ⟨rfl, HB.out⟩
    · rw [hz4]
      generalize at' rl A = p at *
      generalize at' rl B = q at *
      clear hz3 hz4 hz5 h
      cases p <;> cases q
      all_goals
        go_enter Tryd.func114, Tryd.ntmps114
        go_wp2_with fail
        go_ret
        exact ⟨rfl, HB.out⟩
    · rw [hz5]
      generalize at' rl A = p at *
      generalize at' rl B = q at *
      clear hz3 hz4 hz5 h
      cases p <;> cases q
      all_goals
        go_enter Tryd.func114, Tryd.ntmps114
        go_wp2_with fail
        first
        | (go_ret; exact ⟨rfl, HB.out⟩)
        | (go_quiet (fail); go_wp2_with fail; go_ret; exact ⟨rfl, HB.out.trans ((Below.refl _ _).drewN _)⟩)
        | (go_region; all_goals (go_wp2_with fail; go_ret; exact ⟨rfl, HB.out.drew⟩))
/-- what AllWires tells -/
def wiresL (c : Ci) (il : List Bool) : List Bool := if goodC c = true ∧ (il.length : Int) = c.1 then runG c.2.1 il else []
def wiresB (c : Ci) (il : List Bool) : Bool := decide (goodC c = true ∧ (il.length : Int) = c.1)
set_option maxRecDepth 100000 in
set_option maxHeartbeats 2000000 in
theorem sAllWires_any (v iv : Value) (c : Ci) (il : List Bool) (w : World) (h : AtC w v c) (hiv : AtBS w iv il) :
    Calls Tryd.prog 89 #[v, iv] w fun e w' => ∃ r, e = .returned (.tuple #[r, .bool (wiresB c il)]) ∧ OwnBools w' w.heap.size r (wiresL c il) ∧ Below w.heap.size w w' := by
  obtain ⟨ga, gn, gc, oa, on, oc, hv⟩ := h.at.shape
  subst hv
  obtain ⟨ia, icap, hiv'⟩ := hiv.1.shape
  subst hiv'
  have hil := hiv.1.1
  have x0 := box3_alloc w 41 (.int .i64 c.1) (.slice ga gn gc) (.slice oa on oc)
  have hb0 : Below w.heap.size w (w.alloc (.cells #[.int .i64 c.1, .slice ga gn gc, .slice oa on oc] 41)) := (Below.refl _ _).alloc (Nat.le_refl _) _
  have g1 := sGood_any _ c _ (h.below hb0).at
  unfold wiresL wiresB
  have hsz : (w.alloc (.cells #[.int .i64 c.1, .slice ga gn gc, .slice oa on oc] 41)).heap.size = w.heap.size + 1 := by simp only [World.size_alloc]
  have hcf := h.1
  cases hgd : goodC c with
  | false =>
    rw [hgd] at g1
    rw [if_neg (by simp), decide_eq_false (by simp)]
    go_enter Tryd.func89, Tryd.ntmps89
    go_wp2_with fail
    refine g1.mono ?_
    rintro e w1 ⟨rfl, hs⟩
    have HB : Hid (Below w.heap.size w w1) := Below.step hb0 hb0.size hs
    clear g1 h hiv
    go_wp2_with fail
    go_ret2
    exact ⟨_, rfl, World.ownsRow_nil _ _ _ _, HB.out⟩
  | true =>
    rw [hgd] at g1
    by_cases hl : (il.length : Int) = c.1
    · rw [if_pos ⟨rfl, hl⟩, decide_eq_true ⟨rfl, hl⟩]
      have G2 : Hid (∀ w1 : World, Below w.heap.size w w1 → _) := fun w1 hb => l4Run_any _ _ c il hgd hl w1 (h.below hb).at (hiv.below hb)
      have hne : ((il.length : Int) != c.1) = false := by simp [hl]
      generalize il.length = ilen at *
      go_enter Tryd.func89, Tryd.ntmps89
      go_wp2_with fail
      refine g1.mono ?_
      rintro e w1 ⟨rfl, hs⟩
      have hb1 := Below.step hb0 hb0.size hs
      have x1 := x0.below hs (by omega)
      obtain ⟨c0, c1, c2⟩ := x1.cells
      have hh := x1.heap
      have hlt1 := x1.lt
      have g2 := G2.out w1 hb1
      clear g1 h hiv G2
      go_wp2_with fail
      refine g2.mono ?_
      rintro e w2 ⟨r, rfl, ho, hs2⟩
      have HO : Hid (OwnBools w2 w.heap.size r (runG c.2.1 il)) := own_base ho hb1.size
      have HB : Hid (Below w.heap.size w w2) := Below.step hb1 hb1.size hs2
      clear g2 ho hs2 hs
      go_wp2_with fail
      go_ret2
      exact ⟨_, rfl, HO.out, HB.out⟩
    · rw [if_neg (fun e => hl e.2), decide_eq_false (fun e => hl e.2)]
      have hne : ((il.length : Int) != c.1) = true := bne_iff_ne.2 hl
      generalize il.length = ilen at *
      go_enter Tryd.func89, Tryd.ntmps89
      go_wp2_with fail
      refine g1.mono ?_
      rintro e w1 ⟨rfl, hs⟩
      have HB : Hid (Below w.heap.size w w1) := Below.step hb0 hb0.size hs
      have x1 := x0.below hs (by omega)
      obtain ⟨c0, c1, c2⟩ := x1.cells
      have hlt1 := x1.lt
      clear g1 h hiv
      go_wp2_with fail
      go_ret2
      exact ⟨_, rfl, World.ownsRow_nil _ _ _ _, HB.out⟩
theorem infoB : (Tryd.prog.info? 4).map (fun i => (i.zero, i.size, i.bytes)) = some (some (.bool false), 1, 1) := infoBool
set_option maxRecDepth 100000 in
set_option maxHeartbeats 2000000 in
theorem iAllWires_any (v iv : Value) (c : Ci) (il : List Bool) (w : World) (h : AtC w v c) (hiv : AtBS w iv il) :
    Calls Tryd.prog 90 #[v, iv] w fun e w' => ∃ r, e = .returned (.tuple #[r, .bool (wiresB c il)]) ∧ OwnBools w' w.heap.size r (wiresL c il) ∧ Below w.heap.size w w' := by
  have hat := h.at
  obtain ⟨hfit, gw, o, hv, h1, h2, _⟩ := h
  obtain ⟨ga, gc, hgw, hg⟩ := h1.opened
  obtain ⟨oa, oc, ho⟩ := h2.shape
  subst hgw ho hv
  have hil := hiv.opened
  have hiln := hiv.1.1
  obtain ⟨ia, icap, hiv'⟩ := hiv.1.shape
  have hb0 : Below w.heap.size w (w.alloc (.cells #[.int .i64 c.1, .slice ga c.2.1.length gc, .slice oa c.2.2.length oc] 41)) := (Below.refl _ _).alloc (Nat.le_refl _) _
  have x0 := box3_alloc w 41 (.int .i64 c.1) (.slice ga c.2.1.length gc) (.slice oa c.2.2.length oc)
  have g1 := iGood_any _ c _ (hat.below hb0)
  have hsz : (w.alloc (.cells #[.int .i64 c.1, .slice ga c.2.1.length gc, .slice oa c.2.2.length oc] 41)).heap.size = w.heap.size + 1 := by simp only [World.size_alloc]
  unfold wiresL wiresB
  cases hgd : goodC c with
  | false =>
    rw [hgd] at g1
    rw [if_neg (by simp), decide_eq_false (by simp)]
    subst hiv'
    go_enter Tryd.func90, Tryd.ntmps90
    go_wp2_with fail
    refine g1.mono ?_
    rintro e w1 ⟨rfl, hs⟩
    have HB : Hid (Below w.heap.size w w1) := Below.step hb0 hb0.size hs
    clear g1 hiv hil hat hg h1 h2
    go_wp2_with fail
    go_ret2
    exact ⟨_, rfl, World.ownsRow_nil _ _ _ _, HB.out⟩
  | true =>
    rw [hgd] at g1
    by_cases hl : (il.length : Int) = c.1
    · rw [if_pos ⟨rfl, hl⟩, decide_eq_true ⟨rfl, hl⟩]
      obtain ⟨hI0, hI1, hG, hO, hgb, _⟩ := goodC_ins hgd
      have hne : ((il.length : Int) != c.1) = false := by simp [hl]
      have HG : Hid (∀ (w1 : World), Below w.heap.size w w1 → ∀ (i : Nat) (x : Gt), c.2.1[i]? = some x → ∃ b off : Nat, ga = some ⟨b, off, none⟩ ∧ GateAt w1 b (off + i * 3) x) := fun w1 hb i x hx => by
        obtain ⟨b, off, e, hlt, hat⟩ := hg i x hx
        exact ⟨b, off, e, hat.below hb hlt⟩
      have HGB : Hid (∀ (i : Nat) (x : Gt), c.2.1[i]? = some x → gateB (c.1 + i) x = true) := fun i x hx => gatesB_at hgb hx
      obtain ⟨i0, hi, hz0, hz1, hz2⟩ := info_parts infoBool
      obtain ⟨ins, gs, os⟩ := c
      simp only at *
      clear hg hat h1 h2 hgb hfit hgd
      subst hiv'
      go_enter Tryd.func90, Tryd.ntmps90
      go_wp2_with fail
      refine g1.mono ?_
      rintro e w1 ⟨rfl, hs⟩
      have hb1 := Below.step hb0 hb0.size hs
      have x1 := x0.below hs (by omega)
      obtain ⟨c0, c1, c2⟩ := x1.cells
      have hh := x1.heap
      have hlt1 := x1.lt
      clear g1
      have g2 := size_raw ins ga gs.length gc (.slice oa os.length oc) (by omega) (by omega) (by omega) w1
      have HLS : Hid ((ins + (gs.length : Int)) = ((il.length + gs.length : Nat) : Int)) := by
        show (ins + (gs.length : Int)) = ((il.length + gs.length : Nat) : Int)
        omega
      have HB1 : Hid (Below w.heap.size w w1) := hb1
      rcases hil with ⟨hil0, hivn⟩ | ⟨ib, icap', hivs, hilt, hicap, hic⟩
      · have ilz : il.length = 0 := by rw [hil0]; rfl
        rw [hivn]
        clear hil0 hivn hiv
        go_wp2_with fail
        refine g2.mono ?_
        rintro e w2 ⟨rfl, hw2⟩
        have hb2 : Below w1.heap.size w1 w2 := by
          rw [hw2]
          exact (Below.refl _ _).alloc (Nat.le_refl _) _
        clear hw2 g2
        have hs2 := hb2.size
        go_wp2_with (at_make; refine wpList_make_own _ rfl _ _ 27 rfl w1.heap.size 4 i0 (.bool false) 1 Tryd.underlying27 hi hz0 hz1 .i64 .i64 _ (il.length + gs.length) rfl rfl (by first | exact HLS.out | omega) (by rw [hz2]; omega) (by unfold maxLen; omega) (by omega) ?_)
        intro w3 own3 grow3
        have hb3 : Below w1.heap.size w1 w3 := hb2.grown grow3 hb2.size (fun k hk => by cases hk)
        have y1 := x1.below hb3 x1.lt
        obtain ⟨q0, q1, q2⟩ := y1.cells
        have qh := y1.heap
        have ql := y1.lt
        go_wp2_with (at_builtin; refine wpList_append_own_none rfl _ _ 27 rfl w1.heap.size 4 i0 1 Tryd.underlying27 hi _ _ _ rfl own3 rfl ?_)
        have HO1 : Hid (OwnBools w3 w1.heap.size (.slice (some ⟨w2.heap.size, 0, none⟩) 0 gs.length) il) := by
          show w3.ownsRow w1.heap.size 4 1 _ il.length (cellsB il)
          have e0 : il = [] := List.length_eq_zero_iff.1 ilz
          rw [e0]
          exact own3
        have HB4 : Hid (Below w1.heap.size w1 w3) := hb3
        clear own3 grow3 hb2 hb3 hs2 c0 c1 c2 hh hlt1
        clear q0 q1 q2 qh ql y1
        go_loopw [6, 27] (fun v i wr => ∃ j : Nat, j ≤ gs.length ∧ i = .int .i64 j ∧ Hid (OwnBools wr w1.heap.size v (runG (gs.take j) il)) ∧ Hid (Below w1.heap.size w1 wr)) (fun _ i _ => gs.length - (intOf i).toNat)
        case atStart => exact ⟨0, by omega, rfl, HO1, HB4⟩
        case round =>
          obtain ⟨j, hj, rfl, HO, HB⟩ := hrel
          have hszr := HB.out.size
          by_cases hlt : j < gs.length
          · obtain ⟨x, hx⟩ : ∃ x, gs[j]? = some x := ⟨gs[j], List.getElem?_eq_getElem hlt⟩
            obtain ⟨b, off, rfl, d0, d1, d2⟩ := HG.out wr (HB1.out.trans (HB.out.mono HB1.out.size)) j x hx
            have hgg := HGB.out j x hx
            have hol : (runG (gs.take j) il).length = il.length + j := by rw [runG_len, List.length_take_of_le (by omega)]
            have hnew : runG (gs.take (j + 1)) il = runG (gs.take j) il ++ [gateV (runG (gs.take j) il) x] := by
              rw [List.take_add_one, hx, runG_append]
              rfl
            have HNEW : Hid _ := hnew
            obtain ⟨k, xa, xb⟩ := x
            simp only at d0 d1 d2
            have HOg : Hid (OwnBools (wr.alloc (.cells #[.int .i64 k, .int .i64 xa, .int .i64 xb] 107)) w1.heap.size u6 (runG (gs.take j) il)) := World.ownsRow.alloc HO.out _
            have HBg : Hid (Below w1.heap.size w1 (wr.alloc (.cells #[.int .i64 k, .int .i64 xa, .int .i64 xb] 107))) := HB.out.alloc hszr _
            generalize hrun : runG (gs.take j) il = rl at *
            have g3 := carried_any (k, xa, xb) u6 rl (ins + j) (by omega) (by omega) hgg (wr.alloc (.cells #[.int .i64 k, .int .i64 xa, .int .i64 xb] 107)) (bools_of_own (by omega) HOg.out)
            unfold gv at g3
            simp only at g3
            generalize hz : gateV rl (k, xa, xb) = z at *
            have HNX : Hid (∀ (v2 : Value) (w2 : World), w2.ownsRow w1.heap.size 4 1 v2 (rl.length + 1) (cellsB rl ++ [.bool z]) → OwnBools w2 w1.heap.size v2 (runG (gs.take (j + 1)) il)) := by
              intro v2 w2 ho2
              show OwnBools w2 w1.heap.size v2 (runG (gs.take (j + 1)) il)
              rw [HNEW.out]
              unfold OwnBools
              rw [List.length_append, List.length_singleton, cellsB_append]
              exact ho2
            obtain ⟨va, vcp, hv⟩ := own_shape HO.out
            subst hv
            have HHOL : Hid (rl.length = il.length + j) := hol
            have hrl : rl.length ≤ 400 := by omega
            clear hx hnew HNEW HG HGB HO1 HB4 hrun hz hgg hol HO
            generalize hrn : rl.length = rn at *
            go_wp2_with fail
            refine g3.mono ?_
            rintro e w5 ⟨rfl, hs5⟩
            have HB5 : Hid (Below w1.heap.size w1 w5) := HBg.out.trans (hs5.mono HBg.out.size)
            have own5 : w5.ownsRow w1.heap.size 4 1 (.slice va rn vcp) rn (cellsB rl) := by
              have h5 := owns_below HOg.out hs5
              rw [hrn] at h5
              exact h5
            have own6 := own5.alloc (.cells #[.bool z] 4)
            have hb6 : Below w1.heap.size w1 (w5.alloc (.cells #[.bool z] 4)) := HB5.out.alloc HB5.out.size _
            have hs6 := hb6.size
            clear g3 hs5 HOg HBg own5
            go_wp2_with (at_builtin; refine wpList_append_own _ rfl _ _ 27 rfl w1.heap.size 4 i0 (.bool false) 1 1 Tryd.underlying27 hi hz0 hz1 hz2 rfl (by decide) _ _ _ rfl own6 ⟨w5.heap.size, 0, none⟩ 1 1 [.bool z] rfl rfl (oneB_cells w5 z) (bools_one [z]) (by unfold maxLen; omega) (by omega) (by omega) ?_)
            intro v2 w2' own7 grow7 _
            have HB7 : Hid (Below w1.heap.size w1 w2') := below_app hb6 (by omega) (Nat.le_refl _) own6 grow7
            have HO7 : Hid (OwnBools w2' w1.heap.size v2 (runG (gs.take (j + 1)) il)) := HNX.out v2 w2' own7
            clear own6 own7 grow7 hb6 HNX
            go_wp2_with fail
            go_roundw
            case rel => exact ⟨j + 1, by omega, by go_num, HO7, HB7⟩
            case measure => simp [intOf]; omega
          · obtain rfl : j = gs.length := by omega
            have HN : Hid (OwnBools wr w1.heap.size u6 (runG gs il)) := by
              have h1 := HO.out
              rw [List.take_length] at h1
              exact h1
            have HB2 : Hid (Below w.heap.size w wr) := HB1.out.trans (HB.out.mono HB1.out.size)
            have hw1 := HB1.out.size
            clear HO HB HG HGB HO1 HB4
            go_wp2_with fail
            go_ret2
            exact ⟨_, rfl, own_base HN.out hw1, HB2.out⟩
      · have hic1 : ∀ w3, Below w1.heap.size w1 w3 → ∀ (i : Nat) (x : Bool), il[i]? = some x → w3.cell? ⟨ib, 0 + i, none⟩ = some (.bool x) := fun w3 hb i x hx => by
          rw [hb.cell (p := ⟨ib, 0 + i, none⟩) (Nat.lt_of_lt_of_le hilt HB1.out.size), HB1.out.cell (p := ⟨ib, 0 + i, none⟩) hilt]
          exact hic i x hx
        have HIC : Hid _ := hic1
        rw [hivs]
        clear hic hic1 hivs hiv
        go_wp2_with fail
        refine g2.mono ?_
        rintro e w2 ⟨rfl, hw2⟩
        have hb2 : Below w1.heap.size w1 w2 := by
          rw [hw2]
          exact (Below.refl _ _).alloc (Nat.le_refl _) _
        clear hw2 g2
        have hs2 := hb2.size
        go_wp2_with (at_make; refine wpList_make_own _ rfl _ _ 27 rfl w1.heap.size 4 i0 (.bool false) 1 Tryd.underlying27 hi hz0 hz1 .i64 .i64 _ (il.length + gs.length) rfl rfl (by first | exact HLS.out | omega) (by rw [hz2]; omega) (by unfold maxLen; omega) (by omega) ?_)
        intro w3 own3 grow3
        have hb3 : Below w1.heap.size w1 w3 := hb2.grown grow3 hb2.size (fun k hk => by cases hk)
        have hs3 := hb3.size
        have cells3 := bools_from (w := w3) (g := ib) (o := 0) (t := il) (HIC.out w3 hb3)
        go_wp2_with (at_builtin; refine wpList_append_own _ rfl _ _ 27 rfl w1.heap.size 4 i0 (.bool false) 1 1 Tryd.underlying27 hi hz0 hz1 hz2 rfl (by decide) _ _ _ rfl own3 ⟨ib, 0, none⟩ il.length icap' (cellsB il) rfl (by simp [cellsB]) cells3 (bools_one il) (by unfold maxLen; omega) (by omega) (by omega) ?_)
        intro v4 w4 own4 grow4 _
        have hb4 : Below w1.heap.size w1 w4 := below_app hb3 hb3.size (Nat.le_refl _) own3 grow4
        have HO1 : Hid (OwnBools w4 w1.heap.size v4 il) := by
          first | exact own4 | simpa using own4
        have HB4 : Hid (Below w1.heap.size w1 w4) := hb4
        have y1 := x1.below hb4 x1.lt
        obtain ⟨q0, q1, q2⟩ := y1.cells
        have qh := y1.heap
        have ql := y1.lt
        clear own3 own4 grow3 grow4 hb2 hb3 hb4 hs2 hs3 cells3 HIC c0 c1 c2 hh hlt1
        go_wp2_with fail
        clear q0 q1 q2 qh ql y1
        go_loopw [6, 27] (fun v i wr => ∃ j : Nat, j ≤ gs.length ∧ i = .int .i64 j ∧ Hid (OwnBools wr w1.heap.size v (runG (gs.take j) il)) ∧ Hid (Below w1.heap.size w1 wr)) (fun _ i _ => gs.length - (intOf i).toNat)
        case atStart => exact ⟨0, by omega, rfl, HO1, HB4⟩
        case round =>
          obtain ⟨j, hj, rfl, HO, HB⟩ := hrel
          have hszr := HB.out.size
          by_cases hlt : j < gs.length
          · obtain ⟨x, hx⟩ : ∃ x, gs[j]? = some x := ⟨gs[j], List.getElem?_eq_getElem hlt⟩
            obtain ⟨b, off, rfl, d0, d1, d2⟩ := HG.out wr (HB1.out.trans (HB.out.mono HB1.out.size)) j x hx
            have hgg := HGB.out j x hx
            have hol : (runG (gs.take j) il).length = il.length + j := by rw [runG_len, List.length_take_of_le (by omega)]
            have hnew : runG (gs.take (j + 1)) il = runG (gs.take j) il ++ [gateV (runG (gs.take j) il) x] := by
              rw [List.take_add_one, hx, runG_append]
              rfl
            have HNEW : Hid _ := hnew
            obtain ⟨k, xa, xb⟩ := x
            simp only at d0 d1 d2
            have HOg : Hid (OwnBools (wr.alloc (.cells #[.int .i64 k, .int .i64 xa, .int .i64 xb] 107)) w1.heap.size u6 (runG (gs.take j) il)) := World.ownsRow.alloc HO.out _
            have HBg : Hid (Below w1.heap.size w1 (wr.alloc (.cells #[.int .i64 k, .int .i64 xa, .int .i64 xb] 107))) := HB.out.alloc hszr _
            generalize hrun : runG (gs.take j) il = rl at *
            have g3 := carried_any (k, xa, xb) u6 rl (ins + j) (by omega) (by omega) hgg (wr.alloc (.cells #[.int .i64 k, .int .i64 xa, .int .i64 xb] 107)) (bools_of_own (by omega) HOg.out)
            unfold gv at g3
            simp only at g3
            generalize hz : gateV rl (k, xa, xb) = z at *
            have HNX : Hid (∀ (v2 : Value) (w2 : World), w2.ownsRow w1.heap.size 4 1 v2 (rl.length + 1) (cellsB rl ++ [.bool z]) → OwnBools w2 w1.heap.size v2 (runG (gs.take (j + 1)) il)) := by
              intro v2 w2 ho2
              show OwnBools w2 w1.heap.size v2 (runG (gs.take (j + 1)) il)
              rw [HNEW.out]
              unfold OwnBools
              rw [List.length_append, List.length_singleton, cellsB_append]
              exact ho2
            obtain ⟨va, vcp, hv⟩ := own_shape HO.out
            subst hv
            have HHOL : Hid (rl.length = il.length + j) := hol
            have hrl : rl.length ≤ 400 := by omega
            clear hx hnew HNEW HG HGB HO1 HB4 hrun hz hgg hol HO
            generalize hrn : rl.length = rn at *
            go_wp2_with fail
            refine g3.mono ?_
            rintro e w5 ⟨rfl, hs5⟩
            have HB5 : Hid (Below w1.heap.size w1 w5) := HBg.out.trans (hs5.mono HBg.out.size)
            have own5 : w5.ownsRow w1.heap.size 4 1 (.slice va rn vcp) rn (cellsB rl) := by
              have h5 := owns_below HOg.out hs5
              rw [hrn] at h5
              exact h5
            have own6 := own5.alloc (.cells #[.bool z] 4)
            have hb6 : Below w1.heap.size w1 (w5.alloc (.cells #[.bool z] 4)) := HB5.out.alloc HB5.out.size _
            have hs6 := hb6.size
            clear g3 hs5 HOg HBg own5
            go_wp2_with (at_builtin; refine wpList_append_own _ rfl _ _ 27 rfl w1.heap.size 4 i0 (.bool false) 1 1 Tryd.underlying27 hi hz0 hz1 hz2 rfl (by decide) _ _ _ rfl own6 ⟨w5.heap.size, 0, none⟩ 1 1 [.bool z] rfl rfl (oneB_cells w5 z) (bools_one [z]) (by unfold maxLen; omega) (by omega) (by omega) ?_)
            intro v2 w2' own7 grow7 _
            have HB7 : Hid (Below w1.heap.size w1 w2') := below_app hb6 (by omega) (Nat.le_refl _) own6 grow7
            have HO7 : Hid (OwnBools w2' w1.heap.size v2 (runG (gs.take (j + 1)) il)) := HNX.out v2 w2' own7
            clear own6 own7 grow7 hb6 HNX
            go_wp2_with fail
            go_roundw
            case rel => exact ⟨j + 1, by omega, by go_num, HO7, HB7⟩
            case measure => simp [intOf]; omega
          · obtain rfl : j = gs.length := by omega
            have HN : Hid (OwnBools wr w1.heap.size u6 (runG gs il)) := by
              have h1 := HO.out
              rw [List.take_length] at h1
              exact h1
            have HB2 : Hid (Below w.heap.size w wr) := HB1.out.trans (HB.out.mono HB1.out.size)
            have hw1 := HB1.out.size
            clear HO HB HG HGB HO1 HB4
            go_wp2_with fail
            go_ret2
            exact ⟨_, rfl, own_base HN.out hw1, HB2.out⟩
    · rw [if_neg (fun e => hl e.2), decide_eq_false (fun e => hl e.2)]
      have hne : ((il.length : Int) != c.1) = true := bne_iff_ne.2 hl
      subst hiv'
      generalize il.length = ilen at *
      go_enter Tryd.func90, Tryd.ntmps90
      go_wp2_with fail
      refine g1.mono ?_
      rintro e w1 ⟨rfl, hs⟩
      have HB : Hid (Below w.heap.size w w1) := Below.step hb0 hb0.size hs
      have x1 := x0.below hs (by omega)
      obtain ⟨c0, c1, c2⟩ := x1.cells
      have hlt1 := x1.lt
      clear g1 hiv hil hat hg h1 h2
      go_wp2_with fail
      go_ret2
      exact ⟨_, rfl, World.ownsRow_nil _ _ _ _, HB.out⟩
end Go.Proofs.YtpjllhlbdcanlaaDoor

namespace Go.Proofs.YtpjllhlbdcanlaaDoor
open Go Go.RowKit
open M
set_option linter.unusedVariables false

theorem wiresL_len (c : Ci) (il : List Bool) (h : il.length ≤ 1048576) : (wiresL c il).length ≤ 1048576 := by
  unfold wiresL
  split
  · rename_i hg
    obtain ⟨_, h1, h2, _⟩ := goodC_ins hg.1
    rw [runG_len]
    omega
  · simp
theorem sAllWires_bs (v iv : Value) (c : Ci) (il : List Bool) (w : World) (h : AtC w v c) (hiv : AtBS w iv il) :
    Calls Tryd.prog 89 #[v, iv] w fun e w' => ∃ r, e = .returned (.tuple #[r, .bool (wiresB c il)]) ∧ OwnBS w' w.heap.size w'.heap.size r (wiresL c il) ∧ Below w.heap.size w w' := by
  refine (sAllWires_any v iv c il w h hiv).mono ?_
  rintro e w' ⟨r, he, ho, hb⟩
  exact ⟨r, he, rowIn_of ho, hb⟩
theorem iAllWires_bs (v iv : Value) (c : Ci) (il : List Bool) (w : World) (h : AtC w v c) (hiv : AtBS w iv il) :
    Calls Tryd.prog 90 #[v, iv] w fun e w' => ∃ r, e = .returned (.tuple #[r, .bool (wiresB c il)]) ∧ OwnBS w' w.heap.size w'.heap.size r (wiresL c il) ∧ Below w.heap.size w w' := by
  refine (iAllWires_any v iv c il w h hiv).mono ?_
  rintro e w' ⟨r, he, ho, hb⟩
  exact ⟨r, he, rowIn_of ho, hb⟩
end Go.Proofs.YtpjllhlbdcanlaaDoor

namespace Go.Proofs.YtpjllhlbdcanlaaDoor
open Go Go.RowKit
open M
set_option linter.unusedVariables false

def outsL (c : Ci) (il : List Bool) : List Bool := if goodC c = true ∧ (il.length : Int) = c.1 then c.2.2.map (at' (runG c.2.1 il)) else []
theorem outsL_len (c : Ci) (il : List Bool) : (outsL c il).length ≤ 1048576 := by
  unfold outsL
  split
  · rename_i hg
    obtain ⟨_, _, _, h3, _⟩ := goodC_ins hg.1
    rw [List.length_map]
    omega
  · simp
set_option maxRecDepth 100000 in
set_option maxHeartbeats 2000000 in
theorem sRunCircuit_any (v iv : Value) (c : Ci) (il : List Bool) (w : World) (h : AtC w v c) (hiv : AtBS w iv il) :
    Calls Tryd.prog 64 #[v, iv] w fun e w' => ∃ r, e = .returned (.tuple #[r, .bool (wiresB c il)]) ∧ OwnBS w' w.heap.size w'.heap.size r (outsL c il) ∧ Below w.heap.size w w' := by
  have hat := h.at
  obtain ⟨_, gw, o, hv, h1, h2, _⟩ := id h
  obtain ⟨ga, gc, hgw⟩ := h1.shape
  obtain ⟨oa, oc, ho, hoc⟩ := h2.opened
  subst hgw ho hv
  obtain ⟨ia, icap, hiv'⟩ := hiv.1.shape
  have hb0 : Below w.heap.size w (w.alloc (.cells #[.int .i64 c.1, .slice ga c.2.1.length gc, .slice oa c.2.2.length oc] 41)) := (Below.refl _ _).alloc (Nat.le_refl _) _
  have x0 := box3_alloc w 41 (.int .i64 c.1) (.slice ga c.2.1.length gc) (.slice oa c.2.2.length oc)
  have g1 := sAllWires_any _ _ c il _ (h.below hb0) (hiv.below hb0)
  have hsz : (w.alloc (.cells #[.int .i64 c.1, .slice ga c.2.1.length gc, .slice oa c.2.2.length oc] 41)).heap.size = w.heap.size + 1 := by simp only [World.size_alloc]
  by_cases hgood : goodC c = true ∧ (il.length : Int) = c.1
  · have e1 : outsL c il = c.2.2.map (at' (runG c.2.1 il)) := by unfold outsL; rw [if_pos hgood]
    have e2 : wiresB c il = true := by unfold wiresB; exact decide_eq_true hgood
    have e3 : wiresL c il = runG c.2.1 il := by unfold wiresL; rw [if_pos hgood]
    rw [e2, e3] at g1
    rw [e1, e2]
    obtain ⟨hI0, hI1, hG, hO, _, hout⟩ := goodC_ins hgood.1
    have hrl : (runG c.2.1 il).length = il.length + c.2.1.length := runG_len _ _
    have hlen := hgood.2
    obtain ⟨ins, gs, os⟩ := c
    simp only at *
    have HOC : Hid (∀ (w1 : World), Below w.heap.size w w1 → ∀ (i : Nat) (x : Int), os[i]? = some x → ∃ b off : Nat, oa = some ⟨b, off, none⟩ ∧ w1.cell? ⟨b, off + i, none⟩ = some (.int .i64 x)) := fun w1 hb i x hx => by
      obtain ⟨b, off, e, hlt, hc⟩ := hoc i x hx
      exact ⟨b, off, e, by rw [hb.cell (p := ⟨b, off + i, none⟩) hlt]; exact hc⟩
    have HOU : Hid (∀ x ∈ os, 0 ≤ x ∧ x < ins + gs.length) := hout
    obtain ⟨i0, hi, hz0, hz1, hz2⟩ := info_parts infoBool
    subst hiv'
    clear hoc hout h1 h2 hat e1 e2 e3 hgood h hiv
    generalize runG gs il = rl at *
    have hrl2 : rl.length ≤ 400 := by omega
    have hrl3 : ins + (gs.length : Int) = rl.length := by omega
    clear hlen
    generalize il.length = iln at *
    go_enter Tryd.func64, Tryd.ntmps64
    go_wp2_with fail
    refine g1.mono ?_
    rintro e w1 ⟨r, rfl, hor, hs⟩
    have hb1 := Below.step hb0 hb0.size hs
    have x1 := x0.below hs (by omega)
    obtain ⟨c0, c1, c2⟩ := x1.cells
    have hh := x1.heap
    have hlt1 := x1.lt
    obtain ⟨ra, rcap, hr⟩ := own_shape hor
    subst hr
    have HB1 : Hid (Below w.heap.size w w1) := hb1
    have HR : Hid (∀ w2 : World, Below w1.heap.size w1 w2 → BoolsAt w2 (.slice ra rl.length rcap) rl) := fun w2 hb => (bools_of_own (by omega) hor).below hb
    clear g1 hor hs hb0 x0 hb1
    go_wp2_with fail
    clear c0 c1 c2 hh hlt1
    go_loopw [8, 22] (fun v i wr => ∃ j : Nat, j ≤ os.length ∧ i = .int .i64 j ∧ Hid (OwnBools wr w1.heap.size v ((os.take j).map (at' rl))) ∧ Hid (Below w1.heap.size w1 wr)) (fun _ i _ => os.length - (intOf i).toNat)
    case atStart => exact ⟨0, by omega, rfl, World.ownsRow_nil _ _ _ _, Below.refl _ _⟩
    case round =>
      obtain ⟨j, hj, rfl, HO, HB⟩ := hrel
      have hszr := HB.out.size
      by_cases hlt : j < os.length
      · obtain ⟨x, hx⟩ : ∃ x, os[j]? = some x := ⟨os[j], List.getElem?_eq_getElem hlt⟩
        obtain ⟨b, off, rfl, d0⟩ := HOC.out wr (HB1.out.trans (HB.out.mono HB1.out.size)) j x hx
        have hxr := HOU.out x (List.mem_of_getElem? hx)
        obtain ⟨hx0, hx1⟩ := hxr
        obtain ⟨vg, voff, vcp, hvv, hvl, hcell⟩ := (HR.out wr HB.out).at hx0 (by omega)
        injection hvv with ea eb ec
        subst ea ec
        obtain ⟨A, rfl⟩ := Int.eq_ofNat_of_zero_le hx0
        rw [Int.toNat_natCast] at hcell
        have hml : ((os.take j).map (at' rl)).length = j := by rw [List.length_map, List.length_take_of_le (by omega)]
        have HNX : Hid (∀ (v2 : Value) (w2 : World), w2.ownsRow w1.heap.size 4 1 v2 (j + 1) (cellsB ((os.take j).map (at' rl)) ++ [.bool (at' rl A)]) → OwnBools w2 w1.heap.size v2 ((os.take (j + 1)).map (at' rl))) := by
          intro v2 w2 ho2
          show OwnBools w2 w1.heap.size v2 ((os.take (j + 1)).map (at' rl))
          rw [List.take_add_one, hx, List.map_append]
          unfold OwnBools
          rw [List.length_append, hml, cellsB_append]
          exact ho2
        have own5 : wr.ownsRow w1.heap.size 4 1 u8 j (cellsB ((os.take j).map (at' rl))) := by
          have h5 := HO.out
          unfold OwnBools at h5
          rw [hml] at h5
          exact h5
        obtain ⟨va, vc5, hv5⟩ := own_shape own5
        subst hv5
        generalize at' rl A = z at *
        have own6 := own5.alloc (.cells #[.bool z] 4)
        have hb6 : Below w1.heap.size w1 (wr.alloc (.cells #[.bool z] 4)) := HB.out.alloc hszr _
        have hs6 := hb6.size
        have hA : (A : Int) < rl.length := by omega
        clear hx HOC HOU HR HO own5 hml HB hx1
        generalize (cellsB ((os.take j).map (at' rl))) = cb at *
        generalize rl.length = rln at *
        go_wp2_with (at_builtin; refine wpList_append_own _ rfl _ _ 27 rfl w1.heap.size 4 i0 (.bool false) 1 1 Tryd.underlying27 hi hz0 hz1 hz2 rfl (by decide) _ _ _ rfl own6 ⟨wr.heap.size, 0, none⟩ 1 1 [.bool z] rfl rfl (oneB_cells wr z) (bools_one [z]) (by unfold maxLen; omega) (by omega) (by omega) ?_)
        intro v2 w2' own7 grow7 _
        have HB7 : Hid (Below w1.heap.size w1 w2') := below_app hb6 (by omega) (Nat.le_refl _) own6 grow7
        have HO7 : Hid (OwnBools w2' w1.heap.size v2 ((os.take (j + 1)).map (at' rl))) := HNX.out v2 w2' own7
        clear own6 own7 grow7 hb6 HNX
        go_wp2_with fail
        go_roundw
        case rel => exact ⟨j + 1, by omega, by go_num, HO7, HB7⟩
        case measure => simp [intOf]; omega
      · obtain rfl : j = os.length := by omega
        have HN : Hid (OwnBools wr w1.heap.size u8 (os.map (at' rl))) := by
          have h1 := HO.out
          rw [List.take_length] at h1
          exact h1
        have HB2 : Hid (Below w.heap.size w wr) := HB1.out.trans (HB.out.mono HB1.out.size)
        have hw1 := HB1.out.size
        clear HO HB HOC HOU HR
        go_wp2_with fail
        go_ret2
        exact ⟨_, rfl, rowIn_of (own_base HN.out hw1), HB2.out⟩
  · have e1 : outsL c il = [] := by unfold outsL; rw [if_neg hgood]
    have e2 : wiresB c il = false := by unfold wiresB; exact decide_eq_false hgood
    have e3 : wiresL c il = [] := by unfold wiresL; rw [if_neg hgood]
    rw [e2, e3] at g1
    rw [e1, e2]
    subst hiv'
    clear hoc h1 h2 hat e1 e2 e3 hgood h hiv
    generalize il.length = iln at *
    go_enter Tryd.func64, Tryd.ntmps64
    go_wp2_with fail
    refine g1.mono ?_
    rintro e w1 ⟨r, rfl, hor, hs⟩
    obtain ⟨ra, rcap, hr⟩ := own_shape hor
    subst hr
    have HB : Hid (Below w.heap.size w w1) := Below.step hb0 hb0.size hs
    clear g1 hor hs
    go_wp2_with fail
    go_ret2
    exact ⟨_, rfl, rowIn_of (World.ownsRow_nil _ _ _ _), HB.out⟩
set_option maxRecDepth 100000 in
set_option maxHeartbeats 2000000 in
theorem iRunCircuit_any (v iv : Value) (c : Ci) (il : List Bool) (w : World) (h : AtC w v c) (hiv : AtBS w iv il) :
    Calls Tryd.prog 65 #[v, iv] w fun e w' => ∃ r, e = .returned (.tuple #[r, .bool (wiresB c il)]) ∧ OwnBS w' w.heap.size w'.heap.size r (outsL c il) ∧ Below w.heap.size w w' := by
  have hat := h.at
  obtain ⟨_, gw, o, hv, h1, h2, _⟩ := id h
  obtain ⟨ga, gc, hgw⟩ := h1.shape
  obtain ⟨oa, oc, ho, hoc⟩ := h2.opened
  subst hgw ho hv
  obtain ⟨ia, icap, hiv'⟩ := hiv.1.shape
  have hb0 : Below w.heap.size w (w.alloc (.cells #[.int .i64 c.1, .slice ga c.2.1.length gc, .slice oa c.2.2.length oc] 41)) := (Below.refl _ _).alloc (Nat.le_refl _) _
  have x0 := box3_alloc w 41 (.int .i64 c.1) (.slice ga c.2.1.length gc) (.slice oa c.2.2.length oc)
  have g1 := iAllWires_any _ _ c il _ (h.below hb0) (hiv.below hb0)
  have hsz : (w.alloc (.cells #[.int .i64 c.1, .slice ga c.2.1.length gc, .slice oa c.2.2.length oc] 41)).heap.size = w.heap.size + 1 := by simp only [World.size_alloc]
  by_cases hgood : goodC c = true ∧ (il.length : Int) = c.1
  · have e1 : outsL c il = c.2.2.map (at' (runG c.2.1 il)) := by unfold outsL; rw [if_pos hgood]
    have e2 : wiresB c il = true := by unfold wiresB; exact decide_eq_true hgood
    have e3 : wiresL c il = runG c.2.1 il := by unfold wiresL; rw [if_pos hgood]
    rw [e2, e3] at g1
    rw [e1, e2]
    obtain ⟨hI0, hI1, hG, hO, _, hout⟩ := goodC_ins hgood.1
    have hrl : (runG c.2.1 il).length = il.length + c.2.1.length := runG_len _ _
    have hlen := hgood.2
    obtain ⟨ins, gs, os⟩ := c
    simp only at *
    have HOC : Hid (∀ (w1 : World), Below w.heap.size w w1 → ∀ (i : Nat) (x : Int), os[i]? = some x → ∃ b off : Nat, oa = some ⟨b, off, none⟩ ∧ w1.cell? ⟨b, off + i, none⟩ = some (.int .i64 x)) := fun w1 hb i x hx => by
      obtain ⟨b, off, e, hlt, hc⟩ := hoc i x hx
      exact ⟨b, off, e, by rw [hb.cell (p := ⟨b, off + i, none⟩) hlt]; exact hc⟩
    have HOU : Hid (∀ x ∈ os, 0 ≤ x ∧ x < ins + gs.length) := hout
    obtain ⟨i0, hi, hz0, hz1, hz2⟩ := info_parts infoBool
    subst hiv'
    clear hoc hout h1 h2 hat e1 e2 e3 hgood h hiv
    generalize runG gs il = rl at *
    have hrl2 : rl.length ≤ 400 := by omega
    have hrl3 : ins + (gs.length : Int) = rl.length := by omega
    clear hlen
    generalize il.length = iln at *
    go_enter Tryd.func65, Tryd.ntmps65
    go_wp2_with fail
    refine g1.mono ?_
    rintro e w1 ⟨r, rfl, hor, hs⟩
    have hb1 := Below.step hb0 hb0.size hs
    have x1 := x0.below hs (by omega)
    obtain ⟨c0, c1, c2⟩ := x1.cells
    have hh := x1.heap
    have hlt1 := x1.lt
    obtain ⟨ra, rcap, hr⟩ := own_shape hor
    subst hr
    have HB1 : Hid (Below w.heap.size w w1) := hb1
    have HR : Hid (∀ w2 : World, Below w1.heap.size w1 w2 → BoolsAt w2 (.slice ra rl.length rcap) rl) := fun w2 hb => (bools_of_own (by omega) hor).below hb
    clear g1 hor hs hb0 x0 hb1
    go_wp2_with fail
    clear c0 c1 c2 hh hlt1
    go_loopw [8, 22] (fun v i wr => ∃ j : Nat, j ≤ os.length ∧ i = .int .i64 j ∧ Hid (OwnBools wr w1.heap.size v ((os.take j).map (at' rl))) ∧ Hid (Below w1.heap.size w1 wr)) (fun _ i _ => os.length - (intOf i).toNat)
    case atStart => exact ⟨0, by omega, rfl, World.ownsRow_nil _ _ _ _, Below.refl _ _⟩
    case round =>
      obtain ⟨j, hj, rfl, HO, HB⟩ := hrel
      have hszr := HB.out.size
      by_cases hlt : j < os.length
      · obtain ⟨x, hx⟩ : ∃ x, os[j]? = some x := ⟨os[j], List.getElem?_eq_getElem hlt⟩
        obtain ⟨b, off, rfl, d0⟩ := HOC.out wr (HB1.out.trans (HB.out.mono HB1.out.size)) j x hx
        have hxr := HOU.out x (List.mem_of_getElem? hx)
        obtain ⟨hx0, hx1⟩ := hxr
        obtain ⟨vg, voff, vcp, hvv, hvl, hcell⟩ := (HR.out wr HB.out).at hx0 (by omega)
        injection hvv with ea eb ec
        subst ea ec
        obtain ⟨A, rfl⟩ := Int.eq_ofNat_of_zero_le hx0
        rw [Int.toNat_natCast] at hcell
        have hml : ((os.take j).map (at' rl)).length = j := by rw [List.length_map, List.length_take_of_le (by omega)]
        have HNX : Hid (∀ (v2 : Value) (w2 : World), w2.ownsRow w1.heap.size 4 1 v2 (j + 1) (cellsB ((os.take j).map (at' rl)) ++ [.bool (at' rl A)]) → OwnBools w2 w1.heap.size v2 ((os.take (j + 1)).map (at' rl))) := by
          intro v2 w2 ho2
          show OwnBools w2 w1.heap.size v2 ((os.take (j + 1)).map (at' rl))
          rw [List.take_add_one, hx, List.map_append]
          unfold OwnBools
          rw [List.length_append, hml, cellsB_append]
          exact ho2
        have own5 : wr.ownsRow w1.heap.size 4 1 u8 j (cellsB ((os.take j).map (at' rl))) := by
          have h5 := HO.out
          unfold OwnBools at h5
          rw [hml] at h5
          exact h5
        obtain ⟨va, vc5, hv5⟩ := own_shape own5
        subst hv5
        generalize at' rl A = z at *
        have own6 := own5.alloc (.cells #[.bool z] 4)
        have hb6 : Below w1.heap.size w1 (wr.alloc (.cells #[.bool z] 4)) := HB.out.alloc hszr _
        have hs6 := hb6.size
        have hA : (A : Int) < rl.length := by omega
        clear hx HOC HOU HR HO own5 hml HB hx1
        generalize (cellsB ((os.take j).map (at' rl))) = cb at *
        generalize rl.length = rln at *
        go_wp2_with (at_builtin; refine wpList_append_own _ rfl _ _ 27 rfl w1.heap.size 4 i0 (.bool false) 1 1 Tryd.underlying27 hi hz0 hz1 hz2 rfl (by decide) _ _ _ rfl own6 ⟨wr.heap.size, 0, none⟩ 1 1 [.bool z] rfl rfl (oneB_cells wr z) (bools_one [z]) (by unfold maxLen; omega) (by omega) (by omega) ?_)
        intro v2 w2' own7 grow7 _
        have HB7 : Hid (Below w1.heap.size w1 w2') := below_app hb6 (by omega) (Nat.le_refl _) own6 grow7
        have HO7 : Hid (OwnBools w2' w1.heap.size v2 ((os.take (j + 1)).map (at' rl))) := HNX.out v2 w2' own7
        clear own6 own7 grow7 hb6 HNX
        go_wp2_with fail
        go_roundw
        case rel => exact ⟨j + 1, by omega, by go_num, HO7, HB7⟩
        case measure => simp [intOf]; omega
      · obtain rfl : j = os.length := by omega
        have HN : Hid (OwnBools wr w1.heap.size u8 (os.map (at' rl))) := by
          have h1 := HO.out
          rw [List.take_length] at h1
          exact h1
        have HB2 : Hid (Below w.heap.size w wr) := HB1.out.trans (HB.out.mono HB1.out.size)
        have hw1 := HB1.out.size
        clear HO HB HOC HOU HR
        go_wp2_with fail
        go_ret2
        exact ⟨_, rfl, rowIn_of (own_base HN.out hw1), HB2.out⟩
  · have e1 : outsL c il = [] := by unfold outsL; rw [if_neg hgood]
    have e2 : wiresB c il = false := by unfold wiresB; exact decide_eq_false hgood
    have e3 : wiresL c il = [] := by unfold wiresL; rw [if_neg hgood]
    rw [e2, e3] at g1
    rw [e1, e2]
    subst hiv'
    clear hoc h1 h2 hat e1 e2 e3 hgood h hiv
    generalize il.length = iln at *
    go_enter Tryd.func65, Tryd.ntmps65
    go_wp2_with fail
    refine g1.mono ?_
    rintro e w1 ⟨r, rfl, hor, hs⟩
    obtain ⟨ra, rcap, hr⟩ := own_shape hor
    subst hr
    have HB : Hid (Below w.heap.size w w1) := Below.step hb0 hb0.size hs
    clear g1 hor hs
    go_wp2_with fail
    go_ret2
    exact ⟨_, rfl, rowIn_of (World.ownsRow_nil _ _ _ _), HB.out⟩
end Go.Proofs.YtpjllhlbdcanlaaDoor

namespace Go.Proofs.YtpjllhlbdcanlaaDoor
open Go Go.RowKit
open M
set_option linter.unusedVariables false
set_option linter.unusedSimpArgs false

theorem gates_facts {wide vars : Int} {t : List Nd} (hB : gatesB wide vars t = true) : ∃ W V : Nat, wide = (W : Int) ∧ vars = (V : Int) ∧ 1 ≤ W ∧ W ≤ 4 ∧ 1 ≤ V ∧ V ≤ 4 ∧ goodC (gatesC wide vars t) = true ∧ (gatesC wide vars t).1 = (W : Int) * V ∧ 1 ≤ (gatesC wide vars t).2.2.length ∧ (gatesC wide vars t).2.2.length ≤ 4 := by
  unfold gatesB at hB
  rw [Bool.and_eq_true, Bool.and_eq_true] at hB
  obtain ⟨hpl, hw, hg⟩ := hB
  unfold plainL at hpl
  rw [Bool.and_eq_true] at hpl
  obtain ⟨hk, hpz⟩ := hpl
  have hk := of_decide_eq_true hk
  have hw := of_decide_eq_true hw
  obtain ⟨k1, k2, k3, k4, k5, r, hr, hok, hrf, hrk⟩ := root_tree hk
  obtain ⟨W, rfl, hW1, hW64⟩ := wideB_true k1
  obtain ⟨V, rfl⟩ : ∃ V : Nat, vars = (V : Int) := ⟨vars.toNat, by omega⟩
  have hplr : plainT r := fun x hx => by
    rw [hrf] at hx
    exact plainX_true (List.all_eq_true.1 hpz x hx)
  have hgc := gatesC_tree hok hrf
  have hl := (layT_len W (by omega) r hok hplr ((W : Int) * V)).2
  refine ⟨W, V, rfl, rfl, hW1, by omega, by omega, by omega, hg, by rw [hgc], ?_, ?_⟩
  · rw [hgc]
    show 1 ≤ (layT W r ((W : Int) * V)).2.length
    rw [hl]
    unfold lenK
    split <;> omega
  · rw [hgc]
    show (layT W r ((W : Int) * V)).2.length ≤ 4
    rw [hl]
    unfold lenK
    split <;> omega
theorem gatesR_ok (wide vars : Int) (t : List Nd) (hn : ∀ x ∈ t, NdOk x) : CiOk (gatesR wide vars t) := by
  unfold gatesR
  split
  · rename_i hB
    unfold gatesB at hB
    rw [Bool.and_eq_true, Bool.and_eq_true] at hB
    obtain ⟨hpl, hw, hg⟩ := hB
    unfold plainL at hpl
    rw [Bool.and_eq_true] at hpl
    obtain ⟨hk, hpz⟩ := hpl
    have hk := of_decide_eq_true hk
    have hw := of_decide_eq_true hw
    obtain ⟨k1, k2, k3, k4, k5, r, hr, hok, hrf, hrk⟩ := root_tree hk
    obtain ⟨W, rfl, hW1, hW64⟩ := wideB_true k1
    have hplr : plainT r := fun x hx => by
      rw [hrf] at hx
      exact plainX_true (List.all_eq_true.1 hpz x hx)
    have hnd : NdB r := fun x hx => by
      rw [hrf] at hx
      have h1 := hn x hx
      exact ⟨h1.2.2.1, h1.2.2.2⟩
    have hsz : r.size ≤ 48 := by rw [← Tr.flat_len, hrf]; omega
    rw [gatesC_tree hok hrf]
    exact gatesC_ok (t := t) hW1 (by omega) k2 k3 hok hplr hnd hsz
  · exact ⟨⟨by simp only; omega, by simp only; omega⟩, by simp, by simp, by simp⟩
/-- what RunLaid answers -/
def runB (wide : Int) (t : List Nd) (st : List Int) : Bool := gatesB wide st.length t && st.all (goodB wide)
def runN (wide : Int) (t : List Nd) (st : List Int) : Int := if runB wide t st = true then (numB (outsL (gatesC wide st.length t) (bitsL wide.toNat st)) : Int) else 0
theorem runB_parts {wide : Int} {t : List Nd} {st : List Int} (h : runB wide t st = true) : bitsOk wide st = true ∧ gatesB wide st.length t = true ∧ st.all (goodB wide) = true ∧ wiresB (gatesC wide st.length t) (bitsL wide.toNat st) = true ∧ (outsL (gatesC wide st.length t) (bitsL wide.toNat st)).length ≤ 4 ∧ 1 ≤ (outsL (gatesC wide st.length t) (bitsL wide.toNat st)).length := by
  unfold runB at h
  rw [Bool.and_eq_true] at h
  obtain ⟨hg, ha⟩ := h
  obtain ⟨W, V, hW, hV, h1, h2, h3, h4, h5, h6, h7, h8⟩ := gates_facts hg
  have hb : bitsOk wide st = true := by
    unfold bitsOk
    rw [ha, decide_eq_true (show 1 ≤ wide ∧ wide ≤ 4 by omega), decide_eq_true (show 1 ≤ st.length ∧ st.length ≤ 4 by omega)]
    rfl
  have hl : ((bitsL wide.toNat st).length : Int) = (gatesC wide st.length t).1 := by
    rw [h6, bitsL_len]
    subst hW
    rw [Int.toNat_natCast]
    have e : st.length = V := by omega
    rw [e, Nat.mul_comm]
    exact Int.natCast_mul W V
  refine ⟨hb, hg, ha, ?_, ?_, ?_⟩
  · unfold wiresB
    exact decide_eq_true ⟨h5, hl⟩
  · unfold outsL
    rw [if_pos ⟨h5, hl⟩, List.length_map]
    exact h8
  · unfold outsL
    rw [if_pos ⟨h5, hl⟩, List.length_map]
    exact h7
theorem runB_no {wide : Int} {t : List Nd} {st : List Int} (h : runB wide t st = false) : runN wide t st = 0 := by unfold runN; rw [h]; rfl
theorem laidNumber_own (lo hi : Nat) (v : Value) (l : List Bool) (hl : l.length ≤ 4) (w : World) (h : OwnBS w lo hi v l) :
    Calls Tryd.prog 46 #[v] w fun e w' => e = .returned (.int .u64 (numB l)) ∧ w' = w := by
  rcases h.1.2 with ⟨rfl, h0⟩ | ⟨g, cap, cur, rfl, _⟩
  · obtain rfl : l = [] := List.length_eq_zero_iff.1 h0
    exact laidNumber_nil none 0 w
  · refine laidNumber_in g 0 cap l.length l rfl hl w fun i x hx => ?_
    have hi : i < l.length := (List.getElem?_eq_some_iff.1 hx).1
    rw [Nat.zero_add, h.1.cellAt i (by omega)]
    simp [cellsB, hx]
set_option maxRecDepth 100000 in
set_option maxHeartbeats 4000000 in
theorem iRunLaid_any (wide : Int) (v sv : Value) (t : List Nd) (st : List Int) (w : World) (hT : Tab w) (h : NodesAt w v t) (hs : WordsAt w sv st) :
    Calls Tryd.prog 33 #[.int .i64 wide, v, sv] w fun e w' => e = .returned (.tuple #[.int .u64 (runN wide t st), .bool (runB wide t st)]) ∧ Below w.heap.size w w' := by
  have g1 := iBitsOf_any wide sv st w hT hs
  have G2 : Hid (∀ w1 : World, Below w.heap.size w w1 → Calls Tryd.prog 20 #[.int .i64 wide, .int .i64 st.length, v] w1 fun e w' => ∃ r, e = .returned (.tuple #[r, .bool (gatesB wide st.length t)]) ∧ OwnCirc w' w1.heap.size w'.heap.size r (gatesR wide st.length t) ∧ Below w1.heap.size w1 w') := fun w1 hb => iGatesFor_any wide st.length v t w1 (hT.below hb hT.some) (h.below hb)
  have hok := gatesR_ok wide st.length t h.1
  obtain ⟨va, vcap, hvsh⟩ := h.shape
  obtain ⟨sa, scap, hssh⟩ := hs.shape
  have hsl := hs.2.1
  cases hb : bitsOk wide st with
  | false =>
    have hr : runB wide t st = false := by
      cases e : runB wide t st with
      | false => rfl
      | true => rw [(runB_parts e).1] at hb; cases hb
    rw [runB_no hr, hr]
    rw [hb] at g1
    clear hT h hs hr hb hok G2
    subst hvsh hssh
    go_enter Tryd.func33, Tryd.ntmps33
    go_wp2_with fail
    refine g1.mono ?_
    rintro e w1 ⟨r, rfl, _, hs1⟩
    have HB : Hid (Below w.heap.size w w1) := hs1
    clear g1 hs1
    go_wp2_with fail
    go_ret2
    exact ⟨rfl, HB.out⟩
  | true =>
    have hbr : bitsR wide st = bitsL wide.toNat st := by unfold bitsR; rw [if_pos hb]
    have hall : st.all (goodB wide) = true := by
      unfold bitsOk at hb
      rw [Bool.and_eq_true, Bool.and_eq_true] at hb
      exact hb.2.2
    rw [hb, hbr] at g1
    have hlen16 : (bitsL wide.toNat st).length ≤ 16 := by rw [← hbr]; exact bitsR_len wide st
    cases hg : gatesB wide st.length t with
    | false =>
      have hr : runB wide t st = false := by unfold runB; rw [hg, Bool.false_and]
      rw [runB_no hr, hr]
      rw [hg] at G2
      clear hT h hs hr hb hall hbr hg hok
      generalize gatesR wide st.length t = C at *
      generalize bitsL wide.toNat st = L at *
      generalize st.length = sn at *
      obtain ⟨ins, gs, os⟩ := C
      subst hvsh hssh
      go_enter Tryd.func33, Tryd.ntmps33
      go_wp2_with fail
      refine g1.mono ?_
      rintro e w1 ⟨r, rfl, _, hs1⟩
      have HB1 : Hid (Below w.heap.size w w1) := hs1
      clear g1 hs1
      go_wp2_with fail
      refine (G2.out _ HB1.out).mono ?_
      rintro e w2 ⟨c, rfl, ho, hs2⟩
      obtain ⟨ga, gn, gc, oa, on, oc, rfl⟩ := ho.shape
      have hb2 : Below w.heap.size w w2 := HB1.out.trans (hs2.mono HB1.out.size)
      have HB2 : Hid (Below w.heap.size w (w2.alloc (.cells #[.int .i64 ins, .slice ga gn gc, .slice oa on oc] 41))) := hb2.alloc hb2.size _
      clear ho hs2 hb2 G2
      go_wp2_with fail
      go_ret2
      exact ⟨rfl, HB2.out⟩
    | true =>
      have hr : runB wide t st = true := by unfold runB; rw [hg, hall]; rfl
      obtain ⟨_, _, _, hwb, hol, _⟩ := runB_parts hr
      have hrn : runN wide t st = (numB (outsL (gatesC wide st.length t) (bitsL wide.toNat st)) : Int) := by unfold runN; rw [if_pos hr]
      have hgr : gatesR wide st.length t = gatesC wide st.length t := by unfold gatesR; rw [if_pos hg]
      rw [hrn, hr]
      rw [hg] at G2
      rw [hgr] at G2 hok
      clear hT h hs hr hb hall hbr hg hrn hgr
      generalize gatesC wide st.length t = C at *
      generalize bitsL wide.toNat st = L at *
      have GR : Hid (∀ (c b : Value) (w1 : World), AtC w1 c C → AtBS w1 b L → Calls Tryd.prog 65 #[c, b] w1 fun e w' => ∃ r, e = .returned (.tuple #[r, .bool true]) ∧ OwnBS w' w1.heap.size w'.heap.size r (outsL C L) ∧ Below w1.heap.size w1 w') := fun c b w1 h1 h2 => by
        have g := iRunCircuit_any c b C L w1 h1 h2
        rw [hwb] at g
        exact g
      have GN : Hid (∀ (b : Value) (lo hi : Nat) (w1 : World), OwnBS w1 lo hi b (outsL C L) → Calls Tryd.prog 46 #[b] w1 fun e w' => e = .returned (.int .u64 (numB (outsL C L))) ∧ w' = w1) := fun b lo hi w1 h1 => laidNumber_own lo hi b _ hol w1 h1
      have HAC : Hid (∀ (w1 : World) (lo hi : Nat) (v1 : Value), OwnCirc w1 lo hi v1 C → AtC w1 v1 C) := fun w1 lo hi v1 ho => ho.hands hok
      have HAB : Hid (∀ (w1 : World) (lo hi : Nat) (v1 : Value), OwnBS w1 lo hi v1 L → AtBS w1 v1 L) := fun w1 lo hi v1 ho => ho.hands (by omega)
      generalize outsL C L = O at *
      generalize numB O = RN at *
      generalize st.length = sn at *
      obtain ⟨ins, gs, os⟩ := C
      clear hok hol hwb hlen16
      subst hvsh hssh
      go_enter Tryd.func33, Tryd.ntmps33
      go_wp2_with fail
      refine g1.mono ?_
      rintro e w1 ⟨r, rfl, hr1, hs1⟩
      have HB1 : Hid (Below w.heap.size w w1) := hs1
      have HL1 : Hid (∀ w' : World, Below w1.heap.size w1 w' → AtBS w' r L) := fun w' hb => (HAB.out _ _ _ _ hr1).below hb
      obtain ⟨ra, rn, rcp, hrsh⟩ := hr1.shape
      subst hrsh
      clear g1 hs1 hr1
      go_wp2_with fail
      refine (G2.out _ HB1.out).mono ?_
      rintro e w2 ⟨c, rfl, ho, hs2⟩
      have hat2 := HAC.out _ _ _ _ ho
      obtain ⟨ga, gn, gc, oa, on, oc, rfl⟩ := ho.shape
      have hb2 : Below w.heap.size w w2 := HB1.out.trans (hs2.mono HB1.out.size)
      have hb3 : Below w.heap.size w (w2.alloc (.cells #[.int .i64 ins, .slice ga gn gc, .slice oa on oc] 41)) := hb2.alloc hb2.size _
      have hal : Below w2.heap.size w2 (w2.alloc (.cells #[.int .i64 ins, .slice ga gn gc, .slice oa on oc] 41)) := below_alloc _ _
      have hx3 := box3_alloc w2 41 (.int .i64 ins) (.slice ga gn gc) (.slice oa on oc)
      have hat3 := hat2.below hal
      have hbl3 := HL1.out _ (hs2.trans (hal.mono hs2.size))
      clear ho hs2 hb2 G2 hat2
      go_wp2_with fail
      generalize (w2.alloc (.cells #[.int .i64 ins, .slice ga gn gc, .slice oa on oc] 41)) = w3 at *
      refine (GR.out _ _ _ hat3 hbl3).mono ?_
      rintro e w4 ⟨o, rfl, ho4, hs4⟩
      have HB4 : Hid (Below w.heap.size w w4) := hb3.trans (hs4.mono hb3.size)
      have g5 := GN.out _ _ _ _ ho4
      obtain ⟨qa, qn, qc, hqs⟩ := ho4.shape
      subst hqs
      clear hx3 hat3 hbl3 hs4 ho4 hb3 hal GR
      go_wp2_with fail
      refine g5.mono ?_
      rintro e w5 ⟨rfl, rfl⟩
      go_wp2_with fail
      go_ret2
      exact ⟨rfl, HB4.out⟩
set_option maxRecDepth 100000 in
set_option maxHeartbeats 8000000 in
theorem sRunLaid_any (wide : Int) (v sv : Value) (t : List Nd) (st : List Int) (hl20 : st.length ≤ 1048576) (w : World) (h : NodesAt w v t) (hs : WordsAt w sv st) :
    Calls Tryd.prog 32 #[.int .i64 wide, v, sv] w fun e w' => e = .returned (.tuple #[.int .u64 (runN wide t st), .bool (runB wide t st)]) ∧ Below w.heap.size w w' := by
  have g2 := sGatesFor_any wide st.length v t w h
  have GW : Hid (∀ w1 : World, Below w.heap.size w w1 → Calls Tryd.prog 44 #[.int .i64 wide, sv] w1 fun e w' => e = .returned (.bool (st.all (goodB wide))) ∧ w' = w1) := fun w1 hb => l2Words_any wide sv st ⟨hl20, hs.1⟩ w1 (hs.2.2.below hb)
  have hok := gatesR_ok wide st.length t h.1
  have hsAt : ∀ w1 : World, Below w.heap.size w w1 → WordsAt w1 sv st := fun w1 hb => hs.below hb
  obtain ⟨va, vcap, hvsh⟩ := h.shape
  obtain ⟨sa, scap, hssh⟩ := hs.shape
  have hsl := hs.2.1
  cases hg : gatesB wide st.length t with
  | false =>
    have hr : runB wide t st = false := by unfold runB; rw [hg, Bool.false_and]
    rw [runB_no hr, hr]
    rw [hg] at g2
    clear h hs hr hg hok GW hsAt
    generalize gatesR wide st.length t = C at *
    generalize st.length = sn at *
    obtain ⟨ins, gs, os⟩ := C
    subst hvsh hssh
    go_enter Tryd.func32, Tryd.ntmps32
    go_wp2_with fail
    refine g2.mono ?_
    rintro e w2 ⟨c, rfl, ho, hs2⟩
    obtain ⟨ga, gn, gc, oa, on, oc, rfl⟩ := ho.shape
    have HB2 : Hid (Below w.heap.size w (w2.alloc (.cells #[.int .i64 ins, .slice ga gn gc, .slice oa on oc] 41))) := hs2.alloc hs2.size _
    clear ho hs2 g2
    go_wp2_with fail
    go_ret2
    exact ⟨rfl, HB2.out⟩
  | true =>
    cases hall : st.all (goodB wide) with
    | false =>
      have hr : runB wide t st = false := by unfold runB; rw [hall, Bool.and_false]
      rw [runB_no hr, hr]
      rw [hg] at g2
      rw [hall] at GW
      clear h hs hr hg hok hsAt hall
      generalize gatesR wide st.length t = C at *
      generalize st.length = sn at *
      obtain ⟨ins, gs, os⟩ := C
      subst hvsh hssh
      go_enter Tryd.func32, Tryd.ntmps32
      go_wp2_with fail
      refine g2.mono ?_
      rintro e w2 ⟨c, rfl, ho, hs2⟩
      obtain ⟨ga, gn, gc, oa, on, oc, rfl⟩ := ho.shape
      have hb3 : Below w.heap.size w (w2.alloc (.cells #[.int .i64 ins, .slice ga gn gc, .slice oa on oc] 41)) := hs2.alloc hs2.size _
      clear ho hs2 g2
      go_wp2_with fail
      generalize (w2.alloc (.cells #[.int .i64 ins, .slice ga gn gc, .slice oa on oc] 41)) = w3 at *
      have HB3 : Hid (Below w.heap.size w w3) := hb3
      refine (GW.out _ hb3).mono ?_
      rintro e w4 ⟨rfl, rfl⟩
      clear hb3
      go_wp2_with fail
      go_ret2
      exact ⟨rfl, HB3.out⟩
    | true =>
      have hr : runB wide t st = true := by unfold runB; rw [hg, hall]; rfl
      obtain ⟨hbk, _, _, hwb, hol, hol1⟩ := runB_parts hr
      have hrn : runN wide t st = (numB (outsL (gatesC wide st.length t) (bitsL wide.toNat st)) : Int) := by unfold runN; rw [if_pos hr]
      have hgr : gatesR wide st.length t = gatesC wide st.length t := by unfold gatesR; rw [if_pos hg]
      rw [hrn, hr]
      rw [hg, hgr] at g2
      rw [hgr] at hok
      rw [hall] at GW
      have hwn : (1 ≤ wide ∧ wide ≤ 4) ∧ (1 ≤ st.length ∧ st.length ≤ 4) := by
        unfold bitsOk at hbk
        rw [Bool.and_eq_true, Bool.and_eq_true, decide_eq_true_eq, decide_eq_true_eq] at hbk
        exact ⟨hbk.1, hbk.2.1⟩
      have hlen16 : (bitsL wide.toNat st).length ≤ 16 := by
        rw [bitsL_len]
        exact Nat.mul_le_mul hwn.2.2 (show wide.toNat ≤ 4 by omega)
      have GB : Hid (∀ w1 : World, Below w.heap.size w w1 → Calls Tryd.prog 45 #[.int .i64 wide, sv] w1 fun e w' => ∃ r, e = .returned r ∧ OwnBS w' w1.heap.size w'.heap.size r (bitsL wide.toNat st) ∧ Below w1.heap.size w1 w') := by
        intro w1 hb
        obtain ⟨W, rfl⟩ : ∃ W : Nat, wide = (W : Int) := ⟨wide.toNat, by omega⟩
        rw [Int.toNat_natCast]
        rcases (hsAt w1 hb).2.2 with ⟨e, _⟩ | ⟨b, off, cap', hv, hlt, hc⟩
        · rw [e] at hwn; simp at hwn
        · rw [hv]
          refine (sBits_in W (by omega) (by omega) b off cap' st hwn.2.1 hwn.2.2 hs.1 w1 hlt hc).mono ?_
          rintro e w' ⟨r, he, ho, hb⟩
          exact ⟨r, he, rowIn_of ho, hb⟩
      clear h hs hr hg hall hrn hgr hbk hwn hsAt
      generalize gatesC wide st.length t = C at *
      generalize bitsL wide.toNat st = L at *
      have GR : Hid (∀ (c b : Value) (w1 : World), AtC w1 c C → AtBS w1 b L → Calls Tryd.prog 64 #[c, b] w1 fun e w' => ∃ r, e = .returned (.tuple #[r, .bool true]) ∧ OwnBS w' w1.heap.size w'.heap.size r (outsL C L) ∧ Below w1.heap.size w1 w') := fun c b w1 h1 h2 => by
        have g := sRunCircuit_any c b C L w1 h1 h2
        rw [hwb] at g
        exact g
      have HAC : Hid (∀ (w1 : World) (lo hi : Nat) (v1 : Value), OwnCirc w1 lo hi v1 C → AtC w1 v1 C) := fun w1 lo hi v1 ho => ho.hands hok
      have HAB : Hid (∀ (w1 : World) (lo hi : Nat) (v1 : Value), OwnBS w1 lo hi v1 L → AtBS w1 v1 L) := fun w1 lo hi v1 ho => ho.hands (by omega)
      generalize outsL C L = O at *
      generalize st.length = sn at *
      obtain ⟨ins, gs, os⟩ := C
      clear hok hwb hlen16
      subst hvsh hssh
      go_enter Tryd.func32, Tryd.ntmps32
      go_wp2_with fail
      refine g2.mono ?_
      rintro e w2 ⟨c, rfl, ho, hs2⟩
      have hat2 := HAC.out _ _ _ _ ho
      obtain ⟨ga, gn, gc, oa, on, oc, rfl⟩ := ho.shape
      have hb3 : Below w.heap.size w (w2.alloc (.cells #[.int .i64 ins, .slice ga gn gc, .slice oa on oc] 41)) := hs2.alloc hs2.size _
      have hal : Below w2.heap.size w2 (w2.alloc (.cells #[.int .i64 ins, .slice ga gn gc, .slice oa on oc] 41)) := below_alloc _ _
      have hx3 := box3_alloc w2 41 (.int .i64 ins) (.slice ga gn gc) (.slice oa on oc)
      have hat3 := hat2.below hal
      clear ho hs2 g2 hat2
      go_wp2_with fail
      generalize (w2.alloc (.cells #[.int .i64 ins, .slice ga gn gc, .slice oa on oc] 41)) = w3 at *
      refine (GW.out _ hb3).mono ?_
      rintro e w4 ⟨rfl, hw4⟩
      have hw5 := hw4.symm
      subst hw5
      clear hw4
      have HB3 : Hid (Below w.heap.size w w3) := hb3
      have HX : Hid (∀ w' : World, Below w3.heap.size w3 w' → Box3 w' w2.heap.size 41 (.int .i64 ins) (.slice ga gn gc) (.slice oa on oc)) := fun w' hb => hx3.below hb hx3.lt
      have HC3 : Hid (∀ w' : World, Below w3.heap.size w3 w' → AtC w' (.agg #[.int .i64 ins, .slice ga gn gc, .slice oa on oc]) (ins, gs, os)) := fun w' hb => hat3.below hb
      obtain ⟨x0, x1, x2⟩ := hx3.cells
      have xh := hx3.heap
      have xl := hx3.lt
      clear hx3 hat3 hb3 hal GW HAC
      go_wp2_with fail
      go_region_with (first | (go_at_call 45; refine (GB.out _ (by first | exact HB3.out | exact HB3.out.drew | exact HB3.out.drew.drew)).mono ?_; rintro e wn ⟨b, rfl, hob, hsb⟩; have HSN : Hid (Below w3.heap.size w3 wn) := (by first | exact hsb | exact (Below.refl _ _).drew.trans hsb | exact (Below.refl _ _).drew.drew.trans hsb); have HBL : Hid (AtBS wn b L) := HAB.out _ _ _ _ hob; obtain ⟨ba, bn, bc, hbs⟩ := hob.shape; subst hbs; have yx := HX.out _ HSN.out; obtain ⟨y0, y1, y2⟩ := yx.cells; have yh := yx.heap; have yl := yx.lt; clear hsb hob yx) | (go_at_call 64; refine (GR.out _ _ _ (by first | exact HC3.out _ HSN.out | exact HC3.out _ HSN.out.drew | exact HC3.out _ HSN.out.drew.drew) (by first | exact HBL.out | exact HBL.out.below (Below.refl _ _).drew | exact HBL.out.below (Below.refl _ _).drew.drew)).mono ?_; rintro e wm ⟨o, rfl, hoo, hso⟩; have HSM : Hid (Below w3.heap.size w3 wm) := (by first | exact HSN.out.trans (hso.mono HSN.out.size) | exact HSN.out.drew.trans (hso.mono HSN.out.size) | exact HSN.out.drew.drew.trans (hso.mono HSN.out.size)); have HOC : Hid (∃ g cap : Nat, o = .slice (some ⟨g, 0, none⟩) O.length cap ∧ ∀ (i : Nat) (x : Bool), O[i]? = some x → wm.cell? ⟨g, 0 + i, none⟩ = some (.bool x)) := (by rcases hoo.1.2 with ⟨_, h0⟩ | ⟨g, cap, cur, hv9, _⟩; exact absurd h0 (by omega); exact ⟨g, cap, hv9, fun i x hx => by subst hv9; rw [Nat.zero_add, hoo.1.cellAt i (by have := (List.getElem?_eq_some_iff.1 hx).1; omega)]; simp [cellsB, hx]⟩); obtain ⟨qa, qn, qc, hqs⟩ := hoo.shape; subst hqs; clear hso hoo))
      all_goals
        obtain ⟨og, ocap, hoe, hoc⟩ := HOC.out
        injection hoe with o1 o2 o3
        subst o1 o2 o3
        have HCO : Hid _ := hoc
        have HBM : Hid (Below w.heap.size w wm) := HB3.out.trans (HSM.out.mono HB3.out.size)
        obtain ⟨n, hn⟩ : ∃ n, O.length = n := ⟨_, rfl⟩
        have HN : Hid (O.length = n) := hn
        rw [hn] at hol hol1 ⊢
        clear hoc HOC hn HSM HSN HBL HX HC3 x0 x1 x2 xh xl y0 y1 y2 yh yl GB GR HB3
        go_wp2_with fail
        go_loop [12, 41] (fun m i => ∃ j : Nat, j ≤ n ∧ i = .int .i64 j ∧ m = .int .u64 (numB (O.take j))) (fun _ i => n - (intOf i).toNat)
        case atStart => exact ⟨0, by omega, rfl, rfl⟩
        case round =>
          obtain ⟨j, hj, rfl, rfl⟩ := hrel
          by_cases hlt : j < n
          · obtain ⟨x, hx⟩ : ∃ x, O[j]? = some x := ⟨O[j]'(by have := HN.out; omega), List.getElem?_eq_getElem _⟩
            have c0 := HCO.out j x hx
            rw [Nat.zero_add] at c0
            have hnl := numB_lt (O.take j)
            rw [List.length_take_of_le (by have := HN.out; omega)] at hnl
            have ho := or_put j (by omega) (numB (O.take j)) hnl x
            have HS : Hid (numB (O.take (j + 1)) = putN (numB (O.take j)) j x) := by
              show numB (O.take (j + 1)) = _
              have e : O.take (j + 1) = O.take j ++ [x] := by rw [List.take_add_one, hx]; rfl
              rw [e, numB_snoc, List.length_take_of_le (by have := HN.out; omega)]
            have hjw : IntKind.u64.wrap (j : Int) = (j : Int) := IntWalk.u64_in _ ⟨by omega, by omega⟩
            have hj63 : (j : Int) < 64 := by omega
            obtain ⟨X, hX⟩ : ∃ X : Int, (if x = true then (1 : Int) else 0) = X := ⟨_, rfl⟩
            have G : ∀ w2 : World, Calls Tryd.prog 48 #[.bool x] w2 fun e w' => e = .returned (.int .u64 X) ∧ w' = w2 := fun w2 => by rw [← hX]; exact l2Bool_any x w2
            rw [hX] at ho
            generalize numB (O.take j) = A at *
            generalize putN A j x = P at *
            clear hx hX hnl
            go_wp2_with fail
            refine (G _).mono ?_
            rintro e w9 ⟨rfl, hw9⟩
            have hw8 := hw9.symm
            subst hw8
            clear hw9
            go_wp2_with fail
            go_round
            case rel => exact ⟨j + 1, by omega, by go_num, by rw [HS.out]⟩
            case measure => simp [intOf]; omega
          · obtain rfl : j = n := by omega
            have HE : Hid (numB (O.take j) = numB O) := by
              show numB (O.take j) = numB O
              rw [← HN.out, List.take_length]
            rw [HE.out]
            go_wp2_with fail
            go_ret2
            exact ⟨rfl, (by first | exact HBM.out | exact HBM.out.drew | exact HBM.out.drew.drew)⟩
end Go.Proofs.YtpjllhlbdcanlaaDoor

namespace Go.Proofs.YtpjllhlbdcanlaaDoor
open Go Go.RowKit
open M
set_option linter.unusedVariables false
set_option linter.unusedSimpArgs false

set_option maxRecDepth 100000 in
set_option maxHeartbeats 2000000 in
theorem iGateCount_any (wide vars : Int) (v : Value) (t : List Nd) (w : World) (hT : Tab w) (h : NodesAt w v t) :
    Calls Tryd.prog 35 #[.int .i64 wide, .int .i64 vars, v] w fun e w' => e = .returned (.tuple #[.int .i64 (gatesR wide vars t).2.1.length, .bool (gatesB wide vars t)]) ∧ Below w.heap.size w w' := by
  have g := iGatesFor_any wide vars v t w hT h
  obtain ⟨C, hC⟩ : ∃ C, gatesR wide vars t = C := ⟨_, rfl⟩
  have hno : gatesB wide vars t = false → C.2.1.length = 0 := fun h => by rw [← hC]; unfold gatesR; rw [h]; rfl
  rw [hC] at g ⊢
  obtain ⟨va, vcap, hvsh⟩ := h.shape
  generalize gatesB wide vars t = B at *
  obtain ⟨ins, gs, os⟩ := C
  simp only at hno ⊢
  clear h hC hT
  cases B with
  | true =>
    subst hvsh
    go_enter Tryd.func35, Tryd.ntmps35
    go_wp2_with fail
    refine g.mono ?_
    rintro e w1 ⟨r, rfl, ho, hs⟩
    obtain ⟨gv, ov, rfl, r1, r2⟩ := ho
    obtain ⟨ga, gc, hgs⟩ := own_shape r1.1
    obtain ⟨oa, oc, hos⟩ := own_shape r2.1
    subst hgs hos
    simp only at *
    have HB : Hid (Below w.heap.size w (w1.alloc (.cells #[.int .i64 ins, .slice ga gs.length gc, .slice oa os.length oc] 41))) := hs.alloc hs.size _
    clear g hs r1 r2
    go_wp2_with fail
    go_ret2
    exact ⟨rfl, HB.out⟩
  | false =>
    subst hvsh
    have hz := hno rfl
    rw [hz]
    go_enter Tryd.func35, Tryd.ntmps35
    go_wp2_with fail
    refine g.mono ?_
    rintro e w1 ⟨r, rfl, ho, hs⟩
    obtain ⟨gv, ov, rfl, r1, r2⟩ := ho
    obtain ⟨ga, gc, hgs⟩ := own_shape r1.1
    obtain ⟨oa, oc, hos⟩ := own_shape r2.1
    subst hgs hos
    simp only at *
    rw [hz]
    have HB : Hid (Below w.heap.size w (w1.alloc (.cells #[.int .i64 ins, .slice ga 0 gc, .slice oa os.length oc] 41))) := hs.alloc hs.size _
    clear g hs r1 r2 hz hno
    go_wp2_with fail
    go_ret2
    exact ⟨rfl, HB.out⟩
set_option maxRecDepth 100000 in
set_option maxHeartbeats 2000000 in
theorem sGateCount_any (wide vars : Int) (v : Value) (t : List Nd) (w : World) (h : NodesAt w v t) :
    Calls Tryd.prog 34 #[.int .i64 wide, .int .i64 vars, v] w fun e w' => e = .returned (.tuple #[.int .i64 (gatesR wide vars t).2.1.length, .bool (gatesB wide vars t)]) ∧ Below w.heap.size w w' := by
  have g := sGatesFor_any wide vars v t w h
  obtain ⟨C, hC⟩ : ∃ C, gatesR wide vars t = C := ⟨_, rfl⟩
  have hno : gatesB wide vars t = false → C.2.1.length = 0 := fun h => by rw [← hC]; unfold gatesR; rw [h]; rfl
  rw [hC] at g ⊢
  obtain ⟨va, vcap, hvsh⟩ := h.shape
  generalize gatesB wide vars t = B at *
  obtain ⟨ins, gs, os⟩ := C
  simp only at hno ⊢
  clear h hC
  cases B with
  | true =>
    subst hvsh
    go_enter Tryd.func34, Tryd.ntmps34
    go_wp2_with fail
    refine g.mono ?_
    rintro e w1 ⟨r, rfl, ho, hs⟩
    obtain ⟨gv, ov, rfl, r1, r2⟩ := ho
    obtain ⟨ga, gc, hgs⟩ := own_shape r1.1
    obtain ⟨oa, oc, hos⟩ := own_shape r2.1
    subst hgs hos
    simp only at *
    have HB : Hid (Below w.heap.size w (w1.alloc (.cells #[.int .i64 ins, .slice ga gs.length gc, .slice oa os.length oc] 41))) := hs.alloc hs.size _
    clear g hs r1 r2
    go_wp2_with fail
    go_ret2
    exact ⟨rfl, HB.out⟩
  | false =>
    subst hvsh
    have hz := hno rfl
    rw [hz]
    go_enter Tryd.func34, Tryd.ntmps34
    go_wp2_with fail
    refine g.mono ?_
    rintro e w1 ⟨r, rfl, ho, hs⟩
    obtain ⟨gv, ov, rfl, r1, r2⟩ := ho
    obtain ⟨ga, gc, hgs⟩ := own_shape r1.1
    obtain ⟨oa, oc, hos⟩ := own_shape r2.1
    subst hgs hos
    simp only at *
    rw [hz]
    have HB : Hid (Below w.heap.size w (w1.alloc (.cells #[.int .i64 ins, .slice ga 0 gc, .slice oa os.length oc] 41))) := hs.alloc hs.size _
    clear g hs r1 r2 hz hno
    go_wp2_with fail
    go_ret2
    exact ⟨rfl, HB.out⟩
end Go.Proofs.YtpjllhlbdcanlaaDoor
