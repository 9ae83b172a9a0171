/-
  The program's BitsOf.
-/
import Derived.Test.YtpjllhlbdcanlaaDoorBitI
import Derived.Test.YtpjllhlbdcanlaaDoorRun
import Derived.Test.YtpjllhlbdcanlaaDoorPut
import Derived.Test.YtpjllhlbdcanlaaDoorValueOf
import Derived.Test.YtpjllhlbdcanlaaDoorIShape
namespace Go.Proofs.YtpjllhlbdcanlaaDoor
open Go Go.RowKit
open M
set_option linter.unusedVariables false
set_option linter.unusedSimpArgs false

/-- the bits of a word, the lowest first; of words -/
def bits1 (W : Nat) (s : Int) : List Bool := (List.range W).map fun (j : Nat) => bitI s j == 1
def bitsL (W : Nat) (st : List Int) : List Bool := st.flatMap (bits1 W)
theorem bits1_snoc (s : Int) (j : Nat) : bits1 (j + 1) s = bits1 j s ++ [bitI s j == 1] := by simp [bits1, List.range_succ]
theorem bits1_len (W : Nat) (s : Int) : (bits1 W s).length = W := by simp [bits1]
theorem bitsL_len (W : Nat) : ∀ st : List Int, (bitsL W st).length = st.length * W
  | [] => by simp [bitsL]
  | s :: st => by
    have := bitsL_len W st
    unfold bitsL at this ⊢
    rw [List.flatMap_cons, List.length_append, this, bits1_len, List.length_cons, Nat.add_mul]
    omega
theorem bitsL_snoc (W : Nat) (st : List Int) (s : Int) : bitsL W (st ++ [s]) = bitsL W st ++ bits1 W s := by simp [bitsL]
set_option maxRecDepth 100000 in
set_option maxHeartbeats 8000000 in
theorem iBitsOf_in (W : Nat) (h1 : 1 ≤ W) (h4 : W ≤ 4) (b off cap : Nat) (st : List Int) (hn1 : 1 ≤ st.length) (hn4 : st.length ≤ 4) (hst : ∀ s ∈ st, 0 ≤ s ∧ s ≤ 18446744073709551615) (hall : st.all (goodB W) = true) (w : World) (hT : Tab w) (hlt : b < w.heap.size)
    (hc : ∀ (i : Nat) (s : Int), st[i]? = some s → w.cell? ⟨b, off + i, none⟩ = some (.int .u64 s)) (gl : Calls Tryd.prog 39 #[.int .i64 W] w fun e w' => e = .returned (.bool true) ∧ w' = w) :
    Calls Tryd.prog 10 #[.int .i64 W, .slice (some ⟨b, off, none⟩) st.length cap] w fun e w' => ∃ r, e = .returned (.tuple #[r, .bool true]) ∧ w'.ownsRow w.heap.size 4 1 r (bitsL W st).length (cellsB (bitsL W st)) ∧ Below w.heap.size w w' := by
  have g2 := goodVars_yes st.length (by omega) w
  obtain ⟨i0, hi, hz0, hz1, hz2⟩ := info_parts infoBool
  obtain ⟨m, hm⟩ : ∃ m : Nat, W * st.length = m := ⟨_, rfl⟩
  have hm1 : m ≤ 16 := by rw [← hm]; exact Nat.mul_le_mul h4 hn4
  have hmi : (W : Int) * (st.length : Int) = (m : Int) := by rw [← hm]; exact (Int.natCast_mul W st.length).symm
  have HC : Hid (∀ w' : World, Below w.heap.size w w' → ∀ (i : Nat) (s : Int), st[i]? = some s → w'.cell? ⟨b, off + i, none⟩ = some (.int .u64 s)) := fun w' hb i s hs => (hb.cell (p := ⟨b, off + i, none⟩) hlt).trans (hc i s hs)
  have HG : Hid (∀ (i : Nat) (s : Int) (w' : World), st[i]? = some s → Below w.heap.size w w' → Calls Tryd.prog 41 #[.int .i64 W, .int .u64 s] w' fun e w'' => e = .returned (.bool true) ∧ w'' = w') := by
    intro i s w' hs hb
    have g := iGoodWord_any W s w' (hT.below hb hT.some)
    rw [List.all_eq_true.1 hall s (List.mem_of_getElem? hs)] at g
    exact g
  have HST : Hid (∀ s ∈ st, 0 ≤ s ∧ s ≤ 18446744073709551615) := hst
  clear hc hall hT hst hm
  generalize hnn : st.length = n at *
  have HN : Hid (st.length = n) := hnn
  clear hnn
  go_enter Tryd.func10, Tryd.ntmps10
  go_wp2_with fail
  refine gl.mono ?_
  rintro e w1 ⟨rfl, rfl⟩
  go_wp2_with fail
  refine g2.mono ?_
  rintro e w1 ⟨rfl, rfl⟩
  go_wp2_with (at_make; refine wpList_make_own _ rfl _ _ 27 rfl w1.heap.size 4 i0 (.bool false) 1 Tryd.underlying27 hi hz0 hz1 .i64 .i64 _ m rfl rfl (by first | exact hmi | omega) (by rw [hz2]; omega) (by unfold maxLen; omega) (Nat.le_refl _) ?_)
  intro w3 own3 grow3
  have HO3 : Hid (w3.ownsRow w1.heap.size 4 1 (.slice (some ⟨w1.heap.size, 0, none⟩) 0 m) 0 []) := own3
  have HB3 : Hid (Below w1.heap.size w1 w3) := (Below.refl _ _).grown grow3 (Nat.le_refl _) (fun k hk => by cases hk)
  clear own3 grow3 gl g2
  go_wp2_with fail
  go_loopw [6, 26] (fun v i wr => ∃ j : Nat, j ≤ n ∧ i = .int .i64 j ∧ Hid (wr.ownsRow w1.heap.size 4 1 v (bitsL W (st.take j)).length (cellsB (bitsL W (st.take j)))) ∧ Hid (Below w1.heap.size w1 wr)) (fun _ i _ => n - (intOf i).toNat)
  case atStart => exact ⟨0, by omega, rfl, HO3, HB3⟩
  case round =>
    obtain ⟨j, hj, rfl, HO, HB⟩ := hrel
    generalize wr = wq at *
    clear HO3 HB3
    by_cases hlt2 : j < n
    · obtain ⟨s, hs⟩ : ∃ s, st[j]? = some s := ⟨st[j]'(by have := HN.out; omega), List.getElem?_eq_getElem _⟩
      have cs := HC.out wq HB.out j s hs
      have g3 := HG.out j s wq hs HB.out
      obtain ⟨hs0, hs1⟩ := HST.out s (List.mem_of_getElem? hs)
      have hbl : b < wq.heap.size := Nat.lt_of_lt_of_le hlt HB.out.size
      have HT1 : Hid (bitsL W (st.take (j + 1)) = bitsL W (st.take j) ++ bits1 W s) := by
        show bitsL W (st.take (j + 1)) = _
        rw [List.take_add_one, hs, ← bitsL_snoc]
        rfl
      have hbll : (bitsL W (st.take j)).length ≤ 16 := by
        rw [bitsL_len]
        have h5 : (st.take j).length ≤ 4 := by rw [List.length_take]; omega
        exact Nat.mul_le_mul h5 h4
      obtain ⟨L, hL⟩ : ∃ L, bitsL W (st.take j) = L := ⟨_, rfl⟩
      rw [hL] at HO HT1 hbll
      obtain ⟨va, vcp, hv⟩ := own_shape HO.out
      subst hv
      have hjA : (j : Int) < (n : Int) := by omega
      clear hL hs
      obtain ⟨ln, hln⟩ : ∃ ln, L.length = ln := ⟨_, rfl⟩
      rw [hln] at HO ⊢
      have HLN : Hid (L.length = ln) := hln
      have hln16 : ln ≤ 16 := by omega
      clear hln hbll
      go_wp2_with fail
      refine g3.mono ?_
      rintro e w4 ⟨rfl, hw4⟩
      have hw5 := hw4.symm
      subst hw5
      clear g3 hw4
      go_wp2_with fail
      go_loopw [6, 35] (fun v i wr => ∃ k : Nat, k ≤ W ∧ i = .int .i64 k ∧ Hid (wr.ownsRow w1.heap.size 4 1 v (ln + k) (cellsB (L ++ bits1 k s))) ∧ Hid (Below w1.heap.size w1 wr)) (fun _ i _ => W - (intOf i).toNat)
      case atStart => exact ⟨0, by omega, rfl, (by show World.ownsRow _ _ _ _ _ (ln + 0) (cellsB (L ++ [])); rw [List.append_nil]; exact HO.out), HB⟩
      case round =>
        obtain ⟨k, hk, rfl, HOk, HBk⟩ := hrel
        by_cases hlt3 : k < W
        · obtain ⟨va2, vcp2, hv2⟩ := own_shape HOk.out
          subst hv2
          have hbit := bits_bit1 s hs0 hs1 k
          obtain ⟨z, hz⟩ : ∃ z : Bool, (bitI s k == 1) = z := ⟨_, rfl⟩
          have HS : Hid (bits1 (k + 1) s = bits1 k s ++ [z]) := by
            show bits1 (k + 1) s = _
            rw [bits1_snoc, hz]
          have hzz : (bits BinOp.and IntKind.u64 (s / 2 ^ k) 1 == 1) = z := by rw [hbit]; exact hz
          have own6 := World.ownsRow.alloc HOk.out (.cells #[.bool z] 4)
          have hb6 : Below w1.heap.size w1 (wr.alloc (.cells #[.bool z] 4)) := HBk.out.alloc HBk.out.size _
          have hs6 := hb6.size
          have hkA : (k : Int) < (W : Int) := by omega
          have hlk : ln + k ≤ 20 := by omega
          clear hbit hz HOk HBk
          go_wp2_with (at_builtin; refine wpList_append_own _ rfl _ _ 27 rfl w1.heap.size 4 i0 (.bool false) 1 1 Tryd.underlying27 hi hz0 hz1 hz2 rfl (by decide) _ _ _ rfl own6 ⟨wr.heap.size, 0, none⟩ 1 1 [.bool z] rfl rfl (oneB_cells wr z) (bools_one [z]) (by unfold maxLen; omega) (by omega) hs6 ?_)
          intro v7 w7 own7 grow7 _
          have HB7 : Hid (Below w1.heap.size w1 w7) := below_app hb6 (by omega) (Nat.le_refl _) own6 grow7
          have HO7 : Hid (w7.ownsRow w1.heap.size 4 1 v7 (ln + (k + 1)) (cellsB (L ++ bits1 (k + 1) s))) := by
            show w7.ownsRow w1.heap.size 4 1 v7 (ln + (k + 1)) (cellsB (L ++ bits1 (k + 1) s))
            rw [HS.out, ← List.append_assoc, cellsB_append, ← Nat.add_assoc]
            exact own7
          clear own6 own7 grow7 hb6 HS
          go_wp2_with fail
          go_roundw
          case rel => exact ⟨k + 1, by omega, by go_num, HO7, HB7⟩
          case measure => simp [intOf]; omega
        · obtain rfl : k = W := by omega
          have HO9 : Hid (wr.ownsRow w1.heap.size 4 1 u6 (bitsL k (st.take (j + 1))).length (cellsB (bitsL k (st.take (j + 1))))) := by
            show wr.ownsRow w1.heap.size 4 1 u6 (bitsL k (st.take (j + 1))).length (cellsB (bitsL k (st.take (j + 1))))
            rw [HT1.out, List.length_append, bits1_len, HLN.out]
            exact HOk.out
          clear HOk
          go_wp2_with fail
          go_roundw
          case rel => exact ⟨j + 1, by omega, by go_num, HO9, HBk⟩
          case measure => simp [intOf]; omega
    · obtain rfl : j = n := by omega
      have HO9 : Hid (wq.ownsRow w1.heap.size 4 1 u6 (bitsL W st).length (cellsB (bitsL W st))) := by
        have h1 := HO.out
        rw [← HN.out, List.take_length] at h1
        exact h1
      clear HO HC HG
      go_wp2_with fail
      go_ret2
      exact ⟨_, rfl, HO9.out, HB.out⟩
end Go.Proofs.YtpjllhlbdcanlaaDoor
