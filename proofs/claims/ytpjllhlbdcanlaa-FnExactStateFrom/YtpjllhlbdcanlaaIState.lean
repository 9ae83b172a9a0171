/-
  The program's StateFrom.
-/
import Derived.Test.YtpjllhlbdcanlaaStateM
import Derived.Test.YtpjllhlbdcanlaaINum
import Derived.Test.YtpjllhlbdcanlaaIShape
import Derived.Test.YtpjllhlbdcanlaaPut
namespace Go.Proofs.Ytpjllhlbdcanlaa
open Go Go.RowKit
open M
set_option linter.unusedVariables false
set_option linter.unusedSimpArgs false

set_option maxRecDepth 100000 in
set_option maxHeartbeats 2000000 in
theorem laidNumber_in (b off cap n : Nat) (l : List Bool) (hln : l.length = n) (hl : n ≤ 4) (w : World) (hc : ∀ (i : Nat) (x : Bool), l[i]? = some x → w.cell? ⟨b, off + i, none⟩ = some (.bool x)) :
    Calls Try.prog 147 #[.slice (some ⟨b, off, none⟩) n cap] w fun e w' => e = .returned (.int .u64 (numB l)) ∧ w' = w := by
  have HC : Hid _ := hc
  have HN : Hid (l.length = n) := hln
  clear hc hln
  go_enter Try.func147, Try.ntmps147
  go_wp2_with fail
  go_loop [3, 8] (fun m i => ∃ j : Nat, j ≤ n ∧ i = .int .i64 j ∧ m = .int .u64 (numB (l.take j))) (fun _ i => n - (intOf i).toNat)
  case atStart => exact ⟨0, by omega, rfl, rfl⟩
  case round =>
    obtain ⟨j, hj, rfl, rfl⟩ := hrel
    by_cases hlt : j < n
    · obtain ⟨x, hx⟩ : ∃ x, l[j]? = some x := ⟨l[j]'(by have := HN.out; omega), List.getElem?_eq_getElem _⟩
      have c0 := HC.out j x hx
      have g := bitOf_any x w
      have ho := or_put j (by omega) (numB (l.take j)) (by have h := numB_lt (l.take j); rw [List.length_take_of_le (by have := HN.out; omega)] at h; exact h) x
      have HS : Hid (numB (l.take (j + 1)) = putN (numB (l.take j)) j x) := by
        show numB (l.take (j + 1)) = _
        have e : l.take (j + 1) = l.take j ++ [x] := by rw [List.take_add_one, hx]; rfl
        rw [e, numB_snoc, List.length_take_of_le (by have := HN.out; omega)]
      have hj63 : (j : Int) < 64 := by omega
      generalize hA : numB (l.take j) = A at *
      generalize hP : putN A j x = P at *
      generalize hX : (if x = true then (1 : Int) else 0) = X at *
      clear hx hP hX
      go_wp2_with fail
      refine g.mono ?_
      rintro e w1 ⟨rfl, rfl⟩
      go_wp2_with fail
      go_round
      case rel => exact ⟨j + 1, by omega, by go_num, by rw [HS.out]⟩
      case measure => simp [intOf]; omega
    · obtain rfl : j = n := by omega
      have HE : Hid (numB (l.take j) = numB l) := by
        show numB (l.take j) = numB l
        rw [← HN.out, List.take_length]
      rw [HE.out]
      go_wp2_with fail
      go_ret
      exact ⟨rfl, rfl⟩
set_option maxRecDepth 100000 in
theorem laidNumber_nil (a : Option Addr) (cap : Nat) (w : World) :
    Calls Try.prog 147 #[.slice a 0 cap] w fun e w' => e = .returned (.int .u64 0) ∧ w' = w := by
  go_enter Try.func147, Try.ntmps147
  go_wp2_with fail
  go_loop [3, 8] (fun m i => i = .int .i64 0 ∧ m = .int .u64 0) (fun _ i => 0)
  case atStart => exact ⟨rfl, rfl⟩
  case round =>
    obtain ⟨rfl, rfl⟩ := hrel
    go_wp2_with fail
    go_ret
    exact ⟨rfl, rfl⟩
theorem oneU_cells (w : World) (n : Int) : ∀ (j : Nat) (u : Value), ([.int .u64 n] : List Value)[j]? = some u → (w.alloc (.cells #[.int .u64 n] 107)).cell? ((⟨w.heap.size, 0, none⟩ : Addr).add j) = some u := by
  intro j u hu
  match j with
  | 0 => simp at hu; subst hu; simp [Addr.add]
  | j + 1 => simp at hu
theorem cellsU_append (s t : List Int) : cellsU (s ++ t) = cellsU s ++ cellsU t := by simp [cellsU]
theorem word_one (x : Int) : ∀ u ∈ ([.int .u64 x] : List Value), u.oneCell' = true := by
  intro u hu
  simp at hu
  subst hu
  rfl
set_option maxRecDepth 100000 in
set_option maxHeartbeats 4000000 in
theorem iState_1 (b off cap n m : Nat) (l : List Bool) (hln : l.length = n) (hn : n = 1 * m) (hm1 : 1 ≤ m) (hm4 : m ≤ 4) (hcap : n ≤ cap) (hcap1 : cap ≤ 9223372036854775807) (w : World) (hlt : b < w.heap.size)
    (hc : ∀ (i : Nat) (x : Bool), l[i]? = some x → w.cell? ⟨b, off + i, none⟩ = some (.bool x)) :
    Calls Try.prog 68 #[.int .i64 1, .slice (some ⟨b, off, none⟩) n cap] w fun e w' => ∃ r, e = .returned (.tuple #[r, .bool true]) ∧ w'.ownsRow w.heap.size 107 1 r (stateL 1 m l).length (cellsU (stateL 1 m l)) ∧ Below w.heap.size w w' := by
  obtain ⟨i0, hi, hz0, hz1, hz2⟩ := info_parts infoU64
  have g1 := goodLaid_any 1 w
  rw [decide_eq_true (by omega)] at g1
  have g2 := goodVars_yes m (by omega) w
  have hmod : (n : Int) % 1 = 0 := by omega
  have hdiv : (n : Int) / 1 = m := by omega
  have HL : Hid (∀ (j : Nat) (w1 : World), j < m → Below w.heap.size w w1 → Calls Try.prog 147 #[.slice (some ⟨b, off + 1 * j, none⟩) 1 (cap - 1 * j)] w1 fun e w' => e = .returned (.int .u64 (wordAt 1 l j)) ∧ w' = w1) := by
    intro j w1 hj hb
    have hl2 : ((l.drop (j * 1)).take 1).length = 1 := by rw [List.length_take, List.length_drop]; omega
    refine laidNumber_in b (off + 1 * j) (cap - 1 * j) 1 ((l.drop (j * 1)).take 1) hl2 (by omega) w1 ?_
    intro i x hx
    rw [List.getElem?_take] at hx
    split at hx
    · rw [List.getElem?_drop] at hx
      rw [hb.cell (p := ⟨b, off + 1 * j + i, none⟩) hlt, show off + 1 * j + i = off + (j * 1 + i) from by omega]
      exact hc _ x hx
    · cases hx
  have HN : Hid (n = 1 * m) := hn
  have hn63 : (n : Int) ≤ 16 := by omega
  clear hc hln
  go_enter Try.func68, Try.ntmps68
  go_wp2_with fail
  refine g1.mono ?_
  rintro e w1 ⟨rfl, rfl⟩
  clear g1
  go_wp2_with fail
  refine g2.mono ?_
  rintro e w1 ⟨rfl, rfl⟩
  clear g2
  go_wp2_with fail
  have HO3 : Hid (w1.ownsRow w1.heap.size 107 1 (.slice none 0 0) 0 []) := World.ownsRow_nil _ _ _ _
  have HB3 : Hid (Below w1.heap.size w1 w1) := Below.refl _ _
  go_loopw [6, 7] (fun v i wr => ∃ j : Nat, j ≤ m ∧ i = .int .i64 ((1 * j : Nat) : Int) ∧ Hid (wr.ownsRow w1.heap.size 107 1 v j (cellsU (stateL 1 j l))) ∧ Hid (Below w1.heap.size w1 wr)) (fun _ i _ => n - (intOf i).toNat)
  case atStart => exact ⟨0, by omega, rfl, HO3, HB3⟩
  case round =>
    obtain ⟨j, hj, rfl, HO, HB⟩ := hrel
    clear HO3 HB3
    by_cases hlt2 : j < m
    · have g3 := HL.out j wr hlt2 HB.out
      obtain ⟨va, vcp, hv⟩ := own_shape HO.out
      subst hv
      obtain ⟨q, hq⟩ : ∃ q : Nat, 1 * j = q := ⟨_, rfl⟩
      rw [hq] at g3 ⊢
      have HQ : Hid (1 * j = q) := hq
      have hq1 : q + 1 ≤ n := by omega
      have hq2 : q + 1 ≤ cap := by omega
      have HS : Hid (stateL 1 (j + 1) l = stateL 1 j l ++ [wordAt 1 l j]) := stateL_snoc 1 j l
      obtain ⟨z, hz⟩ : ∃ z, wordAt 1 l j = z := ⟨_, rfl⟩
      rw [hz] at g3 HS
      have own6 := World.ownsRow.alloc HO.out (.cells #[.int .u64 z] 107)
      have hb6 : Below w1.heap.size w1 (wr.alloc (.cells #[.int .u64 z] 107)) := HB.out.alloc HB.out.size _
      have hs6 := hb6.size
      clear hz hq HO HB
      go_wp2_with fail
      refine g3.mono ?_
      rintro e w4 ⟨rfl, hw4⟩
      have hw5 := hw4.symm
      subst hw5
      clear g3 hw4
      go_wp2_with (at_builtin; refine wpList_append_own _ rfl _ _ 79 rfl w1.heap.size 107 i0 (.int .u64 0) 1 8 Try.underlying79 hi hz0 hz1 hz2 rfl (by decide) _ _ _ rfl own6 ⟨wr.heap.size, 0, none⟩ 1 1 [.int .u64 z] rfl rfl (oneU_cells wr z) (word_one z) (by unfold maxLen; omega) (by omega) hs6 ?_)
      intro v7 w7 own7 grow7 _
      have HB7 : Hid (Below w1.heap.size w1 w7) := below_app hb6 (by omega) (Nat.le_refl _) own6 grow7
      have HO7 : Hid (w7.ownsRow w1.heap.size 107 1 v7 (j + 1) (cellsU (stateL 1 (j + 1) l))) := by
        show w7.ownsRow w1.heap.size 107 1 v7 (j + 1) (cellsU (stateL 1 (j + 1) l))
        rw [HS.out, cellsU_append]
        exact own7
      clear own6 own7 grow7 hb6 HS
      go_wp2_with fail
      go_roundw
      case rel => exact ⟨j + 1, by omega, (by rw [show 1 * (j + 1) = q + 1 from by have := HQ.out; omega]; go_num), HO7, HB7⟩
      case measure => simp [intOf]; omega
    · obtain rfl : j = m := by omega
      have HO9 : Hid (wr.ownsRow w1.heap.size 107 1 u6 (stateL 1 j l).length (cellsU (stateL 1 j l))) := by
        show wr.ownsRow w1.heap.size 107 1 u6 (stateL 1 j l).length (cellsU (stateL 1 j l))
        rw [stateL_len]
        exact HO.out
      rw [← HN.out]
      clear HO HL
      go_wp2_with fail
      go_ret2
      exact ⟨_, rfl, HO9.out, HB.out⟩
set_option maxRecDepth 100000 in
set_option maxHeartbeats 4000000 in
theorem iState_2 (b off cap n m : Nat) (l : List Bool) (hln : l.length = n) (hn : n = 2 * m) (hm1 : 1 ≤ m) (hm4 : m ≤ 4) (hcap : n ≤ cap) (hcap1 : cap ≤ 9223372036854775807) (w : World) (hlt : b < w.heap.size)
    (hc : ∀ (i : Nat) (x : Bool), l[i]? = some x → w.cell? ⟨b, off + i, none⟩ = some (.bool x)) :
    Calls Try.prog 68 #[.int .i64 2, .slice (some ⟨b, off, none⟩) n cap] w fun e w' => ∃ r, e = .returned (.tuple #[r, .bool true]) ∧ w'.ownsRow w.heap.size 107 1 r (stateL 2 m l).length (cellsU (stateL 2 m l)) ∧ Below w.heap.size w w' := by
  obtain ⟨i0, hi, hz0, hz1, hz2⟩ := info_parts infoU64
  have g1 := goodLaid_any 2 w
  rw [decide_eq_true (by omega)] at g1
  have g2 := goodVars_yes m (by omega) w
  have hmod : (n : Int) % 2 = 0 := by omega
  have hdiv : (n : Int) / 2 = m := by omega
  have HL : Hid (∀ (j : Nat) (w1 : World), j < m → Below w.heap.size w w1 → Calls Try.prog 147 #[.slice (some ⟨b, off + 2 * j, none⟩) 2 (cap - 2 * j)] w1 fun e w' => e = .returned (.int .u64 (wordAt 2 l j)) ∧ w' = w1) := by
    intro j w1 hj hb
    have hl2 : ((l.drop (j * 2)).take 2).length = 2 := by rw [List.length_take, List.length_drop]; omega
    refine laidNumber_in b (off + 2 * j) (cap - 2 * j) 2 ((l.drop (j * 2)).take 2) hl2 (by omega) w1 ?_
    intro i x hx
    rw [List.getElem?_take] at hx
    split at hx
    · rw [List.getElem?_drop] at hx
      rw [hb.cell (p := ⟨b, off + 2 * j + i, none⟩) hlt, show off + 2 * j + i = off + (j * 2 + i) from by omega]
      exact hc _ x hx
    · cases hx
  have HN : Hid (n = 2 * m) := hn
  have hn63 : (n : Int) ≤ 16 := by omega
  clear hc hln
  go_enter Try.func68, Try.ntmps68
  go_wp2_with fail
  refine g1.mono ?_
  rintro e w1 ⟨rfl, rfl⟩
  clear g1
  go_wp2_with fail
  refine g2.mono ?_
  rintro e w1 ⟨rfl, rfl⟩
  clear g2
  go_wp2_with fail
  have HO3 : Hid (w1.ownsRow w1.heap.size 107 1 (.slice none 0 0) 0 []) := World.ownsRow_nil _ _ _ _
  have HB3 : Hid (Below w1.heap.size w1 w1) := Below.refl _ _
  go_loopw [6, 7] (fun v i wr => ∃ j : Nat, j ≤ m ∧ i = .int .i64 ((2 * j : Nat) : Int) ∧ Hid (wr.ownsRow w1.heap.size 107 1 v j (cellsU (stateL 2 j l))) ∧ Hid (Below w1.heap.size w1 wr)) (fun _ i _ => n - (intOf i).toNat)
  case atStart => exact ⟨0, by omega, rfl, HO3, HB3⟩
  case round =>
    obtain ⟨j, hj, rfl, HO, HB⟩ := hrel
    clear HO3 HB3
    by_cases hlt2 : j < m
    · have g3 := HL.out j wr hlt2 HB.out
      obtain ⟨va, vcp, hv⟩ := own_shape HO.out
      subst hv
      obtain ⟨q, hq⟩ : ∃ q : Nat, 2 * j = q := ⟨_, rfl⟩
      rw [hq] at g3 ⊢
      have HQ : Hid (2 * j = q) := hq
      have hq1 : q + 2 ≤ n := by omega
      have hq2 : q + 2 ≤ cap := by omega
      have HS : Hid (stateL 2 (j + 1) l = stateL 2 j l ++ [wordAt 2 l j]) := stateL_snoc 2 j l
      obtain ⟨z, hz⟩ : ∃ z, wordAt 2 l j = z := ⟨_, rfl⟩
      rw [hz] at g3 HS
      have own6 := World.ownsRow.alloc HO.out (.cells #[.int .u64 z] 107)
      have hb6 : Below w1.heap.size w1 (wr.alloc (.cells #[.int .u64 z] 107)) := HB.out.alloc HB.out.size _
      have hs6 := hb6.size
      clear hz hq HO HB
      go_wp2_with fail
      refine g3.mono ?_
      rintro e w4 ⟨rfl, hw4⟩
      have hw5 := hw4.symm
      subst hw5
      clear g3 hw4
      go_wp2_with (at_builtin; refine wpList_append_own _ rfl _ _ 79 rfl w1.heap.size 107 i0 (.int .u64 0) 1 8 Try.underlying79 hi hz0 hz1 hz2 rfl (by decide) _ _ _ rfl own6 ⟨wr.heap.size, 0, none⟩ 1 1 [.int .u64 z] rfl rfl (oneU_cells wr z) (word_one z) (by unfold maxLen; omega) (by omega) hs6 ?_)
      intro v7 w7 own7 grow7 _
      have HB7 : Hid (Below w1.heap.size w1 w7) := below_app hb6 (by omega) (Nat.le_refl _) own6 grow7
      have HO7 : Hid (w7.ownsRow w1.heap.size 107 1 v7 (j + 1) (cellsU (stateL 2 (j + 1) l))) := by
        show w7.ownsRow w1.heap.size 107 1 v7 (j + 1) (cellsU (stateL 2 (j + 1) l))
        rw [HS.out, cellsU_append]
        exact own7
      clear own6 own7 grow7 hb6 HS
      go_wp2_with fail
      go_roundw
      case rel => exact ⟨j + 1, by omega, (by rw [show 2 * (j + 1) = q + 2 from by have := HQ.out; omega]; go_num), HO7, HB7⟩
      case measure => simp [intOf]; omega
    · obtain rfl : j = m := by omega
      have HO9 : Hid (wr.ownsRow w1.heap.size 107 1 u6 (stateL 2 j l).length (cellsU (stateL 2 j l))) := by
        show wr.ownsRow w1.heap.size 107 1 u6 (stateL 2 j l).length (cellsU (stateL 2 j l))
        rw [stateL_len]
        exact HO.out
      rw [← HN.out]
      clear HO HL
      go_wp2_with fail
      go_ret2
      exact ⟨_, rfl, HO9.out, HB.out⟩
set_option maxRecDepth 100000 in
set_option maxHeartbeats 4000000 in
theorem iState_3 (b off cap n m : Nat) (l : List Bool) (hln : l.length = n) (hn : n = 3 * m) (hm1 : 1 ≤ m) (hm4 : m ≤ 4) (hcap : n ≤ cap) (hcap1 : cap ≤ 9223372036854775807) (w : World) (hlt : b < w.heap.size)
    (hc : ∀ (i : Nat) (x : Bool), l[i]? = some x → w.cell? ⟨b, off + i, none⟩ = some (.bool x)) :
    Calls Try.prog 68 #[.int .i64 3, .slice (some ⟨b, off, none⟩) n cap] w fun e w' => ∃ r, e = .returned (.tuple #[r, .bool true]) ∧ w'.ownsRow w.heap.size 107 1 r (stateL 3 m l).length (cellsU (stateL 3 m l)) ∧ Below w.heap.size w w' := by
  obtain ⟨i0, hi, hz0, hz1, hz2⟩ := info_parts infoU64
  have g1 := goodLaid_any 3 w
  rw [decide_eq_true (by omega)] at g1
  have g2 := goodVars_yes m (by omega) w
  have hmod : (n : Int) % 3 = 0 := by omega
  have hdiv : (n : Int) / 3 = m := by omega
  have HL : Hid (∀ (j : Nat) (w1 : World), j < m → Below w.heap.size w w1 → Calls Try.prog 147 #[.slice (some ⟨b, off + 3 * j, none⟩) 3 (cap - 3 * j)] w1 fun e w' => e = .returned (.int .u64 (wordAt 3 l j)) ∧ w' = w1) := by
    intro j w1 hj hb
    have hl2 : ((l.drop (j * 3)).take 3).length = 3 := by rw [List.length_take, List.length_drop]; omega
    refine laidNumber_in b (off + 3 * j) (cap - 3 * j) 3 ((l.drop (j * 3)).take 3) hl2 (by omega) w1 ?_
    intro i x hx
    rw [List.getElem?_take] at hx
    split at hx
    · rw [List.getElem?_drop] at hx
      rw [hb.cell (p := ⟨b, off + 3 * j + i, none⟩) hlt, show off + 3 * j + i = off + (j * 3 + i) from by omega]
      exact hc _ x hx
    · cases hx
  have HN : Hid (n = 3 * m) := hn
  have hn63 : (n : Int) ≤ 16 := by omega
  clear hc hln
  go_enter Try.func68, Try.ntmps68
  go_wp2_with fail
  refine g1.mono ?_
  rintro e w1 ⟨rfl, rfl⟩
  clear g1
  go_wp2_with fail
  refine g2.mono ?_
  rintro e w1 ⟨rfl, rfl⟩
  clear g2
  go_wp2_with fail
  have HO3 : Hid (w1.ownsRow w1.heap.size 107 1 (.slice none 0 0) 0 []) := World.ownsRow_nil _ _ _ _
  have HB3 : Hid (Below w1.heap.size w1 w1) := Below.refl _ _
  go_loopw [6, 7] (fun v i wr => ∃ j : Nat, j ≤ m ∧ i = .int .i64 ((3 * j : Nat) : Int) ∧ Hid (wr.ownsRow w1.heap.size 107 1 v j (cellsU (stateL 3 j l))) ∧ Hid (Below w1.heap.size w1 wr)) (fun _ i _ => n - (intOf i).toNat)
  case atStart => exact ⟨0, by omega, rfl, HO3, HB3⟩
  case round =>
    obtain ⟨j, hj, rfl, HO, HB⟩ := hrel
    clear HO3 HB3
    by_cases hlt2 : j < m
    · have g3 := HL.out j wr hlt2 HB.out
      obtain ⟨va, vcp, hv⟩ := own_shape HO.out
      subst hv
      obtain ⟨q, hq⟩ : ∃ q : Nat, 3 * j = q := ⟨_, rfl⟩
      rw [hq] at g3 ⊢
      have HQ : Hid (3 * j = q) := hq
      have hq1 : q + 3 ≤ n := by omega
      have hq2 : q + 3 ≤ cap := by omega
      have HS : Hid (stateL 3 (j + 1) l = stateL 3 j l ++ [wordAt 3 l j]) := stateL_snoc 3 j l
      obtain ⟨z, hz⟩ : ∃ z, wordAt 3 l j = z := ⟨_, rfl⟩
      rw [hz] at g3 HS
      have own6 := World.ownsRow.alloc HO.out (.cells #[.int .u64 z] 107)
      have hb6 : Below w1.heap.size w1 (wr.alloc (.cells #[.int .u64 z] 107)) := HB.out.alloc HB.out.size _
      have hs6 := hb6.size
      clear hz hq HO HB
      go_wp2_with fail
      refine g3.mono ?_
      rintro e w4 ⟨rfl, hw4⟩
      have hw5 := hw4.symm
      subst hw5
      clear g3 hw4
      go_wp2_with (at_builtin; refine wpList_append_own _ rfl _ _ 79 rfl w1.heap.size 107 i0 (.int .u64 0) 1 8 Try.underlying79 hi hz0 hz1 hz2 rfl (by decide) _ _ _ rfl own6 ⟨wr.heap.size, 0, none⟩ 1 1 [.int .u64 z] rfl rfl (oneU_cells wr z) (word_one z) (by unfold maxLen; omega) (by omega) hs6 ?_)
      intro v7 w7 own7 grow7 _
      have HB7 : Hid (Below w1.heap.size w1 w7) := below_app hb6 (by omega) (Nat.le_refl _) own6 grow7
      have HO7 : Hid (w7.ownsRow w1.heap.size 107 1 v7 (j + 1) (cellsU (stateL 3 (j + 1) l))) := by
        show w7.ownsRow w1.heap.size 107 1 v7 (j + 1) (cellsU (stateL 3 (j + 1) l))
        rw [HS.out, cellsU_append]
        exact own7
      clear own6 own7 grow7 hb6 HS
      go_wp2_with fail
      go_roundw
      case rel => exact ⟨j + 1, by omega, (by rw [show 3 * (j + 1) = q + 3 from by have := HQ.out; omega]; go_num), HO7, HB7⟩
      case measure => simp [intOf]; omega
    · obtain rfl : j = m := by omega
      have HO9 : Hid (wr.ownsRow w1.heap.size 107 1 u6 (stateL 3 j l).length (cellsU (stateL 3 j l))) := by
        show wr.ownsRow w1.heap.size 107 1 u6 (stateL 3 j l).length (cellsU (stateL 3 j l))
        rw [stateL_len]
        exact HO.out
      rw [← HN.out]
      clear HO HL
      go_wp2_with fail
      go_ret2
      exact ⟨_, rfl, HO9.out, HB.out⟩
set_option maxRecDepth 100000 in
set_option maxHeartbeats 4000000 in
theorem iState_4 (b off cap n m : Nat) (l : List Bool) (hln : l.length = n) (hn : n = 4 * m) (hm1 : 1 ≤ m) (hm4 : m ≤ 4) (hcap : n ≤ cap) (hcap1 : cap ≤ 9223372036854775807) (w : World) (hlt : b < w.heap.size)
    (hc : ∀ (i : Nat) (x : Bool), l[i]? = some x → w.cell? ⟨b, off + i, none⟩ = some (.bool x)) :
    Calls Try.prog 68 #[.int .i64 4, .slice (some ⟨b, off, none⟩) n cap] w fun e w' => ∃ r, e = .returned (.tuple #[r, .bool true]) ∧ w'.ownsRow w.heap.size 107 1 r (stateL 4 m l).length (cellsU (stateL 4 m l)) ∧ Below w.heap.size w w' := by
  obtain ⟨i0, hi, hz0, hz1, hz2⟩ := info_parts infoU64
  have g1 := goodLaid_any 4 w
  rw [decide_eq_true (by omega)] at g1
  have g2 := goodVars_yes m (by omega) w
  have hmod : (n : Int) % 4 = 0 := by omega
  have hdiv : (n : Int) / 4 = m := by omega
  have HL : Hid (∀ (j : Nat) (w1 : World), j < m → Below w.heap.size w w1 → Calls Try.prog 147 #[.slice (some ⟨b, off + 4 * j, none⟩) 4 (cap - 4 * j)] w1 fun e w' => e = .returned (.int .u64 (wordAt 4 l j)) ∧ w' = w1) := by
    intro j w1 hj hb
    have hl2 : ((l.drop (j * 4)).take 4).length = 4 := by rw [List.length_take, List.length_drop]; omega
    refine laidNumber_in b (off + 4 * j) (cap - 4 * j) 4 ((l.drop (j * 4)).take 4) hl2 (by omega) w1 ?_
    intro i x hx
    rw [List.getElem?_take] at hx
    split at hx
    · rw [List.getElem?_drop] at hx
      rw [hb.cell (p := ⟨b, off + 4 * j + i, none⟩) hlt, show off + 4 * j + i = off + (j * 4 + i) from by omega]
      exact hc _ x hx
    · cases hx
  have HN : Hid (n = 4 * m) := hn
  have hn63 : (n : Int) ≤ 16 := by omega
  clear hc hln
  go_enter Try.func68, Try.ntmps68
  go_wp2_with fail
  refine g1.mono ?_
  rintro e w1 ⟨rfl, rfl⟩
  clear g1
  go_wp2_with fail
  refine g2.mono ?_
  rintro e w1 ⟨rfl, rfl⟩
  clear g2
  go_wp2_with fail
  have HO3 : Hid (w1.ownsRow w1.heap.size 107 1 (.slice none 0 0) 0 []) := World.ownsRow_nil _ _ _ _
  have HB3 : Hid (Below w1.heap.size w1 w1) := Below.refl _ _
  go_loopw [6, 7] (fun v i wr => ∃ j : Nat, j ≤ m ∧ i = .int .i64 ((4 * j : Nat) : Int) ∧ Hid (wr.ownsRow w1.heap.size 107 1 v j (cellsU (stateL 4 j l))) ∧ Hid (Below w1.heap.size w1 wr)) (fun _ i _ => n - (intOf i).toNat)
  case atStart => exact ⟨0, by omega, rfl, HO3, HB3⟩
  case round =>
    obtain ⟨j, hj, rfl, HO, HB⟩ := hrel
    clear HO3 HB3
    by_cases hlt2 : j < m
    · have g3 := HL.out j wr hlt2 HB.out
      obtain ⟨va, vcp, hv⟩ := own_shape HO.out
      subst hv
      obtain ⟨q, hq⟩ : ∃ q : Nat, 4 * j = q := ⟨_, rfl⟩
      rw [hq] at g3 ⊢
      have HQ : Hid (4 * j = q) := hq
      have hq1 : q + 4 ≤ n := by omega
      have hq2 : q + 4 ≤ cap := by omega
      have HS : Hid (stateL 4 (j + 1) l = stateL 4 j l ++ [wordAt 4 l j]) := stateL_snoc 4 j l
      obtain ⟨z, hz⟩ : ∃ z, wordAt 4 l j = z := ⟨_, rfl⟩
      rw [hz] at g3 HS
      have own6 := World.ownsRow.alloc HO.out (.cells #[.int .u64 z] 107)
      have hb6 : Below w1.heap.size w1 (wr.alloc (.cells #[.int .u64 z] 107)) := HB.out.alloc HB.out.size _
      have hs6 := hb6.size
      clear hz hq HO HB
      go_wp2_with fail
      refine g3.mono ?_
      rintro e w4 ⟨rfl, hw4⟩
      have hw5 := hw4.symm
      subst hw5
      clear g3 hw4
      go_wp2_with (at_builtin; refine wpList_append_own _ rfl _ _ 79 rfl w1.heap.size 107 i0 (.int .u64 0) 1 8 Try.underlying79 hi hz0 hz1 hz2 rfl (by decide) _ _ _ rfl own6 ⟨wr.heap.size, 0, none⟩ 1 1 [.int .u64 z] rfl rfl (oneU_cells wr z) (word_one z) (by unfold maxLen; omega) (by omega) hs6 ?_)
      intro v7 w7 own7 grow7 _
      have HB7 : Hid (Below w1.heap.size w1 w7) := below_app hb6 (by omega) (Nat.le_refl _) own6 grow7
      have HO7 : Hid (w7.ownsRow w1.heap.size 107 1 v7 (j + 1) (cellsU (stateL 4 (j + 1) l))) := by
        show w7.ownsRow w1.heap.size 107 1 v7 (j + 1) (cellsU (stateL 4 (j + 1) l))
        rw [HS.out, cellsU_append]
        exact own7
      clear own6 own7 grow7 hb6 HS
      go_wp2_with fail
      go_roundw
      case rel => exact ⟨j + 1, by omega, (by rw [show 4 * (j + 1) = q + 4 from by have := HQ.out; omega]; go_num), HO7, HB7⟩
      case measure => simp [intOf]; omega
    · obtain rfl : j = m := by omega
      have HO9 : Hid (wr.ownsRow w1.heap.size 107 1 u6 (stateL 4 j l).length (cellsU (stateL 4 j l))) := by
        show wr.ownsRow w1.heap.size 107 1 u6 (stateL 4 j l).length (cellsU (stateL 4 j l))
        rw [stateL_len]
        exact HO.out
      rw [← HN.out]
      clear HO HL
      go_wp2_with fail
      go_ret2
      exact ⟨_, rfl, HO9.out, HB.out⟩
end Go.Proofs.Ytpjllhlbdcanlaa
