/-
  The model's StateFrom.
-/
import Derived.Test.YtpjllhlbdcanlaaStateM
import Derived.Test.YtpjllhlbdcanlaaIState
import Derived.Test.YtpjllhlbdcanlaaDo
import Derived.Deep.RegionHeld3
namespace Go.Proofs.Ytpjllhlbdcanlaa
open Go Go.RowKit
open M
set_option linter.unusedVariables false
set_option linter.unusedSimpArgs false

/-- words that are being put together: the bits ahead of k are in their places -/
def midL (W m : Nat) (l : List Bool) (k : Nat) : List Int := stateL W m (l.take k)
theorem midL_zero (W m : Nat) (l : List Bool) : midL W m l 0 = List.replicate m 0 := by
  unfold midL stateL
  rw [List.take_zero]
  apply List.ext_getElem
  · simp
  · intro i h1 h2
    simp [wordAt, numB]
theorem midL_step (W m : Nat) (l : List Bool) (k q r : Nat) (x : Bool) (hx : l[k]? = some x) (hk : k = q * W + r) (hr : r < W) (hq : q < m) :
    (midL W m l k)[q]? = some (numB ((l.drop (q * W)).take r) : Int) ∧ numB ((l.drop (q * W)).take r) < 2 ^ r ∧ midL W m l (k + 1) = (midL W m l k).set q (putN (numB ((l.drop (q * W)).take r)) r x : Int) := by
  have hkl : k < l.length := (List.getElem?_eq_some_iff.1 hx).1
  have e0 : (((l.take k).drop (q * W)).take W) = (l.drop (q * W)).take r := by
    rw [List.drop_take, List.take_take]
    congr 1
    omega
  have e1 : (((l.take (k + 1)).drop (q * W)).take W) = (l.drop (q * W)).take r ++ [x] := by
    rw [List.drop_take, List.take_take, show min W (k + 1 - q * W) = r + 1 from by omega, List.take_add_one]
    congr 1
    rw [List.getElem?_drop, show q * W + r = k from by omega, hx]
    rfl
  have hrl : ((l.drop (q * W)).take r).length = r := by rw [List.length_take, List.length_drop]; omega
  refine ⟨?_, by have h := numB_lt ((l.drop (q * W)).take r); rw [hrl] at h; exact h, ?_⟩
  · unfold midL stateL
    rw [List.getElem?_map, List.getElem?_range hq]
    simp only [Option.map_some, wordAt, e0]
  · apply List.ext_getElem?
    intro i
    by_cases hi : i < m
    · rw [List.getElem?_set]
      by_cases e : q = i
      · subst e
        rw [if_pos rfl, if_pos (by unfold midL; rw [stateL_len]; exact hq)]
        unfold midL stateL
        rw [List.getElem?_map, List.getElem?_range hq]
        simp only [Option.map_some, wordAt, e1]
        rw [numB_snoc, hrl]
      · rw [if_neg e]
        unfold midL stateL
        rw [List.getElem?_map, List.getElem?_map, List.getElem?_range hi]
        simp only [Option.map_some, wordAt]
        have ei : (((l.take (k + 1)).drop (i * W)).take W) = (((l.take k).drop (i * W)).take W) := by
          rw [List.drop_take, List.drop_take, List.take_take, List.take_take]
          rcases Nat.lt_or_ge i q with h | h
          · have h3 : (i + 1) * W ≤ q * W := Nat.mul_le_mul_right W h
            rw [Nat.add_mul] at h3
            rw [show min W (k + 1 - i * W) = W from by omega, show min W (k - i * W) = W from by omega]
          · have h3 : (q + 1) * W ≤ i * W := Nat.mul_le_mul_right W (by omega)
            rw [Nat.add_mul] at h3
            rw [show min W (k + 1 - i * W) = 0 from by omega, show min W (k - i * W) = 0 from by omega]
        rw [ei]
    · rw [List.getElem?_eq_none (by unfold midL; rw [stateL_len]; omega), List.getElem?_eq_none (by rw [List.length_set]; unfold midL; rw [stateL_len]; omega)]
theorem midL_len (W m : Nat) (l : List Bool) (k : Nat) : (midL W m l k).length = m := stateL_len _ _ _
theorem midL_end (W m : Nat) (l : List Bool) (k : Nat) (h : l.length ≤ k) : midL W m l k = stateL W m l := by
  unfold midL
  rw [List.take_of_length_le h]
set_option maxRecDepth 100000 in
set_option maxHeartbeats 4000000 in
theorem sState_1 (b off cap n m : Nat) (l : List Bool) (hln : l.length = n) (hn : n = 1 * m) (hm1 : 1 ≤ m) (hm4 : m ≤ 4) (w : World) (hlt : b < w.heap.size)
    (hc : ∀ (i : Nat) (x : Bool), l[i]? = some x → w.cell? ⟨b, off + i, none⟩ = some (.bool x)) :
    Calls Try.prog 66 #[.int .i64 1, .slice (some ⟨b, off, none⟩) n cap] w fun e w' => ∃ r, e = .returned (.tuple #[r, .bool true]) ∧ w'.ownsRow w.heap.size 107 1 r (stateL 1 m l).length (cellsU (stateL 1 m l)) ∧ Below w.heap.size w w' := by
  obtain ⟨i0, hi, hz0, hz1, hz2⟩ := info_parts infoU64
  have g1 := l5Wide_any 1 w
  rw [decide_eq_true (by omega)] at g1
  have g2 := l1In_any m 1 4 w
  rw [decide_eq_true (by omega)] at g2
  have HL : Hid (l.length = n) := hln
  obtain rfl : n = m := by omega
  have HN : Hid (n = 1 * n) := hn
  have HC : Hid (∀ w' : World, Below w.heap.size w w' → ∀ (i : Nat) (x : Bool), l[i]? = some x → w'.cell? ⟨b, off + i, none⟩ = some (.bool x)) := fun w' hb i x hx => (hb.cell (p := ⟨b, off + i, none⟩) hlt).trans (hc i x hx)
  have hn63 : (n : Int) ≤ 16 := by omega
  clear hc hln hn
  go_enter Try.func66, Try.ntmps66
  go_wp2_with fail
  refine g1.mono ?_
  rintro e w1 ⟨rfl, rfl⟩
  clear g1
  go_wp2_with fail
  refine g2.mono ?_
  rintro e w1 ⟨rfl, rfl⟩
  clear g2
  go_wp2_with (at_make; refine wpList_make_full _ rfl _ _ 79 rfl w1.heap.size 107 i0 (.int .u64 0) 1 Try.underlying79 hi hz0 hz1 .i64 .i64 _ _ n rfl rfl (by omega) (by omega) (by rw [hz2]; omega) (by unfold maxLen; omega) (Nat.le_refl _) ?_)
  intro w3 own3 grow3
  have HB3 : Hid (Below w1.heap.size w1 w3) := (Below.refl _ _).grown grow3 (Nat.le_refl _) (fun k hk => by cases hk)
  have HO3 : Hid (w3.ownsRow w1.heap.size 107 1 (.slice (some ⟨w1.heap.size, 0, none⟩) n n) n (cellsU (midL 1 n l 0))) := by
    have h2 := own3
    rw [toList_madeCells_one] at h2
    show w3.ownsRow w1.heap.size 107 1 (.slice (some ⟨w1.heap.size, 0, none⟩) n n) n (cellsU (midL 1 n l 0))
    rw [midL_zero]
    unfold cellsU
    rw [List.map_replicate]
    exact h2
  clear own3 grow3
  go_wp2_with fail
  go_loopw [34] (fun i wr => ∃ k : Nat, k ≤ n ∧ i = .int .i64 k ∧ Hid (wr.ownsRow w1.heap.size 107 1 (.slice (some ⟨w1.heap.size, 0, none⟩) n n) n (cellsU (midL 1 n l k))) ∧ Hid (Below w1.heap.size w1 wr)) (fun i _ => n - (intOf i).toNat)
  case atStart => exact ⟨0, by omega, rfl, HO3, HB3⟩
  case round =>
    obtain ⟨k, hk, rfl, HO, HB⟩ := hrel
    clear HO3 HB3
    by_cases hlt2 : k < n
    · obtain ⟨x, hx⟩ : ∃ x, l[k]? = some x := ⟨l[k]'(by have := HL.out; omega), List.getElem?_eq_getElem _⟩
      have c0 := HC.out wr HB.out k x hx
      obtain ⟨q, hq⟩ : ∃ q, k / 1 = q := ⟨_, rfl⟩
      obtain ⟨r, hr⟩ : ∃ r, k % 1 = r := ⟨_, rfl⟩
      have hqm : q < n := by have := HN.out; omega
      have hr4 : r < 1 := by omega
      obtain ⟨s1, s2, s3⟩ := midL_step 1 n l k q r x hx (by omega) hr4 hqm
      obtain rfl : k = q := by omega
      obtain rfl : 0 = r := by omega
      have ho := or_put 0 (by omega) _ s2 x
      generalize numB ((l.drop (k * 1)).take 0) = A at *
      have d0 : wr.cell? ⟨w1.heap.size, k, none⟩ = some (.int .u64 (A : Int)) := by
        rw [HO.out.cellAt k (by omega)]
        simp only [cellsU, List.getElem?_map, s1, Option.map_some]
      have f0 := HO.out.frozenAt k
      obtain ⟨X, hX⟩ : ∃ X : Int, (if x = true then (1 : Int) else 0) = X := ⟨_, rfl⟩
      have G : Hid (∀ w2 : World, Calls Try.prog 128 #[.bool x] w2 fun e w' => e = .returned (.int .u64 X) ∧ w' = w2) := fun w2 => by rw [← hX]; exact l2Bool_any x w2
      rw [hX] at ho
      generalize hP : putN A 0 x = P at *
      have ho9 : bits BinOp.or IntKind.u64 (A : Int) (IntKind.u64.wrap (X * 2 ^ min 0 64)) = (P : Int) := ho
      have ho9 : bits BinOp.or IntKind.u64 (A : Int) (IntKind.u64.wrap (X * 2 ^ min 0 64)) = (P : Int) := ho
      have st := HO.out.stored k (.int .u64 P)
      have HN2 : Hid ((wr.setCell ⟨w1.heap.size, k, none⟩ (.int .u64 P)).ownsRow w1.heap.size 107 1 (.slice (some ⟨w1.heap.size, 0, none⟩) n n) n (cellsU (midL 1 n l (k + 1)))) := by
        have h1 := st.1
        rw [show cellsU (midL 1 n l (k + 1)) = (cellsU (midL 1 n l k)).set k (.int .u64 P) from by rw [s3]; simp [cellsU, List.map_set]]
        exact h1
      have HB2 : Hid (Below w1.heap.size w1 (wr.setCell ⟨w1.heap.size, k, none⟩ (.int .u64 P))) := HB.out.setCell (Nat.le_refl _) _
      have hbl : b < wr.heap.size := Nat.lt_of_lt_of_le hlt HB.out.size
      have hqA : (k : Int) < (n : Int) := by omega
      have hqw : IntKind.i64.wrap (k : Int) = (k : Int) := IntWalk.i64_in _ ⟨by omega, by omega⟩
      have hq0 : (0 : Int) ≤ (k : Int) := by omega
      clear st s1 s2 s3 hx HO hP hX
      go_wp2_with fail
      go_region_with ((go_at_call 128; refine (G.out _).mono ?_; rintro e w2 ⟨rfl, rfl⟩))
      all_goals
        go_wp2_with fail
        go_roundw
        case rel => exact ⟨k + 1, by omega, by go_num, (by have h := HN2.out; rw [← ho] at h; exact h), (by have h := HB2.out; rw [← ho] at h; first | exact h | exact h.drew | exact h.drew.drew | exact h.drew.drew.drew)⟩
        case measure => simp [intOf]; omega
    · obtain rfl : k = n := by omega
      have HO9 : Hid (wr.ownsRow w1.heap.size 107 1 (.slice (some ⟨w1.heap.size, 0, none⟩) k k) (stateL 1 k l).length (cellsU (stateL 1 k l))) := by
        show wr.ownsRow w1.heap.size 107 1 (.slice (some ⟨w1.heap.size, 0, none⟩) k k) (stateL 1 k l).length (cellsU (stateL 1 k l))
        rw [stateL_len, ← midL_end 1 k l k (by have := HL.out; omega)]
        exact HO.out
      clear HO
      go_wp2_with fail
      go_ret2
      exact ⟨_, rfl, HO9.out, HB.out⟩
set_option maxRecDepth 100000 in
set_option maxHeartbeats 4000000 in
theorem sState_2 (b off cap n m : Nat) (l : List Bool) (hln : l.length = n) (hn : n = 2 * m) (hm1 : 1 ≤ m) (hm4 : m ≤ 4) (w : World) (hlt : b < w.heap.size)
    (hc : ∀ (i : Nat) (x : Bool), l[i]? = some x → w.cell? ⟨b, off + i, none⟩ = some (.bool x)) :
    Calls Try.prog 66 #[.int .i64 2, .slice (some ⟨b, off, none⟩) n cap] w fun e w' => ∃ r, e = .returned (.tuple #[r, .bool true]) ∧ w'.ownsRow w.heap.size 107 1 r (stateL 2 m l).length (cellsU (stateL 2 m l)) ∧ Below w.heap.size w w' := by
  obtain ⟨i0, hi, hz0, hz1, hz2⟩ := info_parts infoU64
  have g1 := l5Wide_any 2 w
  rw [decide_eq_true (by omega)] at g1
  have g2 := l1In_any m 1 4 w
  rw [decide_eq_true (by omega)] at g2
  have hmod : (n : Int) % 2 = 0 := by omega
  have hdiv : (n : Int) / 2 = m := by omega
  have HL : Hid (l.length = n) := hln
  have HN : Hid (n = 2 * m) := hn
  have HC : Hid (∀ w' : World, Below w.heap.size w w' → ∀ (i : Nat) (x : Bool), l[i]? = some x → w'.cell? ⟨b, off + i, none⟩ = some (.bool x)) := fun w' hb i x hx => (hb.cell (p := ⟨b, off + i, none⟩) hlt).trans (hc i x hx)
  have hn63 : (n : Int) ≤ 16 := by omega
  clear hc hln hn
  go_enter Try.func66, Try.ntmps66
  go_wp2_with fail
  refine g1.mono ?_
  rintro e w1 ⟨rfl, rfl⟩
  clear g1
  go_wp2_with fail
  refine g2.mono ?_
  rintro e w1 ⟨rfl, rfl⟩
  clear g2
  go_wp2_with (at_make; refine wpList_make_full _ rfl _ _ 79 rfl w1.heap.size 107 i0 (.int .u64 0) 1 Try.underlying79 hi hz0 hz1 .i64 .i64 _ _ m rfl rfl (by omega) (by omega) (by rw [hz2]; omega) (by unfold maxLen; omega) (Nat.le_refl _) ?_)
  intro w3 own3 grow3
  have HB3 : Hid (Below w1.heap.size w1 w3) := (Below.refl _ _).grown grow3 (Nat.le_refl _) (fun k hk => by cases hk)
  have HO3 : Hid (w3.ownsRow w1.heap.size 107 1 (.slice (some ⟨w1.heap.size, 0, none⟩) m m) m (cellsU (midL 2 m l 0))) := by
    have h2 := own3
    rw [toList_madeCells_one] at h2
    show w3.ownsRow w1.heap.size 107 1 (.slice (some ⟨w1.heap.size, 0, none⟩) m m) m (cellsU (midL 2 m l 0))
    rw [midL_zero]
    unfold cellsU
    rw [List.map_replicate]
    exact h2
  clear own3 grow3 hmod hdiv
  go_wp2_with fail
  go_loopw [34] (fun i wr => ∃ k : Nat, k ≤ n ∧ i = .int .i64 k ∧ Hid (wr.ownsRow w1.heap.size 107 1 (.slice (some ⟨w1.heap.size, 0, none⟩) m m) m (cellsU (midL 2 m l k))) ∧ Hid (Below w1.heap.size w1 wr)) (fun i _ => n - (intOf i).toNat)
  case atStart => exact ⟨0, by omega, rfl, HO3, HB3⟩
  case round =>
    obtain ⟨k, hk, rfl, HO, HB⟩ := hrel
    clear HO3 HB3
    by_cases hlt2 : k < n
    · obtain ⟨x, hx⟩ : ∃ x, l[k]? = some x := ⟨l[k]'(by have := HL.out; omega), List.getElem?_eq_getElem _⟩
      have c0 := HC.out wr HB.out k x hx
      obtain ⟨q, hq⟩ : ∃ q, k / 2 = q := ⟨_, rfl⟩
      obtain ⟨r, hr⟩ : ∃ r, k % 2 = r := ⟨_, rfl⟩
      have hqm : q < m := by have := HN.out; omega
      have hr4 : r < 2 := by omega
      obtain ⟨s1, s2, s3⟩ := midL_step 2 m l k q r x hx (by omega) hr4 hqm
      have ho := or_put r (by omega) _ s2 x
      generalize numB ((l.drop (q * 2)).take r) = A at *
      have d0 : wr.cell? ⟨w1.heap.size, q, none⟩ = some (.int .u64 (A : Int)) := by
        rw [HO.out.cellAt q (by omega)]
        simp only [cellsU, List.getElem?_map, s1, Option.map_some]
      have f0 := HO.out.frozenAt q
      obtain ⟨X, hX⟩ : ∃ X : Int, (if x = true then (1 : Int) else 0) = X := ⟨_, rfl⟩
      have G : Hid (∀ w2 : World, Calls Try.prog 128 #[.bool x] w2 fun e w' => e = .returned (.int .u64 X) ∧ w' = w2) := fun w2 => by rw [← hX]; exact l2Bool_any x w2
      rw [hX] at ho
      generalize hP : putN A r x = P at *
      have st := HO.out.stored q (.int .u64 P)
      have HN2 : Hid ((wr.setCell ⟨w1.heap.size, q, none⟩ (.int .u64 P)).ownsRow w1.heap.size 107 1 (.slice (some ⟨w1.heap.size, 0, none⟩) m m) m (cellsU (midL 2 m l (k + 1)))) := by
        have h1 := st.1
        rw [show cellsU (midL 2 m l (k + 1)) = (cellsU (midL 2 m l k)).set q (.int .u64 P) from by rw [s3]; simp [cellsU, List.map_set]]
        exact h1
      have HB2 : Hid (Below w1.heap.size w1 (wr.setCell ⟨w1.heap.size, q, none⟩ (.int .u64 P))) := HB.out.setCell (Nat.le_refl _) _
      have hbl : b < wr.heap.size := Nat.lt_of_lt_of_le hlt HB.out.size
      have hqi : (k : Int) / 2 = (q : Int) := by omega
      have hri : (k : Int) % 2 = (r : Int) := by omega
      have hrw : IntKind.u64.wrap (r : Int) = (r : Int) := IntWalk.u64_in _ ⟨by omega, by omega⟩
      have hr64 : (r : Int) < 64 := by omega
      have hqA : (q : Int) < (m : Int) := by omega
      have hqw : IntKind.i64.wrap (q : Int) = (q : Int) := IntWalk.i64_in _ ⟨by omega, by omega⟩
      have hrt : (k : Int).tmod 2 = (r : Int) := by rw [Int.tmod_eq_emod_of_nonneg (by omega)]; exact hri
      have hq0 : (0 : Int) ≤ (q : Int) := by omega
      clear st s1 s2 s3 hx HO hq hr hP hX
      go_wp2_with fail
      go_region_with ((go_at_call 128; refine (G.out _).mono ?_; rintro e w2 ⟨rfl, rfl⟩))
      all_goals
        go_wp2_with fail
        go_roundw
        case rel => exact ⟨k + 1, by omega, by go_num, HN2, (by first | exact HB2 | exact HB2.out.drew | exact HB2.out.drew.drew | exact HB2.out.drew.drew.drew)⟩
        case measure => simp [intOf]; omega
    · obtain rfl : k = n := by omega
      have HO9 : Hid (wr.ownsRow w1.heap.size 107 1 (.slice (some ⟨w1.heap.size, 0, none⟩) m m) (stateL 2 m l).length (cellsU (stateL 2 m l))) := by
        show wr.ownsRow w1.heap.size 107 1 (.slice (some ⟨w1.heap.size, 0, none⟩) m m) (stateL 2 m l).length (cellsU (stateL 2 m l))
        rw [stateL_len, ← midL_end 2 m l k (by have := HL.out; omega)]
        exact HO.out
      clear HO
      go_wp2_with fail
      go_ret2
      exact ⟨_, rfl, HO9.out, HB.out⟩
set_option maxRecDepth 100000 in
set_option maxHeartbeats 4000000 in
theorem sState_3 (b off cap n m : Nat) (l : List Bool) (hln : l.length = n) (hn : n = 3 * m) (hm1 : 1 ≤ m) (hm4 : m ≤ 4) (w : World) (hlt : b < w.heap.size)
    (hc : ∀ (i : Nat) (x : Bool), l[i]? = some x → w.cell? ⟨b, off + i, none⟩ = some (.bool x)) :
    Calls Try.prog 66 #[.int .i64 3, .slice (some ⟨b, off, none⟩) n cap] w fun e w' => ∃ r, e = .returned (.tuple #[r, .bool true]) ∧ w'.ownsRow w.heap.size 107 1 r (stateL 3 m l).length (cellsU (stateL 3 m l)) ∧ Below w.heap.size w w' := by
  obtain ⟨i0, hi, hz0, hz1, hz2⟩ := info_parts infoU64
  have g1 := l5Wide_any 3 w
  rw [decide_eq_true (by omega)] at g1
  have g2 := l1In_any m 1 4 w
  rw [decide_eq_true (by omega)] at g2
  have hmod : (n : Int) % 3 = 0 := by omega
  have hdiv : (n : Int) / 3 = m := by omega
  have HL : Hid (l.length = n) := hln
  have HN : Hid (n = 3 * m) := hn
  have HC : Hid (∀ w' : World, Below w.heap.size w w' → ∀ (i : Nat) (x : Bool), l[i]? = some x → w'.cell? ⟨b, off + i, none⟩ = some (.bool x)) := fun w' hb i x hx => (hb.cell (p := ⟨b, off + i, none⟩) hlt).trans (hc i x hx)
  have hn63 : (n : Int) ≤ 16 := by omega
  clear hc hln hn
  go_enter Try.func66, Try.ntmps66
  go_wp2_with fail
  refine g1.mono ?_
  rintro e w1 ⟨rfl, rfl⟩
  clear g1
  go_wp2_with fail
  refine g2.mono ?_
  rintro e w1 ⟨rfl, rfl⟩
  clear g2
  go_wp2_with (at_make; refine wpList_make_full _ rfl _ _ 79 rfl w1.heap.size 107 i0 (.int .u64 0) 1 Try.underlying79 hi hz0 hz1 .i64 .i64 _ _ m rfl rfl (by omega) (by omega) (by rw [hz2]; omega) (by unfold maxLen; omega) (Nat.le_refl _) ?_)
  intro w3 own3 grow3
  have HB3 : Hid (Below w1.heap.size w1 w3) := (Below.refl _ _).grown grow3 (Nat.le_refl _) (fun k hk => by cases hk)
  have HO3 : Hid (w3.ownsRow w1.heap.size 107 1 (.slice (some ⟨w1.heap.size, 0, none⟩) m m) m (cellsU (midL 3 m l 0))) := by
    have h2 := own3
    rw [toList_madeCells_one] at h2
    show w3.ownsRow w1.heap.size 107 1 (.slice (some ⟨w1.heap.size, 0, none⟩) m m) m (cellsU (midL 3 m l 0))
    rw [midL_zero]
    unfold cellsU
    rw [List.map_replicate]
    exact h2
  clear own3 grow3 hmod hdiv
  go_wp2_with fail
  go_loopw [34] (fun i wr => ∃ k : Nat, k ≤ n ∧ i = .int .i64 k ∧ Hid (wr.ownsRow w1.heap.size 107 1 (.slice (some ⟨w1.heap.size, 0, none⟩) m m) m (cellsU (midL 3 m l k))) ∧ Hid (Below w1.heap.size w1 wr)) (fun i _ => n - (intOf i).toNat)
  case atStart => exact ⟨0, by omega, rfl, HO3, HB3⟩
  case round =>
    obtain ⟨k, hk, rfl, HO, HB⟩ := hrel
    clear HO3 HB3
    by_cases hlt2 : k < n
    · obtain ⟨x, hx⟩ : ∃ x, l[k]? = some x := ⟨l[k]'(by have := HL.out; omega), List.getElem?_eq_getElem _⟩
      have c0 := HC.out wr HB.out k x hx
      obtain ⟨q, hq⟩ : ∃ q, k / 3 = q := ⟨_, rfl⟩
      obtain ⟨r, hr⟩ : ∃ r, k % 3 = r := ⟨_, rfl⟩
      have hqm : q < m := by have := HN.out; omega
      have hr4 : r < 3 := by omega
      obtain ⟨s1, s2, s3⟩ := midL_step 3 m l k q r x hx (by omega) hr4 hqm
      have ho := or_put r (by omega) _ s2 x
      generalize numB ((l.drop (q * 3)).take r) = A at *
      have d0 : wr.cell? ⟨w1.heap.size, q, none⟩ = some (.int .u64 (A : Int)) := by
        rw [HO.out.cellAt q (by omega)]
        simp only [cellsU, List.getElem?_map, s1, Option.map_some]
      have f0 := HO.out.frozenAt q
      obtain ⟨X, hX⟩ : ∃ X : Int, (if x = true then (1 : Int) else 0) = X := ⟨_, rfl⟩
      have G : Hid (∀ w2 : World, Calls Try.prog 128 #[.bool x] w2 fun e w' => e = .returned (.int .u64 X) ∧ w' = w2) := fun w2 => by rw [← hX]; exact l2Bool_any x w2
      rw [hX] at ho
      generalize hP : putN A r x = P at *
      have st := HO.out.stored q (.int .u64 P)
      have HN2 : Hid ((wr.setCell ⟨w1.heap.size, q, none⟩ (.int .u64 P)).ownsRow w1.heap.size 107 1 (.slice (some ⟨w1.heap.size, 0, none⟩) m m) m (cellsU (midL 3 m l (k + 1)))) := by
        have h1 := st.1
        rw [show cellsU (midL 3 m l (k + 1)) = (cellsU (midL 3 m l k)).set q (.int .u64 P) from by rw [s3]; simp [cellsU, List.map_set]]
        exact h1
      have HB2 : Hid (Below w1.heap.size w1 (wr.setCell ⟨w1.heap.size, q, none⟩ (.int .u64 P))) := HB.out.setCell (Nat.le_refl _) _
      have hbl : b < wr.heap.size := Nat.lt_of_lt_of_le hlt HB.out.size
      have hqi : (k : Int) / 3 = (q : Int) := by omega
      have hri : (k : Int) % 3 = (r : Int) := by omega
      have hrw : IntKind.u64.wrap (r : Int) = (r : Int) := IntWalk.u64_in _ ⟨by omega, by omega⟩
      have hr64 : (r : Int) < 64 := by omega
      have hqA : (q : Int) < (m : Int) := by omega
      have hqw : IntKind.i64.wrap (q : Int) = (q : Int) := IntWalk.i64_in _ ⟨by omega, by omega⟩
      have hrt : (k : Int).tmod 3 = (r : Int) := by rw [Int.tmod_eq_emod_of_nonneg (by omega)]; exact hri
      have hq0 : (0 : Int) ≤ (q : Int) := by omega
      clear st s1 s2 s3 hx HO hq hr hP hX
      go_wp2_with fail
      go_region_with ((go_at_call 128; refine (G.out _).mono ?_; rintro e w2 ⟨rfl, rfl⟩))
      all_goals
        go_wp2_with fail
        go_roundw
        case rel => exact ⟨k + 1, by omega, by go_num, HN2, (by first | exact HB2 | exact HB2.out.drew | exact HB2.out.drew.drew | exact HB2.out.drew.drew.drew)⟩
        case measure => simp [intOf]; omega
    · obtain rfl : k = n := by omega
      have HO9 : Hid (wr.ownsRow w1.heap.size 107 1 (.slice (some ⟨w1.heap.size, 0, none⟩) m m) (stateL 3 m l).length (cellsU (stateL 3 m l))) := by
        show wr.ownsRow w1.heap.size 107 1 (.slice (some ⟨w1.heap.size, 0, none⟩) m m) (stateL 3 m l).length (cellsU (stateL 3 m l))
        rw [stateL_len, ← midL_end 3 m l k (by have := HL.out; omega)]
        exact HO.out
      clear HO
      go_wp2_with fail
      go_ret2
      exact ⟨_, rfl, HO9.out, HB.out⟩
set_option maxRecDepth 100000 in
set_option maxHeartbeats 4000000 in
theorem sState_4 (b off cap n m : Nat) (l : List Bool) (hln : l.length = n) (hn : n = 4 * m) (hm1 : 1 ≤ m) (hm4 : m ≤ 4) (w : World) (hlt : b < w.heap.size)
    (hc : ∀ (i : Nat) (x : Bool), l[i]? = some x → w.cell? ⟨b, off + i, none⟩ = some (.bool x)) :
    Calls Try.prog 66 #[.int .i64 4, .slice (some ⟨b, off, none⟩) n cap] w fun e w' => ∃ r, e = .returned (.tuple #[r, .bool true]) ∧ w'.ownsRow w.heap.size 107 1 r (stateL 4 m l).length (cellsU (stateL 4 m l)) ∧ Below w.heap.size w w' := by
  obtain ⟨i0, hi, hz0, hz1, hz2⟩ := info_parts infoU64
  have g1 := l5Wide_any 4 w
  rw [decide_eq_true (by omega)] at g1
  have g2 := l1In_any m 1 4 w
  rw [decide_eq_true (by omega)] at g2
  have hmod : (n : Int) % 4 = 0 := by omega
  have hdiv : (n : Int) / 4 = m := by omega
  have HL : Hid (l.length = n) := hln
  have HN : Hid (n = 4 * m) := hn
  have HC : Hid (∀ w' : World, Below w.heap.size w w' → ∀ (i : Nat) (x : Bool), l[i]? = some x → w'.cell? ⟨b, off + i, none⟩ = some (.bool x)) := fun w' hb i x hx => (hb.cell (p := ⟨b, off + i, none⟩) hlt).trans (hc i x hx)
  have hn63 : (n : Int) ≤ 16 := by omega
  clear hc hln hn
  go_enter Try.func66, Try.ntmps66
  go_wp2_with fail
  refine g1.mono ?_
  rintro e w1 ⟨rfl, rfl⟩
  clear g1
  go_wp2_with fail
  refine g2.mono ?_
  rintro e w1 ⟨rfl, rfl⟩
  clear g2
  go_wp2_with (at_make; refine wpList_make_full _ rfl _ _ 79 rfl w1.heap.size 107 i0 (.int .u64 0) 1 Try.underlying79 hi hz0 hz1 .i64 .i64 _ _ m rfl rfl (by omega) (by omega) (by rw [hz2]; omega) (by unfold maxLen; omega) (Nat.le_refl _) ?_)
  intro w3 own3 grow3
  have HB3 : Hid (Below w1.heap.size w1 w3) := (Below.refl _ _).grown grow3 (Nat.le_refl _) (fun k hk => by cases hk)
  have HO3 : Hid (w3.ownsRow w1.heap.size 107 1 (.slice (some ⟨w1.heap.size, 0, none⟩) m m) m (cellsU (midL 4 m l 0))) := by
    have h2 := own3
    rw [toList_madeCells_one] at h2
    show w3.ownsRow w1.heap.size 107 1 (.slice (some ⟨w1.heap.size, 0, none⟩) m m) m (cellsU (midL 4 m l 0))
    rw [midL_zero]
    unfold cellsU
    rw [List.map_replicate]
    exact h2
  clear own3 grow3 hmod hdiv
  go_wp2_with fail
  go_loopw [34] (fun i wr => ∃ k : Nat, k ≤ n ∧ i = .int .i64 k ∧ Hid (wr.ownsRow w1.heap.size 107 1 (.slice (some ⟨w1.heap.size, 0, none⟩) m m) m (cellsU (midL 4 m l k))) ∧ Hid (Below w1.heap.size w1 wr)) (fun i _ => n - (intOf i).toNat)
  case atStart => exact ⟨0, by omega, rfl, HO3, HB3⟩
  case round =>
    obtain ⟨k, hk, rfl, HO, HB⟩ := hrel
    clear HO3 HB3
    by_cases hlt2 : k < n
    · obtain ⟨x, hx⟩ : ∃ x, l[k]? = some x := ⟨l[k]'(by have := HL.out; omega), List.getElem?_eq_getElem _⟩
      have c0 := HC.out wr HB.out k x hx
      obtain ⟨q, hq⟩ : ∃ q, k / 4 = q := ⟨_, rfl⟩
      obtain ⟨r, hr⟩ : ∃ r, k % 4 = r := ⟨_, rfl⟩
      have hqm : q < m := by have := HN.out; omega
      have hr4 : r < 4 := by omega
      obtain ⟨s1, s2, s3⟩ := midL_step 4 m l k q r x hx (by omega) hr4 hqm
      have ho := or_put r (by omega) _ s2 x
      generalize numB ((l.drop (q * 4)).take r) = A at *
      have d0 : wr.cell? ⟨w1.heap.size, q, none⟩ = some (.int .u64 (A : Int)) := by
        rw [HO.out.cellAt q (by omega)]
        simp only [cellsU, List.getElem?_map, s1, Option.map_some]
      have f0 := HO.out.frozenAt q
      obtain ⟨X, hX⟩ : ∃ X : Int, (if x = true then (1 : Int) else 0) = X := ⟨_, rfl⟩
      have G : Hid (∀ w2 : World, Calls Try.prog 128 #[.bool x] w2 fun e w' => e = .returned (.int .u64 X) ∧ w' = w2) := fun w2 => by rw [← hX]; exact l2Bool_any x w2
      rw [hX] at ho
      generalize hP : putN A r x = P at *
      have st := HO.out.stored q (.int .u64 P)
      have HN2 : Hid ((wr.setCell ⟨w1.heap.size, q, none⟩ (.int .u64 P)).ownsRow w1.heap.size 107 1 (.slice (some ⟨w1.heap.size, 0, none⟩) m m) m (cellsU (midL 4 m l (k + 1)))) := by
        have h1 := st.1
        rw [show cellsU (midL 4 m l (k + 1)) = (cellsU (midL 4 m l k)).set q (.int .u64 P) from by rw [s3]; simp [cellsU, List.map_set]]
        exact h1
      have HB2 : Hid (Below w1.heap.size w1 (wr.setCell ⟨w1.heap.size, q, none⟩ (.int .u64 P))) := HB.out.setCell (Nat.le_refl _) _
      have hbl : b < wr.heap.size := Nat.lt_of_lt_of_le hlt HB.out.size
      have hqi : (k : Int) / 4 = (q : Int) := by omega
      have hri : (k : Int) % 4 = (r : Int) := by omega
      have hrw : IntKind.u64.wrap (r : Int) = (r : Int) := IntWalk.u64_in _ ⟨by omega, by omega⟩
      have hr64 : (r : Int) < 64 := by omega
      have hqA : (q : Int) < (m : Int) := by omega
      have hqw : IntKind.i64.wrap (q : Int) = (q : Int) := IntWalk.i64_in _ ⟨by omega, by omega⟩
      have hrt : (k : Int).tmod 4 = (r : Int) := by rw [Int.tmod_eq_emod_of_nonneg (by omega)]; exact hri
      have hq0 : (0 : Int) ≤ (q : Int) := by omega
      clear st s1 s2 s3 hx HO hq hr hP hX
      go_wp2_with fail
      go_region_with ((go_at_call 128; refine (G.out _).mono ?_; rintro e w2 ⟨rfl, rfl⟩))
      all_goals
        go_wp2_with fail
        go_roundw
        case rel => exact ⟨k + 1, by omega, by go_num, HN2, (by first | exact HB2 | exact HB2.out.drew | exact HB2.out.drew.drew | exact HB2.out.drew.drew.drew)⟩
        case measure => simp [intOf]; omega
    · obtain rfl : k = n := by omega
      have HO9 : Hid (wr.ownsRow w1.heap.size 107 1 (.slice (some ⟨w1.heap.size, 0, none⟩) m m) (stateL 4 m l).length (cellsU (stateL 4 m l))) := by
        show wr.ownsRow w1.heap.size 107 1 (.slice (some ⟨w1.heap.size, 0, none⟩) m m) (stateL 4 m l).length (cellsU (stateL 4 m l))
        rw [stateL_len, ← midL_end 4 m l k (by have := HL.out; omega)]
        exact HO.out
      clear HO
      go_wp2_with fail
      go_ret2
      exact ⟨_, rfl, HO9.out, HB.out⟩
end Go.Proofs.Ytpjllhlbdcanlaa
