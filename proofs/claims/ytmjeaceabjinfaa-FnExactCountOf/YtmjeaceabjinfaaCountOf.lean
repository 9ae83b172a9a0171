/-
  How many values meet a set of clauses: the model's and the program's CountOf.
-/
import Derived.Test.YtmjeaceabjinfaaSMeets
import Derived.Test.YtmjeaceabjinfaaRun
import Derived.Test.YtmjeaceabjinfaaMath2
namespace Go.Proofs.Ytmjeaceabjinfaa
open Go Go.RowKit
open M
set_option linter.unusedVariables false

/-- whether bit i of k is set, as the program's text asks it -/
def bitAt (k i : Nat) : Bool := bits BinOp.and IntKind.i64 ((k : Int) / 2 ^ i) 1 == 1
def bitsL (k n : Nat) : List Bool := (List.range n).map (bitAt k)
def countN (c : Cn) : Nat → Int
  | 0 => 0
  | k + 1 => countN c k + if meetB c (bitsL k c.1.toNat) = true then 1 else 0
def countOk (c : Cn) : Bool := cnfB c && decide (c.1 ≤ 10)
def countR (c : Cn) : Int := if countOk c = true then countN c (2 ^ c.1.toNat) else 0
theorem countN_in (c : Cn) : ∀ k, 0 ≤ countN c k ∧ countN c k ≤ k
  | 0 => by simp [countN]
  | k + 1 => by
    have := countN_in c k
    simp only [countN]
    split <;> omega
theorem bitsL_len (k n : Nat) : (bitsL k n).length = n := by simp [bitsL]
theorem bitsL_snoc (k n : Nat) : bitsL k (n + 1) = bitsL k n ++ [bitAt k n] := by simp [bitsL, List.range_succ]
theorem bitsL_at (k n i : Nat) (h : i < n) : (bitsL k n)[i]? = some (bitAt k i) := by simp [bitsL, h]
theorem bits_set (k : Nat) (xs : List Bool) (n j : Nat) (hx : xs.length = n) (hj : j < n) : (cellsB (bitsL k j ++ xs.drop j)).set j (.bool (bitAt k j)) = cellsB (bitsL k (j + 1) ++ xs.drop (j + 1)) := by
  obtain ⟨x, hx'⟩ : ∃ x, xs.drop j = x :: xs.drop (j + 1) := ⟨xs[j]'(by omega), List.drop_eq_getElem_cons (by omega)⟩
  unfold cellsB
  rw [hx', bitsL_snoc, List.map_append, List.set_append_right _ _ (by rw [List.length_map, bitsL_len]; exact Nat.le_refl _), List.length_map, bitsL_len, Nat.sub_self, List.append_assoc, List.map_append]
  rfl
theorem pow_small (n : Nat) (h : n ≤ 10) : 1 ≤ (2 : Nat) ^ n ∧ (2 : Nat) ^ n ≤ 1024 := ⟨Nat.pow_pos (by omega), Nat.pow_le_pow_right (n := 2) (by omega) h⟩
theorem shl_one (n : Nat) (h : n ≤ 10) : wrap64 (2 ^ n) = ((2 ^ n : Nat) : Int) := by
  have := pow_small n h
  have e : ((2 : Int) ^ n) = ((2 ^ n : Nat) : Int) := by simp
  rw [e]
  unfold wrap64
  omega
theorem count_parts {c : Cn} (h : countOk c = true) : cnfB c = true ∧ c.1 ≤ 10 := by
  unfold countOk at h
  rw [Bool.and_eq_true] at h
  exact ⟨h.1, of_decide_eq_true h.2⟩
set_option maxRecDepth 100000 in
set_option maxHeartbeats 2000000 in
theorem iCountOf_any (v : Value) (c : Cn) (w : World) (h : AtCnf w v c) :
    Calls Try.prog 40 #[v] w fun e w' => e = .returned (.tuple #[.int .i64 (countR c), .bool (countOk c)]) ∧ Below w.heap.size w w' := by
  have HG : Hid (∀ w1 : World, Below w.heap.size w w1 → Calls Try.prog 46 #[v] w1 fun e w' => e = .returned (.bool (cnfB c)) ∧ Below w1.heap.size w1 w') := fun w1 hb' => iGoodCnf_any v c w1 (h.below hb')
  have HM : Hid (cnfB c = true → ∀ (bv : Value) (vals : List Bool) (w1 : World), Below w.heap.size w w1 → BoolsAt w1 bv vals → (vals.length : Int) = c.1 → Calls Try.prog 106 #[v, bv] w1 fun e w' => e = .returned (.bool (meetB c vals)) ∧ Below w1.heap.size w1 w') := fun h1 bv vals w1 hb' hbv h2 => met_any v bv c vals h1 h2 w1 (h.below hb') hbv
  obtain ⟨sa, sn, sc, rfl⟩ := h.shape
  obtain ⟨⟨hf0, hf1⟩, _⟩ := h
  have HB0 : Hid (Below w.heap.size w (w.alloc (.cells #[.int .i64 c.1, .slice sa sn sc] 51))) := (Below.refl _ _).alloc (Nat.le_refl _) _
  have x0 := box2_alloc w 51 (.int .i64 c.1) (.slice sa sn sc)
  have HX : Hid _ := x0
  cases hg : cnfB c with
  | false =>
    have e1 : countOk c = false := by unfold countOk; rw [hg]; rfl
    have e2 : countR c = 0 := by unfold countR; rw [e1]; rfl
    rw [hg] at HG
    rw [e1, e2]
    clear HM hg e1 e2
    generalize c.1 = n at *
    go_enter Try.func40, Try.ntmps40
    go_wp2_with fail
    refine (HG.out _ HB0.out).mono ?_
    rintro e w1 ⟨rfl, hs⟩
    have HB1 : Hid (Below w.heap.size w w1) := Below.step HB0.out HB0.out.size hs
    clear hs
    go_wp2_with fail
    go_ret2
    exact ⟨rfl, HB1.out⟩
  | true =>
    rw [hg] at HG
    obtain ⟨p0, p1, _⟩ := cnf_parts hg
    have HM2 : Hid _ := HM.out hg
    clear HM
    by_cases hn : c.1 ≤ 10
    · have e1 : countOk c = true := by unfold countOk; rw [hg, decide_eq_true hn]; rfl
      have e2 : countR c = countN c (2 ^ c.1.toNat) := by unfold countR; rw [e1]; rfl
      rw [e1, e2]
      clear hg e1 e2
      obtain ⟨N, hN⟩ : ∃ N : Nat, c.1 = (N : Int) := ⟨c.1.toNat, by omega⟩
      have HNN : Hid (c.1 = (N : Int)) := hN
      have hNt : c.1.toNat = N := by omega
      rw [hNt]
      rw [hN] at HG HB0 HX x0 HM2
      rw [hN]
      have hN10 : N ≤ 10 := by omega
      have hNp : c.1.toNat = N := hNt
      obtain ⟨P, hP⟩ : ∃ P : Nat, 2 ^ N = P := ⟨_, rfl⟩
      have hP2 := pow_small N hN10
      have hP1 := shl_one N hN10
      rw [hP] at hP1 hP2 ⊢
      have HC : Hid (∀ k, k < P → bitsL k N = bitsL k c.1.toNat) := fun k _ => by rw [hNt]
      have HCI : Hid (∀ k, 0 ≤ countN c k ∧ countN c k ≤ k) := countN_in c
      have HCS : Hid (∀ k, countN c (k + 1) = countN c k + if meetB c (bitsL k N) = true then 1 else 0) := fun k => by rw [countN, hNt]
      clear hNp hNt hN hP hf0 hf1 p0 p1 hn HC
      obtain ⟨i0, hi, hz0, hz1, hz2⟩ := info_parts infoBool
      have hN0 : (0 : Int) ≤ (N : Int) := by omega
      go_enter Try.func40, Try.ntmps40
      go_wp2_with fail
      refine (HG.out _ HB0.out).mono ?_
      generalize w.alloc (.cells #[.int .i64 (N : Int), .slice sa sn sc] 51) = w0 at *
      rintro e w1 ⟨rfl, hs⟩
      have x1 := HX.out.below hs HX.out.lt
      obtain ⟨k0, k1⟩ := x1.cells
      have kh := x1.heap
      have kl := x1.lt
      have HBW : Hid (Below w.heap.size w w1) := Below.step HB0.out HB0.out.size hs
      have HK1 : Hid (∀ w3, Below w1.heap.size w1 w3 → Box2 w3 w.heap.size 51 (.int .i64 (N : Int)) (.slice sa sn sc)) := fun w3 hb3 => x1.below hb3 x1.lt
      clear hs x1 x0 HX HG HB0
      go_wp2_with (at_make; refine wpList_make_full _ rfl _ _ 33 rfl w1.heap.size 4 i0 (.bool false) 1 Try.underlying33 hi hz0 hz1 .i64 .i64 _ _ N rfl rfl (by omega) (by omega) (by rw [hz2]; omega) (by unfold maxLen; omega) (Nat.le_refl _) ?_)
      intro w2 hown hgrow
      have hb2 : Below w1.heap.size w1 w2 := (Below.refl _ _).grown hgrow (Nat.le_refl _) (fun k hk => by cases hk)
      have hown1 : ∃ xs : List Bool, xs.length = N ∧ w2.ownsRow w1.heap.size 4 1 (.slice (some ⟨w1.heap.size, 0, none⟩) N N) N (cellsB xs) := by
        refine ⟨List.replicate N false, by simp, ?_⟩
        have h2 := hown
        rw [toList_madeCells_one] at h2
        have e : cellsB (List.replicate N false) = List.replicate N (.bool false) := by simp [cellsB]
        rw [e]
        exact h2
      obtain ⟨kk0, kk1⟩ := (HK1.out w2 hb2).cells
      have kkh := (HK1.out w2 hb2).heap
      have kkl := (HK1.out w2 hb2).lt
      clear hown hgrow k0 k1 kh kl
      go_wp2_with fail
      rw [hP1]
      clear hP1
      go_loopw [4, 22] (fun m i wr => ∃ k : Nat, k ≤ P ∧ i = .int .i64 k ∧ m = .int .i64 (countN c k) ∧ Hid (∃ xs : List Bool, xs.length = N ∧ wr.ownsRow w1.heap.size 4 1 (.slice (some ⟨w1.heap.size, 0, none⟩) N N) N (cellsB xs)) ∧ Hid (Below w1.heap.size w1 wr)) (fun _ i _ => P - (intOf i).toNat)
      case atStart => exact ⟨0, by omega, rfl, rfl, hown1, hb2⟩
      case round =>
        obtain ⟨k, hk, rfl, rfl, HO, HB⟩ := hrel
        clear hown1 hb2 kk0 kk1 kkh kkl
        by_cases hlt : k < P
        · obtain ⟨xs, hxl, hown⟩ := HO.out
          have HXL : Hid (xs.length = N) := hxl
          have hcc := HCI.out k
          have HO1 : Hid (wr.ownsRow w1.heap.size 4 1 (.slice (some ⟨w1.heap.size, 0, none⟩) N N) N (cellsB (bitsL k 0 ++ xs.drop 0))) := hown
          clear hxl hown HO
          generalize wr = wq at *
          go_wp2_with fail
          go_loopw [27] (fun i wr => ∃ j : Nat, j ≤ N ∧ i = .int .i64 j ∧ Hid (wr.ownsRow w1.heap.size 4 1 (.slice (some ⟨w1.heap.size, 0, none⟩) N N) N (cellsB (bitsL k j ++ xs.drop j))) ∧ Hid (Below w1.heap.size w1 wr)) (fun i _ => N - (intOf i).toNat)
          case atStart => exact ⟨0, by omega, rfl, HO1, HB⟩
          case round =>
            obtain ⟨j, hj, rfl, HO2, HB2⟩ := hrel
            clear HO1
            by_cases hlt2 : j < N
            · have own2 := HO2.out
              have hlen := own2.1
              obtain ⟨u0, hu0⟩ : ∃ u0, (cellsB (bitsL k j ++ xs.drop j))[j]? = some u0 := ⟨_, List.getElem?_eq_getElem (by omega)⟩
              have d0 : wr.cell? ⟨w1.heap.size, j, none⟩ = some u0 := by rw [own2.cellAt j (by omega)]; exact hu0
              have f0 := own2.frozenAt j
              have st := own2.stored j (.bool (bitAt k j))
              have HN : Hid ((wr.setCell ⟨w1.heap.size, j, none⟩ (.bool (bitAt k j))).ownsRow w1.heap.size 4 1 (.slice (some ⟨w1.heap.size, 0, none⟩) N N) N (cellsB (bitsL k (j + 1) ++ xs.drop (j + 1)))) := by
                have h1 := st.1
                rw [bits_set k xs N j HXL.out hlt2] at h1
                exact h1
              have HB3 : Hid (Below w1.heap.size w1 (wr.setCell ⟨w1.heap.size, j, none⟩ (.bool (bitAt k j)))) := HB2.out.setCell (Nat.le_refl _) _
              obtain ⟨z, hz⟩ : ∃ z, bitAt k j = z := ⟨_, rfl⟩
              have hz' : (bits BinOp.and IntKind.i64 ((k : Int) / 2 ^ j) 1 == 1) = z := hz
              rw [hz] at HN HB3
              clear own2 st hlen hu0 HO2 HB2 hz
              go_wp2_with fail
              go_roundw
              case rel => exact ⟨j + 1, by omega, by go_num, HN, HB3⟩
              case measure => simp [intOf]; omega
            · obtain rfl : j = N := by omega
              generalize wr = w3 at *
              have hat : BoolsAt w3 (.slice (some ⟨w1.heap.size, 0, none⟩) j j) (bitsL k j) := by
                have h2 := HO2.out
                have e : xs.drop j = [] := List.drop_of_length_le (by rw [HXL.out]; exact Nat.le_refl _)
                rw [e, List.append_nil] at h2
                have h3 : w3.ownsRow w1.heap.size 4 1 (.slice (some ⟨w1.heap.size, 0, none⟩) j j) (bitsL k j).length (cellsB (bitsL k j)) := by
                  rw [bitsL_len]
                  exact h2
                exact bools_of_own (by rw [bitsL_len]; omega) h3
              have g := HM2.out (.slice (some ⟨w1.heap.size, 0, none⟩) j j) (bitsL k j) w3 (HBW.out.trans (HB2.out.mono HBW.out.size)) hat (by rw [bitsL_len])
              obtain ⟨kk0, kk1⟩ := (HK1.out w3 HB2.out).cells
              have kkh := (HK1.out w3 HB2.out).heap
              have kkl := (HK1.out w3 HB2.out).lt
              have HS1 : Hid (∃ xs : List Bool, xs.length = j ∧ w3.ownsRow w1.heap.size 4 1 (.slice (some ⟨w1.heap.size, 0, none⟩) j j) j (cellsB xs)) := ⟨bitsL k j ++ xs.drop j, by rw [List.length_append, bitsL_len, List.length_drop, HXL.out]; omega, HO2.out⟩
              have hcs := HCS.out k
              clear hat HO2
              cases hm : meetB c (bitsL k j) with
              | true =>
                rw [hm] at g
                rw [hm, if_pos rfl] at hcs
                have HCS2 : Hid (countN c (k + 1) = countN c k + 1) := hcs
                clear hcs hm
                go_wp2_with fail
                refine g.mono ?_
                rintro e w4 ⟨rfl, hs4⟩
                have HS2 : Hid (∃ xs : List Bool, xs.length = j ∧ w4.ownsRow w1.heap.size 4 1 (.slice (some ⟨w1.heap.size, 0, none⟩) j j) j (cellsB xs)) := by
                  obtain ⟨ys, h1, h2⟩ := HS1.out
                  exact ⟨ys, h1, own_same h2 (fun q hq => (own_block h2 hq).2) (fun i _ hi => hs4.block i hi)⟩
                have HB4 : Hid (Below w1.heap.size w1 w4) := HB2.out.trans (hs4.mono HB2.out.size)
                clear hs4 g HS1 HB2
                go_wp2_with fail
                go_roundw
                case rel => exact ⟨k + 1, by omega, by go_num, by rw [HCS2.out], HS2, HB4⟩
                case measure => simp [intOf]; omega
              | false =>
                rw [hm] at g
                rw [hm, if_neg (by decide), Int.add_zero] at hcs
                have HCS2 : Hid (countN c (k + 1) = countN c k) := hcs
                clear hcs hm
                go_wp2_with fail
                refine g.mono ?_
                rintro e w4 ⟨rfl, hs4⟩
                have HS2 : Hid (∃ xs : List Bool, xs.length = j ∧ w4.ownsRow w1.heap.size 4 1 (.slice (some ⟨w1.heap.size, 0, none⟩) j j) j (cellsB xs)) := by
                  obtain ⟨ys, h1, h2⟩ := HS1.out
                  exact ⟨ys, h1, own_same h2 (fun q hq => (own_block h2 hq).2) (fun i _ hi => hs4.block i hi)⟩
                have HB4 : Hid (Below w1.heap.size w1 w4) := HB2.out.trans (hs4.mono HB2.out.size)
                clear hs4 g HS1 HB2
                go_wp2_with fail
                go_roundw
                case rel => exact ⟨k + 1, by omega, by go_num, by rw [HCS2.out], HS2, HB4⟩
                case measure => simp [intOf]; omega
        · obtain rfl : k = P := by omega
          have HBE : Hid (Below w.heap.size w wr) := HBW.out.trans (HB.out.mono HBW.out.size)
          clear HO HB HM2 HK1 HBW
          go_wp2_with fail
          go_ret2
          exact ⟨rfl, HBE.out⟩
    · have e1 : countOk c = false := by unfold countOk; rw [hg, decide_eq_false hn]; rfl
      have e2 : countR c = 0 := by unfold countR; rw [e1]; rfl
      rw [e1, e2]
      clear HM2 hg e1 e2
      generalize c.1 = n at *
      go_enter Try.func40, Try.ntmps40
      go_wp2_with fail
      refine (HG.out _ HB0.out).mono ?_
      generalize w.alloc (.cells #[.int .i64 n, .slice sa sn sc] 51) = w0 at *
      rintro e w1 ⟨rfl, hs⟩
      have x1 := HX.out.below hs HX.out.lt
      obtain ⟨k0, k1⟩ := x1.cells
      have kh := x1.heap
      have kl := x1.lt
      have HB1 : Hid (Below w.heap.size w w1) := Below.step HB0.out HB0.out.size hs
      have hn2 : 10 < n := by omega
      clear hs x1 x0
      go_wp2_with fail
      go_ret2
      exact ⟨rfl, HB1.out⟩
end Go.Proofs.Ytmjeaceabjinfaa
