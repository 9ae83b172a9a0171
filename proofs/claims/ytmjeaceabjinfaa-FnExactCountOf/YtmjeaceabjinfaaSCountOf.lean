/-
  How many values meet a set of clauses: the model's CountOf.
-/
import Derived.Test.YtmjeaceabjinfaaCountOf
namespace Go.Proofs.Ytmjeaceabjinfaa
open Go Go.RowKit
open M
set_option linter.unusedVariables false

set_option maxRecDepth 100000 in
set_option maxHeartbeats 2000000 in
theorem sCountOf_any (v : Value) (c : Cn) (w : World) (h : AtCnf w v c) :
    Calls Try.prog 43 #[v] w fun e w' => e = .returned (.tuple #[.int .i64 (countR c), .bool (countOk c)]) ∧ Below w.heap.size w w' := by
  have HG : Hid (∀ w1 : World, Below w.heap.size w w1 → Calls Try.prog 47 #[v] w1 fun e w' => e = .returned (.bool (cnfB c)) ∧ Below w1.heap.size w1 w') := fun w1 hb' => sGoodCnf_any v c w1 (h.below hb')
  have HM : Hid (cnfB c = true → ∀ (bv : Value) (vals : List Bool) (w1 : World), Below w.heap.size w w1 → BoolsAt w1 bv vals → (vals.length : Int) = c.1 → Calls Try.prog 45 #[v, bv] w1 fun e w' => e = .returned (.tuple #[.bool (meetB c vals), .bool true]) ∧ Below w1.heap.size w1 w') := fun h1 bv vals w1 hb' hbv h2 => by
    have g := sMeets_any v bv c vals w1 (h.below hb') hbv
    unfold meetsR meetsOk at g
    rw [h1, decide_eq_true h2, Bool.true_and, Bool.true_and] at g
    exact g
  obtain ⟨sa, sn, sc, rfl⟩ := h.shape
  obtain ⟨⟨hf0, hf1⟩, _⟩ := h
  have HB0 : Hid (Below w.heap.size w (w.alloc (.cells #[.int .i64 c.1, .slice sa sn sc] 51))) := (Below.refl _ _).alloc (Nat.le_refl _) _
  have x0 := box2_alloc w 51 (.int .i64 c.1) (.slice sa sn sc)
  have HX : Hid _ := x0
  cases hg : cnfB c with
  | false =>
    have e1 : countOk c = false := by unfold countOk; rw [hg]; rfl
    have e2 : countR c = 0 := by unfold countR; rw [e1]; rfl
    rw [hg] at HG
    rw [e1, e2]
    clear HM hg e1 e2
    generalize c.1 = n at *
    go_enter Try.func43, Try.ntmps43
    go_wp2_with fail
    refine (HG.out _ HB0.out).mono ?_
    rintro e w1 ⟨rfl, hs⟩
    have HB1 : Hid (Below w.heap.size w w1) := Below.step HB0.out HB0.out.size hs
    clear hs
    go_wp2_with fail
    go_ret2
    exact ⟨rfl, HB1.out⟩
  | true =>
    rw [hg] at HG
    obtain ⟨p0, p1, _⟩ := cnf_parts hg
    have HM2 : Hid _ := HM.out hg
    clear HM
    by_cases hn : c.1 ≤ 10
    · have e1 : countOk c = true := by unfold countOk; rw [hg, decide_eq_true hn]; rfl
      have e2 : countR c = countN c (2 ^ c.1.toNat) := by unfold countR; rw [e1]; rfl
      rw [e1, e2]
      clear hg e1 e2
      obtain ⟨N, hN⟩ : ∃ N : Nat, c.1 = (N : Int) := ⟨c.1.toNat, by omega⟩
      have HNN : Hid (c.1 = (N : Int)) := hN
      have hNt : c.1.toNat = N := by omega
      rw [hNt]
      rw [hN] at HG HB0 HX x0 HM2
      rw [hN]
      have hN10 : N ≤ 10 := by omega
      have hNp : c.1.toNat = N := hNt
      obtain ⟨P, hP⟩ : ∃ P : Nat, 2 ^ N = P := ⟨_, rfl⟩
      have hP2 := pow_small N hN10
      have hP1 := shl_one N hN10
      rw [hP] at hP1 hP2 ⊢
      have HC : Hid (∀ k, k < P → bitsL k N = bitsL k c.1.toNat) := fun k _ => by rw [hNt]
      have HCI : Hid (∀ k, 0 ≤ countN c k ∧ countN c k ≤ k) := countN_in c
      have HCS : Hid (∀ k, countN c (k + 1) = countN c k + if meetB c (bitsL k N) = true then 1 else 0) := fun k => by rw [countN, hNt]
      clear hNp hNt hN hP hf0 hf1 p0 p1 hn HC
      obtain ⟨i0, hi, hz0, hz1, hz2⟩ := info_parts infoBool
      have hN0 : (0 : Int) ≤ (N : Int) := by omega
      go_enter Try.func43, Try.ntmps43
      go_wp2_with fail
      refine (HG.out _ HB0.out).mono ?_
      generalize w.alloc (.cells #[.int .i64 (N : Int), .slice sa sn sc] 51) = w0 at *
      rintro e w1 ⟨rfl, hs⟩
      have x1 := HX.out.below hs HX.out.lt
      obtain ⟨k0, k1⟩ := x1.cells
      have kh := x1.heap
      have kl := x1.lt
      have HBW : Hid (Below w.heap.size w w1) := Below.step HB0.out HB0.out.size hs
      have HK1 : Hid (∀ w3, Below w1.heap.size w1 w3 → Box2 w3 w.heap.size 51 (.int .i64 (N : Int)) (.slice sa sn sc)) := fun w3 hb3 => x1.below hb3 x1.lt
      clear hs x1 x0 HX HG HB0
      go_wp2_with fail
      go_loopw [4, 5] (fun m i wr => ∃ k : Nat, k ≤ P ∧ i = .int .i64 k ∧ m = .int .i64 (countN c k) ∧ Hid (Below w1.heap.size w1 wr)) (fun _ i _ => P - (intOf i).toNat)
      case atStart => exact ⟨0, by omega, rfl, rfl, Below.refl _ _⟩
      case round =>
        obtain ⟨k, hk, rfl, rfl, HB⟩ := hrel
        clear k0 k1 kh kl
        obtain ⟨kk0, kk1⟩ := (HK1.out wr HB.out).cells
        have kkh := (HK1.out wr HB.out).heap
        have kkl := (HK1.out wr HB.out).lt
        have hNu : IntKind.u64.wrap (N : Int) = (N : Int) := IntWalk.u64_in _ ⟨by omega, by omega⟩
        by_cases hlt : k < P
        · have hcc := HCI.out k
          generalize wr = wq at *
          have HO1 : Hid (wq.ownsRow w1.heap.size 4 1 (.slice none 0 0) 0 (cellsB (bitsL k 0))) := World.ownsRow_nil _ _ _ _
          go_wp2_with fail
          try rw [hP1]
          clear hP1
          go_loopw [6, 7] (fun v i wr => ∃ j : Nat, j ≤ N ∧ i = .int .i64 j ∧ Hid (wr.ownsRow w1.heap.size 4 1 v j (cellsB (bitsL k j))) ∧ Hid (Below w1.heap.size w1 wr)) (fun _ i _ => N - (intOf i).toNat)
          case atStart => exact ⟨0, by omega, rfl, HO1, HB⟩
          case round =>
            obtain ⟨j, hj, rfl, HO2, HB2⟩ := hrel
            clear HO1 kk0 kk1 kkh kkl
            obtain ⟨kk0, kk1⟩ := (HK1.out wr HB2.out).cells
            have kkh := (HK1.out wr HB2.out).heap
            have kkl := (HK1.out wr HB2.out).lt
            by_cases hlt2 : j < N
            · obtain ⟨va, vc, hv⟩ := own_shape HO2.out
              subst hv
              have hjw : IntKind.u64.wrap (j : Int) = (j : Int) := IntWalk.u64_in _ ⟨by omega, by omega⟩
              obtain ⟨z, hz⟩ : ∃ z, bitAt k j = z := ⟨_, rfl⟩
              have hz' : (bits BinOp.and IntKind.i64 ((k : Int) / 2 ^ j) 1 == 1) = z := hz
              have own6 := World.ownsRow.alloc HO2.out (.cells #[.bool z] 4)
              have hb6 : Below w1.heap.size w1 (wr.alloc (.cells #[.bool z] 4)) := HB2.out.alloc HB2.out.size _
              have hs6 := hb6.size
              have HZ : Hid (bitAt k j = z) := hz
              have hlt2' : (j : Int) < (N : Int) := by omega
              clear HO2 HB2 hz
              go_wp2_with (at_builtin; refine wpList_append_own _ rfl _ _ 33 rfl w1.heap.size 4 i0 (.bool false) 1 1 Try.underlying33 hi hz0 hz1 hz2 rfl (by decide) _ _ _ rfl own6 ⟨wr.heap.size, 0, none⟩ 1 1 [.bool z] rfl rfl (oneB_cells wr z) (bools_one [z]) (by unfold maxLen; omega) (by omega) hs6 ?_)
              intro v9 w9 own9 grow9 _
              have HB10 : Hid (Below w1.heap.size w1 w9) := below_app hb6 (by omega) (Nat.le_refl _) own6 grow9
              have HO10 : Hid (w9.ownsRow w1.heap.size 4 1 v9 (j + 1) (cellsB (bitsL k (j + 1)))) := by
                show w9.ownsRow w1.heap.size 4 1 v9 (j + 1) (cellsB (bitsL k (j + 1)))
                rw [bitsL_snoc, HZ.out, cellsB_append]
                exact own9
              clear own6 own9 grow9 hb6
              go_wp2_with fail
              go_roundw
              case rel => exact ⟨j + 1, by omega, by go_num, HO10, HB10⟩
              case measure => simp [intOf]; omega
            · obtain rfl : j = N := by omega
              generalize wr = w3 at *
              have hat : BoolsAt w3 u6 (bitsL k j) := by
                have h3 : w3.ownsRow w1.heap.size 4 1 u6 (bitsL k j).length (cellsB (bitsL k j)) := by
                  rw [bitsL_len]
                  exact HO2.out
                exact bools_of_own (by rw [bitsL_len]; omega) h3
              have g := HM2.out u6 (bitsL k j) w3 (HBW.out.trans (HB2.out.mono HBW.out.size)) hat (by rw [bitsL_len])
              have hcs := HCS.out k
              clear hat HO2
              cases hm : meetB c (bitsL k j) with
              | true =>
                rw [hm] at g
                rw [hm, if_pos rfl] at hcs
                have HCS2 : Hid (countN c (k + 1) = countN c k + 1) := hcs
                clear hcs hm
                go_wp2_with fail
                refine g.mono ?_
                rintro e w4 ⟨rfl, hs4⟩
                have HB4 : Hid (Below w1.heap.size w1 w4) := HB2.out.trans (hs4.mono HB2.out.size)
                clear hs4 g HB2
                go_wp2_with fail
                go_roundw
                case rel => exact ⟨k + 1, by omega, by go_num, by rw [HCS2.out], HB4⟩
                case measure => simp [intOf]; omega
              | false =>
                rw [hm] at g
                rw [hm, if_neg (by decide), Int.add_zero] at hcs
                have HCS2 : Hid (countN c (k + 1) = countN c k) := hcs
                clear hcs hm
                go_wp2_with fail
                refine g.mono ?_
                rintro e w4 ⟨rfl, hs4⟩
                have HB4 : Hid (Below w1.heap.size w1 w4) := HB2.out.trans (hs4.mono HB2.out.size)
                clear hs4 g HB2
                go_wp2_with fail
                go_roundw
                case rel => exact ⟨k + 1, by omega, by go_num, by rw [HCS2.out], HB4⟩
                case measure => simp [intOf]; omega
        · obtain rfl : k = P := by omega
          have HBE : Hid (Below w.heap.size w wr) := HBW.out.trans (HB.out.mono HBW.out.size)
          clear HB HM2 HK1 HBW
          go_wp2_with fail
          go_ret2
          exact ⟨rfl, HBE.out⟩
    · have e1 : countOk c = false := by unfold countOk; rw [hg, decide_eq_false hn]; rfl
      have e2 : countR c = 0 := by unfold countR; rw [e1]; rfl
      rw [e1, e2]
      clear HM2 hg e1 e2
      generalize c.1 = n at *
      go_enter Try.func43, Try.ntmps43
      go_wp2_with fail
      refine (HG.out _ HB0.out).mono ?_
      generalize w.alloc (.cells #[.int .i64 n, .slice sa sn sc] 51) = w0 at *
      rintro e w1 ⟨rfl, hs⟩
      have x1 := HX.out.below hs HX.out.lt
      obtain ⟨k0, k1⟩ := x1.cells
      have kh := x1.heap
      have kl := x1.lt
      have HB1 : Hid (Below w.heap.size w w1) := Below.step HB0.out HB0.out.size hs
      have hn2 : 10 < n := by omega
      clear hs x1 x0
      go_wp2_with fail
      go_ret2
      exact ⟨rfl, HB1.out⟩
end Go.Proofs.Ytmjeaceabjinfaa
