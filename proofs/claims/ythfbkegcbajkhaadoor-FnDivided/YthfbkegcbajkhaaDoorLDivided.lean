/-
  The walk of the law on quotients, shifts and signed numbers.
-/
import Derived.Test.YthfbkegcbajkhaaDoorLRing
namespace Go.Proofs.YthfbkegcbajkhaaDoor
open Go Go.RowKit
open M
set_option linter.unusedVariables false

theorem cut_back64 (k : Nat) (hk : k ≤ 64) (n : Int) : cut k (IntKind.u64.wrap (wrap64 n)) = cut k n := by
  rw [cut_wrap k hk]
  unfold cut
  have e : wrap64 n % 18446744073709551616 = n % 18446744073709551616 := by
    unfold wrap64
    omega
  rw [← Int.emod_emod_of_dvd _ (pw_dvd k hk), e, Int.emod_emod_of_dvd _ (pw_dvd k hk)]
theorem sgn_back (k : Nat) (hk : k ≤ 64) (a : Int) (h0 : 0 ≤ a) (h1 : a < pw k) : cut k (IntKind.u64.wrap (sgn k a)) = a := by
  unfold sgn
  split
  · rw [cut_back64 k hk, or_upper k hk a h0 h1]
  · rw [cut_back64 k hk, cut_id k a h0 h1]
theorem moved_left (k j : Nat) (hk : k ≤ 64) (hj : j < k) (a : Int) : moved k a j true = cut k (IntKind.u64.wrap (a * pw j)) := by
  unfold moved
  rw [if_neg (by omega), if_pos rfl, Int.toNat_natCast, cut_wrap k hk]
theorem moved_right (k j : Nat) (hj : j < k) (a : Int) : moved k a j false = a / pw j := by
  unfold moved
  rw [if_neg (by omega), if_neg (by decide), Int.toNat_natCast]
theorem iSignedOf_at (k : Nat) (hk1 : 1 ≤ k) (hk : k ≤ 64) (a : Int) (ha0 : 0 ≤ a) (ha : a < pw k) (w : World) (hT : Tab w) (hg : goodB k a = true) :
    Calls Tryd.prog 33 #[.int .i64 k, .int .u64 a] w fun e w' => e = .returned (.tuple #[.int .i64 (sgn k a), .bool true]) ∧ w' = w := by
  obtain ⟨j, rfl⟩ : ∃ j, k = j + 1 := ⟨k - 1, by omega⟩
  have e1 : ((j + 1 : Nat) : Int) = (j : Int) + 1 := rfl
  rw [e1] at hg
  rw [e1]
  exact iSignedOf_yes j hk a ha0 ha w hT hg
theorem iLessSigned_at (k : Nat) (hk1 : 1 ≤ k) (hk : k ≤ 64) (a b : Int) (ha0 : 0 ≤ a) (ha : a < pw k) (hb0 : 0 ≤ b) (hb : b < pw k) (w : World) (hT : Tab w) (hg : (goodB k a && goodB k b) = true) :
    Calls Tryd.prog 35 #[.int .i64 k, .int .u64 a, .int .u64 b] w fun e w' => e = .returned (.tuple #[.bool (decide (sgn k a < sgn k b)), .bool true]) ∧ w' = w := by
  obtain ⟨j, rfl⟩ : ∃ j, k = j + 1 := ⟨k - 1, by omega⟩
  have e1 : ((j + 1 : Nat) : Int) = (j : Int) + 1 := rfl
  rw [e1] at hg
  rw [e1]
  exact iLessSigned_yes j hk a b ha0 ha hb0 hb w hT hg
set_option maxRecDepth 100000 in
set_option maxHeartbeats 1000000 in
theorem divided_big (a0 a1 : Option Addr) (l0 c0 l1 c1 : Nat) (h0 : l0 ≤ 9223372036854775807) (h1 : l1 ≤ 9223372036854775807) (h : 1048576 < l0 + l1) (w : World) :
    Calls Tryd.prog 4 #[.slice a0 l0 c0, .slice a1 l1 c1] w fun e w' => e = .returned (.bool true) ∧ Below w.heap.size w w' := by
  have g := big_yes a0 a1 l0 c0 l1 c1 h0 h1 h w
  go_enter Tryd.func4, Tryd.ntmps4
  go_wp2_with fail
  refine g.mono ?_
  rintro e w' ⟨rfl, rfl⟩
  go_wp2_with fail
  go_ret
  exact ⟨rfl, Below.refl _ _⟩

set_option maxRecDepth 100000 in
set_option maxHeartbeats 2000000 in
theorem divided_small (a0 a1 : Option Addr) (l0 c0 l1 c1 : Nat) (h0 : l0 ≤ 9223372036854775807) (h1 : l1 ≤ 9223372036854775807) (h : l0 + l1 ≤ 1048576) (w : World) (hT : Tab w) (hz : 0 < w.heap.size)
    (hc0 : CodeOk w.heap.size w (.slice a0 l0 c0)) (hc1 : CodeOk w.heap.size w (.slice a1 l1 c1)) :
    Calls Tryd.prog 4 #[.slice a0 l0 c0, .slice a1 l1 c1] w fun e w' => e = .returned (.bool true) ∧ Below w.heap.size w w' := by
  have g := big_no a0 a1 l0 c0 l1 c1 h0 h1 h w
  have gd := drawDiv_any a0 l0 c0 w hc0
  clear hc0 h
  go_enter Tryd.func4, Tryd.ntmps4
  go_wp2_with fail
  refine g.mono ?_
  rintro e w' ⟨rfl, rfl⟩
  clear g
  go_wp2_with fail
  refine gd.mono ?_
  rintro e w1 ⟨k, x, y, hk65, ⟨hx0, hx1⟩, ⟨hy0, hy1⟩, rfl, hb⟩
  clear gd
  have hT1 := hT.below hb hz
  have gn := fun w2 (h2 : Below w'.heap.size w' w2) => numberOf_any _ _ w2 (hc1.below h2)
  clear hT hc1 hz
  cases hg : (goodB k x && goodB k y) with
  | false =>
    have gA := iDivWord_no k x y w1 hT1 hg
    have gB := sDivWord_no k x y hx0 hx1 hy0 hy1 w1 hg
    have HB : Hid (Below w'.heap.size w' w1) := hb
    clear hg hT1 gn hb
    go_wp2_with fail
    refine gA.mono ?_
    rintro e w2 ⟨rfl, rfl⟩
    clear gA
    go_wp2_with fail
    refine gB.mono ?_
    rintro e w2 ⟨rfl, rfl⟩
    clear gB
    go_wp2_with fail
    go_ret
    exact ⟨rfl, HB.out⟩
  | true =>
    obtain ⟨hgx, hgy⟩ := Bool.and_eq_true_iff.1 hg
    have hkx := goodB_true hgx
    have hky := goodB_true hgy
    have hk1 : 1 ≤ k := by obtain ⟨k', e, h1, h2, h3⟩ := hkx; omega
    have hk : k ≤ 64 := by obtain ⟨k', e, h1, h2, h3⟩ := hkx; omega
    have hx : x < pw k := by obtain ⟨k', e, h1, h2, h3⟩ := hkx; obtain rfl : k = k' := by omega
                             exact h3
    have hy : y < pw k := by obtain ⟨k', e, h1, h2, h3⟩ := hky; obtain rfl : k = k' := by omega
                             exact h3
    clear hkx hky
    have hp := pw_pos k
    have hl := pw_le k hk
    have gd := good_cut k hk1 hk
    have cl := cut_lo k
    have ch := fun n => cut_le k n hk
    by_cases hz : y = 0
    · subst hz
      have gA := iDivWord_zero k hk1 hk x hx0 hx1 w1 hT1 hg
      have gB := sDivWord_zero k hk1 hk x hx0 hx1 w1 hg
      have gC := iMulWord_yes k hk1 hk (pw k - 1) 0 (by omega) (by omega) (by omega) (by omega) w1 hT1 (by rw [hgy, good_of k hk1 hk _ (by omega)]; rfl)
      have gD := iAddWord_yes k hk1 hk (cut k (IntKind.u64.wrap ((pw k - 1) * 0))) x (cl _) (ch _) hx0 hx1 w1 hT1 (by rw [gd, hgx]; rfl)
      have HB2 : Hid (Below w'.heap.size w' w1) := hb
      have hT2 := hT1
      clear hb hT1
      generalize cut k (IntKind.u64.wrap ((pw k - 1) * 0)) = P at *
      generalize cut k (IntKind.u64.wrap (P + x)) = Q at *
      go_wp2_with fail
      refine gA.mono ?_
      rintro e w2 ⟨rfl, rfl⟩
      clear gA
      go_wp2_with fail
      refine gB.mono ?_
      rintro e w2 ⟨rfl, rfl⟩
      clear gB
      go_wp2_with fail
      refine gC.mono ?_
      rintro e w2 ⟨rfl, rfl⟩
      clear gC
      go_wp2_with fail
      refine gD.mono ?_
      rintro e w2 ⟨rfl, rfl⟩
      clear gD
      have gN := gn _ HB2.out
      clear gn
      go_wp2_with fail
      refine gN.mono ?_
      rintro e w3 ⟨n, ⟨hn0, hn1⟩, rfl, rfl⟩
      clear gN
      have hj := mod_bd n k hn0 (by omega)
      obtain ⟨j, hj'⟩ := Int.eq_ofNat_of_zero_le hj.1
      have hjk : j < k := by omega
      have hj63 : j ≤ 63 := by omega
      have gO := sGoodWord_any k j (by omega) (by omega) w3
      have HJ : Hid (IntKind.u64.wrap (n % (k : Int)) = (j : Int)) := by
        show IntKind.u64.wrap (n % (k : Int)) = (j : Int)
        rw [hj', IntKind.wrap_u64, Int.emod_eq_of_lt (by omega) (by omega)]
      clear hj hj'
      have hpj := pw_pos j
      have hpjl : pw j < pw k := by
        have e1 := pw_mono (j + 1) k (by omega)
        rw [pw_succ] at e1
        omega
      cases hgj : goodB k j with
      | false =>
        rw [hgj] at gO
        clear hgj hpjl
        go_wp2_with fail
        rw [HJ.out]
        refine gO.mono ?_
        rintro e w2 ⟨rfl, rfl⟩
        clear gO
        go_wp2_with fail
        go_ret
        exact ⟨rfl, HB2.out⟩
      | true =>
        rw [hgj] at gO
        have hjp : (j : Int) < pw k := by
          obtain ⟨k', e, e1, e2, e3⟩ := goodB_true hgj
          obtain rfl : k = k' := by omega
          exact e3
        have hwp := wrap_pw j (by omega)
        have gj := good_of k hk1 hk (pw j) hpjl
        have gP := iShiftWord_yes k hk1 hk x j true hx0 hx (by omega) hjp w3 hT2 (by rw [hgx, hgj]; rfl)
        rw [moved_left k j hk hjk] at gP
        have gQ := iMulWord_yes k hk1 hk x (pw j) hx0 hx1 (by omega) (by omega) w3 hT2 (by rw [hgx, gj]; rfl)
        have gR := iShiftWord_yes k hk1 hk x j false hx0 hx (by omega) hjp w3 hT2 (by rw [hgx, hgj]; rfl)
        rw [moved_right k j hjk] at gR
        have gS := iDivWord_yes k hk1 hk x (pw j) hx0 hx1 (by omega) (by omega) hpj w3 hT2 (by rw [hgx, gj]; rfl)
        have gT := iSignedOf_at k hk1 hk x hx0 hx w3.drew hT2.drew hgx
        have gU := iFromSigned_yes k hk1 hk (sgn k x) w3.drew hT2.drew
        rw [sgn_back k hk x hx0 hx] at gU
        have gV := iSignedOf_at k hk1 hk 0 (by omega) hy w3.drew hT2.drew hgy
        have gW := iLessSigned_at k hk1 hk x 0 hx0 hx (by omega) hy w3.drew hT2.drew hg
        clear hg hgx hgy gd cl ch hT2 hx hy hp hl hgj gj hjp hpjl
        have HW : Hid (IntKind.u64.wrap (2 ^ j) = pw j) := hwp
        clear hwp
        generalize pw j = p at *
        generalize cut k (IntKind.u64.wrap (x * p)) = L at *
        generalize x / p = q' at *
        generalize x % p = r' at *
        generalize sgn k x = sx at *
        generalize sgn k 0 = sy at *
        go_wp2_with fail
        rw [HJ.out]
        refine gO.mono ?_
        rintro e w2 ⟨rfl, rfl⟩
        clear gO
        go_wp2_with fail
        refine gP.mono ?_
        rintro e w2 ⟨rfl, rfl⟩
        clear gP
        go_wp2_with fail
        rw [HW.out]
        refine gQ.mono ?_
        rintro e w2 ⟨rfl, rfl⟩
        clear gQ
        go_wp2_with fail
        refine gR.mono ?_
        rintro e w2 ⟨rfl, rfl⟩
        clear gR
        go_wp2_with fail
        refine gS.mono ?_
        rintro e w2 ⟨rfl, rfl⟩
        clear gS
        go_wp2_with fail
        refine gT.mono ?_
        rintro e w2 ⟨rfl, rfl⟩
        clear gT
        go_wp2_with fail
        refine gU.mono ?_
        rintro e w2 ⟨rfl, rfl⟩
        clear gU
        go_wp2_with fail
        refine gV.mono ?_
        rintro e w2 ⟨rfl, rfl⟩
        clear gV
        go_wp2_with fail
        refine gW.mono ?_
        rintro e w2 ⟨rfl, rfl⟩
        clear gW
        go_wp2_with fail
        go_ret
        exact ⟨rfl, HB2.out.drew⟩
    · have hy1' : 1 ≤ y := by omega
      have gA := iDivWord_yes k hk1 hk x y hx0 hx1 hy0 hy1 hy1' w1 hT1 hg
      have gB := sDivWord_yes k hk1 hk x y hx0 hx1 hy0 hy1 hy1' w1.drew hg
      have hq := div_good k x y hx0 hx hy1'
      have hr := mod_bd x y hx0 hy1'
      have gC := iMulWord_yes k hk1 hk (x / y) y hq.1 (by omega) hy0 hy1 w1.drew.drew hT1.drew.drew (by rw [hgy, good_of k hk1 hk _ hq.2]; rfl)
      have gD := iAddWord_yes k hk1 hk (cut k (IntKind.u64.wrap (x / y * y))) (x % y) (cl _) (ch _) hr.1 (by omega) w1.drew.drew hT1.drew.drew (by rw [gd, good_of k hk1 hk _ (by omega)]; rfl)
      rw [div_back k hk x y hx0 hx] at gD
      have HB2 : Hid (Below w'.heap.size w' w1.drew.drew) := hb.drew.drew
      have hT2 := hT1.drew.drew
      have hne : (y != 0) = true := by rw [bne_iff_ne]; exact hz
      have hr1 := hr.2
      clear hb hT1 hz hq hr
      generalize cut k (IntKind.u64.wrap (x / y * y)) = P at *
      generalize x / y = q at *
      generalize x % y = r at *
      go_wp2_with fail
      refine gA.mono ?_
      rintro e w2 ⟨rfl, rfl⟩
      clear gA
      go_wp2_with fail
      refine gB.mono ?_
      rintro e w2 ⟨rfl, rfl⟩
      clear gB
      go_wp2_with fail
      refine gC.mono ?_
      rintro e w2 ⟨rfl, rfl⟩
      clear gC
      go_wp2_with fail
      refine gD.mono ?_
      rintro e w2 ⟨rfl, rfl⟩
      clear gD
      go_wp2_with fail
      generalize w1.drew.drew = WW at *
      have gN := gn _ HB2.out
      clear gn
      go_wp2_with fail
      refine gN.mono ?_
      rintro e w3 ⟨n, ⟨hn0, hn1⟩, rfl, rfl⟩
      clear gN
      have hj := mod_bd n k hn0 (by omega)
      obtain ⟨j, hj'⟩ := Int.eq_ofNat_of_zero_le hj.1
      have hjk : j < k := by omega
      have hj63 : j ≤ 63 := by omega
      have gO := sGoodWord_any k j (by omega) (by omega) w3
      have HJ : Hid (IntKind.u64.wrap (n % (k : Int)) = (j : Int)) := by
        show IntKind.u64.wrap (n % (k : Int)) = (j : Int)
        rw [hj', IntKind.wrap_u64, Int.emod_eq_of_lt (by omega) (by omega)]
      clear hj hj'
      have hpj := pw_pos j
      have hpjl : pw j < pw k := by
        have e1 := pw_mono (j + 1) k (by omega)
        rw [pw_succ] at e1
        omega
      cases hgj : goodB k j with
      | false =>
        rw [hgj] at gO
        clear hgj hpjl
        go_wp2_with fail
        rw [HJ.out]
        refine gO.mono ?_
        rintro e w2 ⟨rfl, rfl⟩
        clear gO
        go_wp2_with fail
        go_ret
        exact ⟨rfl, HB2.out⟩
      | true =>
        rw [hgj] at gO
        have hjp : (j : Int) < pw k := by
          obtain ⟨k', e, e1, e2, e3⟩ := goodB_true hgj
          obtain rfl : k = k' := by omega
          exact e3
        have hwp := wrap_pw j (by omega)
        have gj := good_of k hk1 hk (pw j) hpjl
        have gP := iShiftWord_yes k hk1 hk x j true hx0 hx (by omega) hjp w3 hT2 (by rw [hgx, hgj]; rfl)
        rw [moved_left k j hk hjk] at gP
        have gQ := iMulWord_yes k hk1 hk x (pw j) hx0 hx1 (by omega) (by omega) w3 hT2 (by rw [hgx, gj]; rfl)
        have gR := iShiftWord_yes k hk1 hk x j false hx0 hx (by omega) hjp w3 hT2 (by rw [hgx, hgj]; rfl)
        rw [moved_right k j hjk] at gR
        have gS := iDivWord_yes k hk1 hk x (pw j) hx0 hx1 (by omega) (by omega) hpj w3 hT2 (by rw [hgx, gj]; rfl)
        have gT := iSignedOf_at k hk1 hk x hx0 hx w3.drew hT2.drew hgx
        have gU := iFromSigned_yes k hk1 hk (sgn k x) w3.drew hT2.drew
        rw [sgn_back k hk x hx0 hx] at gU
        have gV := iSignedOf_at k hk1 hk y hy0 hy w3.drew hT2.drew hgy
        have gW := iLessSigned_at k hk1 hk x y hx0 hx hy0 hy w3.drew hT2.drew hg
        clear hg hgx hgy gd cl ch hT2 hx hy hp hl hgj gj hjp hpjl
        have HW : Hid (IntKind.u64.wrap (2 ^ j) = pw j) := hwp
        clear hwp
        generalize pw j = p at *
        generalize cut k (IntKind.u64.wrap (x * p)) = L at *
        generalize x / p = q' at *
        generalize x % p = r' at *
        generalize sgn k x = sx at *
        generalize sgn k y = sy at *
        go_wp2_with fail
        rw [HJ.out]
        refine gO.mono ?_
        rintro e w2 ⟨rfl, rfl⟩
        clear gO
        go_wp2_with fail
        refine gP.mono ?_
        rintro e w2 ⟨rfl, rfl⟩
        clear gP
        go_wp2_with fail
        rw [HW.out]
        refine gQ.mono ?_
        rintro e w2 ⟨rfl, rfl⟩
        clear gQ
        go_wp2_with fail
        refine gR.mono ?_
        rintro e w2 ⟨rfl, rfl⟩
        clear gR
        go_wp2_with fail
        refine gS.mono ?_
        rintro e w2 ⟨rfl, rfl⟩
        clear gS
        go_wp2_with fail
        refine gT.mono ?_
        rintro e w2 ⟨rfl, rfl⟩
        clear gT
        go_wp2_with fail
        refine gU.mono ?_
        rintro e w2 ⟨rfl, rfl⟩
        clear gU
        go_wp2_with fail
        refine gV.mono ?_
        rintro e w2 ⟨rfl, rfl⟩
        clear gV
        go_wp2_with fail
        refine gW.mono ?_
        rintro e w2 ⟨rfl, rfl⟩
        clear gW
        go_wp2_with fail
        go_ret
        exact ⟨rfl, HB2.out.drew⟩

theorem divided_walk (a0 a1 : Option Addr) (l0 c0 l1 c1 : Nat) (h0 : l0 ≤ 9223372036854775807) (h1 : l1 ≤ 9223372036854775807) (w : World) (hT : Tab w) (hz : 0 < w.heap.size)
    (hc0 : CodeOk w.heap.size w (.slice a0 l0 c0)) (hc1 : CodeOk w.heap.size w (.slice a1 l1 c1)) :
    Calls Tryd.prog 4 #[.slice a0 l0 c0, .slice a1 l1 c1] w fun e w' => e = .returned (.bool true) ∧ Below w.heap.size w w' := by
  by_cases h : 1048576 < l0 + l1
  · exact divided_big a0 a1 l0 c0 l1 c1 h0 h1 h w
  · exact divided_small a0 a1 l0 c0 l1 c1 h0 h1 (by omega) w hT hz hc0 hc1
end Go.Proofs.YthfbkegcbajkhaaDoor
