/-
  The walk of the law on sums and products of words.
-/
import Derived.Test.YthfbkegcbajkhaaDoorDraw2
import Derived.Test.YthfbkegcbajkhaaDoorMath2
namespace Go.Proofs.YthfbkegcbajkhaaDoor
open Go Go.RowKit
open M
set_option linter.unusedVariables false

theorem Tab.below {w w' : World} (h : Tab w) (hb : Below w.heap.size w w') (h0 : 0 < w.heap.size) : Tab w' := by
  intro k hk
  rw [hb.cell (p := ⟨0, k, none⟩) h0]
  exact h k hk
theorem Tab.drew {w : World} (h : Tab w) : Tab w.drew := fun k hk => h k hk

set_option maxRecDepth 100000 in
set_option maxHeartbeats 1000000 in
theorem ring_big (a0 a1 : Option Addr) (l0 c0 l1 c1 : Nat) (h0 : l0 ≤ 9223372036854775807) (h1 : l1 ≤ 9223372036854775807) (h : 1048576 < l0 + l1) (w : World) :
    Calls Tryd.prog 3 #[.slice a0 l0 c0, .slice a1 l1 c1] w fun e w' => e = .returned (.bool true) ∧ Below w.heap.size w w' := by
  have g := big_yes a0 a1 l0 c0 l1 c1 h0 h1 h w
  go_enter Tryd.func3, Tryd.ntmps3
  go_wp2_with fail
  refine g.mono ?_
  rintro e w' ⟨rfl, rfl⟩
  go_wp2_with fail
  go_ret
  exact ⟨rfl, Below.refl _ _⟩

set_option maxRecDepth 100000 in
set_option maxHeartbeats 1000000 in
theorem ring_small (a0 a1 : Option Addr) (l0 c0 l1 c1 : Nat) (h0 : l0 ≤ 9223372036854775807) (h1 : l1 ≤ 9223372036854775807) (h : l0 + l1 ≤ 1048576) (w : World) (hT : Tab w) (hz : 0 < w.heap.size)
    (hc0 : CodeOk w.heap.size w (.slice a0 l0 c0)) (hc1 : CodeOk w.heap.size w (.slice a1 l1 c1)) :
    Calls Tryd.prog 3 #[.slice a0 l0 c0, .slice a1 l1 c1] w fun e w' => e = .returned (.bool true) ∧ Below w.heap.size w w' := by
  have g := big_no a0 a1 l0 c0 l1 c1 h0 h1 h w
  have gd := drawAdd_any a0 l0 c0 w hc0
  clear hc0 h
  go_enter Tryd.func3, Tryd.ntmps3
  go_wp2_with fail
  refine g.mono ?_
  rintro e w' ⟨rfl, rfl⟩
  clear g
  go_wp2_with fail
  refine gd.mono ?_
  rintro e w1 ⟨k, x, y, hk65, ⟨hx0, hx1⟩, ⟨hy0, hy1⟩, rfl, hb⟩
  clear gd
  have hT1 := hT.below hb hz
  have gn := numberOf_any _ _ w1 (hc1.below hb)
  clear hT hc1 hz
  have HB : Hid (Below w'.heap.size w' w1) := hb
  clear hb
  cases hg : (goodB k x && goodB k y) with
  | false =>
    have gA := iAddWord_no k x y w1 hT1 hg
    have gB := sAddWord_no k x y hx0 hx1 hy0 hy1 w1 hg
    have gC := iMulWord_no k x y w1 hT1 hg
    have gD := sMulWord_no k x y hx0 hx1 hy0 hy1 w1 hg
    have gE := iGoodWord_any k x w1 hT1
    have gF := sGoodWord_any k x hx0 hx1 w1
    clear hg hT1 gn
    generalize goodB k x = z at *
    cases z
    all_goals
      go_wp2_with fail
      refine gA.mono ?_
      rintro e w2 ⟨rfl, rfl⟩
      clear gA
      go_wp2_with fail
      refine gB.mono ?_
      rintro e w2 ⟨rfl, rfl⟩
      clear gB
      go_wp2_with fail
      refine gC.mono ?_
      rintro e w2 ⟨rfl, rfl⟩
      clear gC
      go_wp2_with fail
      refine gD.mono ?_
      rintro e w2 ⟨rfl, rfl⟩
      clear gD
      go_wp2_with fail
      refine gE.mono ?_
      rintro e w2 ⟨rfl, rfl⟩
      clear gE
      go_wp2_with fail
      refine gF.mono ?_
      rintro e w2 ⟨rfl, rfl⟩
      clear gF
      go_wp2_with fail
      go_ret
      exact ⟨rfl, HB.out⟩
  | true =>
    obtain ⟨hgx, hgy⟩ := Bool.and_eq_true_iff.1 hg
    have hkx := goodB_true hgx
    have hky := goodB_true hgy
    have hk1 : 1 ≤ k := by obtain ⟨k', e, h1, h2, h3⟩ := hkx; omega
    have hk : k ≤ 64 := by obtain ⟨k', e, h1, h2, h3⟩ := hkx; omega
    have hx : x < pw k := by obtain ⟨k', e, h1, h2, h3⟩ := hkx; obtain rfl : k = k' := by omega
                             exact h3
    have hy : y < pw k := by obtain ⟨k', e, h1, h2, h3⟩ := hky; obtain rfl : k = k' := by omega
                             exact h3
    clear hkx hky
    have hp := pw_pos k
    have hl := pw_le k hk
    have gd := good_cut k hk1 hk
    have cl := cut_lo k
    have ch := fun n => cut_le k n hk
    have gA := iAddWord_yes k hk1 hk x y hx0 hx1 hy0 hy1 w1 hT1 hg
    have gB := sAddWord_yes k hk1 hk x y hx0 hx1 hy0 hy1 w1 hg
    have gC := iMulWord_yes k hk1 hk x y hx0 hx1 hy0 hy1 w1 hT1 hg
    have gD := sMulWord_yes k hk1 hk x y hx0 hx1 hy0 hy1 w1 hg
    have gE := iGoodWord_any k x w1 hT1
    have gF := sGoodWord_any k x hx0 hx1 w1
    rw [hgx] at gE gF
    have gG := iSubWord_yes k hk1 hk (cut k (IntKind.u64.wrap (x + y))) y (cl _) (ch _) hy0 hy1 w1 hT1 (by rw [gd, hgy]; rfl)
    rw [ring_back k hk x y hx0 hx] at gG
    have gH := iFlipWord_yes k hk x hx0 hx w1 hT1 hgx
    have gI := iAddWord_yes k hk1 hk x (pw k - 1 - x) hx0 hx1 (by omega) (by omega) w1 hT1 (by rw [hgx, good_of k hk1 hk _ (by omega)]; rfl)
    rw [ring_flip k hk x] at gI
    have gZ := sCutTo_yes k hk1 hk 18446744073709551615 (by omega) (by omega) w1
    rw [cut_ones k hk] at gZ
    have gJ := fun z h0 h1 => iCutTo_yes k hk1 hk z h0 h1 w1 hT1
    have gK := fun z => iMulWord_yes k hk1 hk x (cut k z) hx0 hx1 (cl _) (ch _) w1 hT1 (by rw [gd, hgx]; rfl)
    have gL := fun z => iMulWord_yes k hk1 hk y (cut k z) hy0 hy1 (cl _) (ch _) w1 hT1 (by rw [gd, hgy]; rfl)
    have gM := fun z => iMulWord_yes k hk1 hk (cut k (IntKind.u64.wrap (x + y))) (cut k z) (cl _) (ch _) (cl _) (ch _) w1 hT1 (by rw [gd, gd]; rfl)
    have gN := fun z => iAddWord_yes k hk1 hk (cut k (IntKind.u64.wrap (x * cut k z))) (cut k (IntKind.u64.wrap (y * cut k z))) (cl _) (ch _) (cl _) (ch _) w1 hT1 (by rw [gd, gd]; rfl)
    have hdist := fun z => ring_dist k hk x y (cut k z)
    simp only [hdist] at gM
    clear hdist hg hgx hgy gd cl ch hT1 hx hy hp hl
    generalize cut k (IntKind.u64.wrap (x + y)) = S at *
    generalize cut k (IntKind.u64.wrap (x * y)) = T at *
    go_wp2_with fail
    refine gA.mono ?_
    rintro e w2 ⟨rfl, rfl⟩
    clear gA
    go_wp2_with fail
    refine gB.mono ?_
    rintro e w2 ⟨rfl, rfl⟩
    clear gB
    go_wp2_with fail
    refine gC.mono ?_
    rintro e w2 ⟨rfl, rfl⟩
    clear gC
    go_wp2_with fail
    refine gD.mono ?_
    rintro e w2 ⟨rfl, rfl⟩
    clear gD
    go_wp2_with fail
    refine gE.mono ?_
    rintro e w2 ⟨rfl, rfl⟩
    clear gE
    go_wp2_with fail
    refine gF.mono ?_
    rintro e w2 ⟨rfl, rfl⟩
    clear gF
    go_wp2_with fail
    refine gG.mono ?_
    rintro e w2 ⟨rfl, rfl⟩
    clear gG
    go_wp2_with fail
    refine gH.mono ?_
    rintro e w2 ⟨rfl, rfl⟩
    clear gH
    go_wp2_with fail
    refine gI.mono ?_
    rintro e w2 ⟨rfl, rfl⟩
    clear gI
    go_wp2_with fail
    refine gn.mono ?_
    rintro e w2 ⟨n, ⟨hn0, hn1⟩, rfl, rfl⟩
    clear gn
    replace gJ := gJ n hn0 (by omega)
    replace gK := gK n
    replace gL := gL n
    replace gM := gM n
    replace gN := gN n
    generalize cut k n = c at *
    generalize cut k (IntKind.u64.wrap (x * c)) = U at *
    generalize cut k (IntKind.u64.wrap (y * c)) = V at *
    generalize cut k (IntKind.u64.wrap (U + V)) = R at *
    go_wp2_with fail
    refine gJ.mono ?_
    rintro e w2 ⟨rfl, rfl⟩
    clear gJ
    go_wp2_with fail
    refine gK.mono ?_
    rintro e w2 ⟨rfl, rfl⟩
    clear gK
    go_wp2_with fail
    refine gL.mono ?_
    rintro e w2 ⟨rfl, rfl⟩
    clear gL
    go_wp2_with fail
    refine gM.mono ?_
    rintro e w2 ⟨rfl, rfl⟩
    clear gM
    go_wp2_with fail
    refine gN.mono ?_
    rintro e w2 ⟨rfl, rfl⟩
    clear gN
    go_wp2_with fail
    refine gZ.mono ?_
    rintro e w2 ⟨rfl, rfl⟩
    clear gZ
    go_wp2_with fail
    go_ret
    exact ⟨rfl, HB.out⟩
theorem ring_walk (a0 a1 : Option Addr) (l0 c0 l1 c1 : Nat) (h0 : l0 ≤ 9223372036854775807) (h1 : l1 ≤ 9223372036854775807) (w : World) (hT : Tab w) (hz : 0 < w.heap.size)
    (hc0 : CodeOk w.heap.size w (.slice a0 l0 c0)) (hc1 : CodeOk w.heap.size w (.slice a1 l1 c1)) :
    Calls Tryd.prog 3 #[.slice a0 l0 c0, .slice a1 l1 c1] w fun e w' => e = .returned (.bool true) ∧ Below w.heap.size w w' := by
  by_cases h : 1048576 < l0 + l1
  · exact ring_big a0 a1 l0 c0 l1 c1 h0 h1 h w
  · exact ring_small a0 a1 l0 c0 l1 c1 h0 h1 (by omega) w hT hz hc0 hc1
end Go.Proofs.YthfbkegcbajkhaaDoor
