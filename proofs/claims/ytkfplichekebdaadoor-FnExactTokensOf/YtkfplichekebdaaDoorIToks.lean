/-
  Tokens of a text: the program's tokenSize and TokensOf.
-/
import Derived.Test.YtkfplichekebdaaDoorSizeM
import Derived.Test.YtkfplichekebdaaDoorToks
import Derived.WalkMore
namespace Go.Proofs.YtkfplichekebdaaDoor
open Go Go.RowKit
open M
set_option linter.unusedVariables false

theorem clone_any (s : Tx) (hl : s.length ≤ 1048576) (w : World) : Calls Tryd.prog 35 #[tx s] w fun e w' => e = .returned (tx s) ∧ Below w.heap.size w w' := by
  have g : Calls Tryd.prog 63 #[tx s] w fun e w' => e = .returned (tx s) ∧ Below w.heap.size w w' := Any.stringslite_Clone Tryd.laysM316 ⟨s.toArray⟩ w (by rw [tx_size]; omega)
  go_enter Tryd.func35, Tryd.ntmps35
  go_wp2_with fail
  refine g.mono ?_
  rintro e w' ⟨rfl, hb⟩
  have HB : Hid _ := hb
  clear g hb
  go_wp2_with fail
  go_ret
  exact ⟨rfl, HB.out⟩
theorem run_max4 (a b c d : Nat) (ts : Array TypeId) (t : TypeId) (w : World) : (Builtin.max_ ts t #[.int .i64 (a : Int), .int .i64 (b : Int), .int .i64 (c : Int), .int .i64 (d : Int)]).run Tryd.prog w = .ok (.int .i64 ((max (max (max a b) c) d : Nat) : Int)) w := by
  simp [Builtin.max_, Builtin.max2]
  repeat' split
  all_goals omega
set_option maxHeartbeats 6400000 in
set_option maxRecDepth 1000000 in
theorem tokenSize_any (s : Tx) (hl : s.length ≤ 1048576) (w : World) (hS : Signs w) : Calls Tryd.prog 34 #[tx s] w fun e w' => e = .returned (.int .i64 (longL s : Int)) ∧ Below w.heap.size w w' := by
  have g1 := digitsSize_any s hl w
  have G2 : Hid (∀ w1 : World, Calls Tryd.prog 60 #[tx s] w1 fun e w' => e = .returned (.int .i64 ((s.takeWhile isLet).length : Int)) ∧ Below w1.heap.size w1 w') := fun w1 => lettersSize_any s hl w1
  have G3 : Hid (∀ w1 : World, Below w.heap.size w w1 → Calls Tryd.prog 61 #[tx s] w1 fun e w' => e = .returned (.int .i64 (signMax s 21 : Int)) ∧ w' = w1) := fun w1 hb => signSize_any s w1 (hS.below hb)
  have G4 : Hid (∀ w1 : World, Calls Tryd.prog 62 #[tx s] w1 fun e w' => e = .returned (.int .i64 (brack s : Int)) ∧ w' = w1) := fun w1 => by
    have h := bracketSize_any s w1
    rw [show (if [40].isPrefixOf s || [41].isPrefixOf s then (1 : Int) else 0) = (brack s : Int) from by unfold brack; split <;> rfl] at h
    exact h
  have HM : Hid (longL s = max (max (max (s.takeWhile isDig).length (s.takeWhile isLet).length) (signMax s 21)) (brack s)) := longL_sorts s
  generalize longL s = M at *
  clear hS
  generalize (s.takeWhile isDig).length = a at *
  generalize (s.takeWhile isLet).length = b at *
  generalize signMax s 21 = c at *
  generalize brack s = d at *
  go_enter Tryd.func34, Tryd.ntmps34
  go_wp2_with fail
  refine g1.mono ?_
  rintro e w1 ⟨rfl, hb1⟩
  have g2 := G2.out w1
  have HB1 : Hid _ := hb1
  clear g1 hb1 G2
  go_wp2_with fail
  refine g2.mono ?_
  rintro e w2 ⟨rfl, hb2⟩
  have HB2 : Hid (Below w.heap.size w w2) := HB1.out.trans (hb2.mono HB1.out.size)
  have g3 := G3.out w2 HB2.out
  clear g2 hb2 G3
  go_wp2_with fail
  refine g3.mono ?_
  rintro e w3 ⟨rfl, rfl⟩
  have g4 := G4.out w3
  clear g3 G4
  go_wp2_with fail
  refine g4.mono ?_
  rintro e w4 ⟨rfl, rfl⟩
  clear g4
  have hmx := fun W : World => run_max4 a b c d #[3, 3, 3, 3] 3 W
  rw [← HM.out] at hmx
  go_wp2_with fail
  go_ret
  exact ⟨rfl, HB2.out⟩
theorem iTokensOf_long (s : Tx) (h : 800 < s.length) (hl : s.length ≤ 9223372036854775807) (w : World) : Calls Tryd.prog 14 #[tx s] w fun e w' => e = .returned (.tuple #[.slice none 0 0, .int .i64 0, .bool false]) ∧ w' = w := by
  go_enter Tryd.func14, Tryd.ntmps14
  go_wp2_with fail
  go_step3
  go_wp2_with fail
  (try rw [Exit.noGoto_ret])
  go_ret3
  exact ⟨rfl, rfl⟩
set_option maxRecDepth 100000 in
set_option maxHeartbeats 4000000 in
theorem iTokensOf_in (s : Tx) (h : s.length ≤ 800) (w : World) (hS : Signs w) : Calls Tryd.prog 14 #[tx s] w fun e w' => ∃ v, e = .returned (.tuple #[v, .int .i64 (tokP s : Int), .bool (tokB s)]) ∧ OwnToks w' w.heap.size v (tokL s) ∧ Below w.heap.size w w' := by
  have HOK : Hid (∀ l, tokens s = .ok l → tokL s = l ∧ tokP s = 0 ∧ tokB s = true) := fun l e => by
    unfold tokL tokP tokB
    rw [if_pos h, if_pos h, if_pos h, e]
    exact ⟨rfl, rfl, rfl⟩
  have HER : Hid (∀ p, tokens s = .error p → tokL s = [] ∧ tokP s = p ∧ tokB s = false) := fun p e => by
    unfold tokL tokP tokB
    rw [if_pos h, if_pos h, if_pos h, e]
    exact ⟨rfl, rfl, rfl⟩
  have GT : Hid (∀ (l : Tx) (w1 : World), l.length ≤ 800 → Below w.heap.size w w1 → Calls Tryd.prog 34 #[tx l] w1 fun e w' => e = .returned (.int .i64 (longL l : Int)) ∧ Below w1.heap.size w1 w') := fun l w1 hl hb => tokenSize_any l (by omega) w1 (hS.below hb)
  clear hS
  generalize tokL s = TL at *
  generalize tokP s = TP at *
  generalize tokB s = TB at *
  obtain ⟨i0, hi, hz0, hz1, hz2⟩ := info_parts infoTok
  go_enter Tryd.func14, Tryd.ntmps14
  go_wp2_with fail
  go_step3
  go_wp2_with fail
  go_step3
  go_wp2_with fail
  go_loopw [5, 6] (fun v a wr => ∃ (p : Nat) (l : List M.Tok), p ≤ s.length ∧ a = .int .i64 p ∧ l.length ≤ p ∧ Hid (OwnToks wr w.heap.size v l) ∧ Hid (tokens s = appT l (toks p (s.drop p))) ∧ Hid (Below w.heap.size w wr)) (fun _ a _ => s.length - (intOf a).toNat)
  case atStart => exact ⟨0, [], by omega, rfl, by simp, World.ownsRow_nil _ _ _ _, (by rw [appT_nil]; rfl : tokens s = appT [] (toks 0 (s.drop 0))), Below.refl _ _⟩
  case round =>
    obtain ⟨p, l, hp, rfl, hlp, HO, HT, HB⟩ := hrel
    by_cases hlt' : p < s.length
    · obtain ⟨c, hcj⟩ : ∃ c, s[p]? = some c := ⟨s[p], List.getElem?_eq_getElem hlt'⟩
      have he := tx_at hcj (by rw [tx_size]; exact hlt')
      have HD : Hid (s.drop p = c :: s.drop (p + 1)) := by
        show s.drop p = c :: s.drop (p + 1)
        rw [List.drop_eq_getElem_cons hlt', (List.getElem?_eq_some_iff.1 hcj).2]
      clear hcj
      have hx : (ByteArray.mk s.toArray).extract p s.length = ⟨(s.drop p).toArray⟩ := by
        rw [tx_slice, List.take_of_length_le (by simp)]
      have g := GT.out (s.drop p) wr (by simp; omega) HB.out
      have hle := longL_le (s.drop p)
      rw [List.length_drop] at hle
      by_cases hc : c = 32
      · have HT2 : Hid (tokens s = appT l (toks (p + 1) (s.drop (p + 1)))) := by
          have h1 := HT.out
          rw [HD.out, hc, toks_blank] at h1
          exact h1
        subst hc
        clear HD HT
        generalize longL (s.drop p) = L at *
        go_wp2_with fail
        refine g.mono ?_
        rintro e w2 ⟨rfl, hb⟩
        have HB2 : Hid (Below w.heap.size w w2) := HB.out.trans (hb.mono HB.out.size)
        have HO2 : Hid (OwnToks w2 w.heap.size u5 l) := owns_below HO.out hb
        clear g hb
        go_wp2_with fail
        go_roundw
        case rel => exact ⟨p + 1, l, by omega, by go_num, by omega, HO2, HT2, HB2⟩
        case measure => simp [intOf]; omega
      · have n32 : ¬ (c.toNat : Int) = 32 := fun h => hc (byte_of (n := 32) (by omega))
        have d32 : ((c.toNat : Int) == 32) = false := beq_eq_false_iff_ne.2 n32
        by_cases h0 : longL (s.drop p) = 0
        · have HE := HER.out p (by
            have h1 := HT.out
            have h2 := h0
            rw [HD.out] at h1 h2
            rw [toks_bad hc h2] at h1
            exact h1)
          obtain ⟨rfl, rfl, rfl⟩ := HE
          rw [h0] at g
          clear hc n32 HD HT h0 hle
          go_wp2_with fail
          refine g.mono ?_
          rintro e w2 ⟨rfl, hb⟩
          have HB2 : Hid (Below w.heap.size w w2) := HB.out.trans (hb.mono HB.out.size)
          clear g hb
          go_wp2_with fail
          (try rw [Exit.noGoto_ret])
          go_ret3
          exact ⟨_, rfl, World.ownsRow_nil _ _ _ _, HB2.out⟩
        · have HT2 : Hid (tokens s = appT (l ++ [(p, (s.drop p).take (longL (s.drop p)))]) (toks (p + longL (s.drop p)) (s.drop (p + longL (s.drop p))))) := by
            have h1 := HT.out
            have h2 := h0
            rw [HD.out] at h2
            rw [HD.out, toks_one hc h2, appT_app, ← HD.out, List.drop_drop] at h1
            exact h1
          generalize hL : longL (s.drop p) = L at *
          have HLL : Hid _ := hL
          clear hL
          have hL0 : (0 : Int) < L := by omega
          have nL : ((L : Int) == 0) = false := beq_eq_false_iff_ne.2 (by omega)
          have hsl := fun W : World => slice_tx s p L ((p : Int) + L) rfl (by omega) W
          have hlT : ((s.drop p).take L).length = L := by rw [List.length_take, List.length_drop]; omega
          have GC : Hid (∀ w1 : World, Calls Tryd.prog 35 #[tx ((s.drop p).take L)] w1 fun e w' => e = .returned (tx ((s.drop p).take L)) ∧ Below w1.heap.size w1 w') := fun w1 => clone_any _ (by omega) w1
          clear hc n32 HD HT h0 hlT
          generalize (s.drop p).take L = tk at *
          go_wp2_with fail
          refine g.mono ?_
          rintro e w2 ⟨rfl, hb⟩
          have HB2 : Hid (Below w.heap.size w w2) := HB.out.trans (hb.mono HB.out.size)
          have HO2 : Hid (OwnToks w2 w.heap.size u5 l) := owns_below HO.out hb
          clear g hb
          have gc := GC.out w2
          go_wp2_with fail
          refine gc.mono ?_
          rintro e w3 ⟨rfl, hb3⟩
          have HB3 : Hid (Below w.heap.size w w3) := HB2.out.trans (hb3.mono HB2.out.size)
          have HO3 : Hid (OwnToks w3 w.heap.size u5 l) := owns_below HO2.out hb3
          clear gc hb3 GC
          have HBY : Hid (Below w.heap.size w (w3.alloc (.cells #[.int .i64 (p : Int), tx tk] 55))) := HB3.out.alloc HB3.out.size _
          have HSA : Hid (w.heap.size ≤ (w3.alloc (.cells #[.int .i64 (p : Int), tx tk] 55)).heap.size) := HBY.out.size
          have own2 : (w3.alloc (.cells #[.int .i64 (p : Int), tx tk] 55)).ownsRow w.heap.size 55 2 u5 l.length (flatK l) := owns_below HO3.out ((Below.refl _ _).alloc (Nat.le_refl _) _)
          have cellsA := tok_cells w3 p tk
          go_wp2_with (at_builtin; refine wpList_append_own _ rfl _ _ 28 rfl w.heap.size 55 i0 (.agg #[.int .i64 0, .string ⟨#[]⟩]) 2 24 Tryd.underlying28 hi hz0 hz1 hz2 rfl (by decide) _ _ _ rfl own2 ⟨w3.heap.size, 0, none⟩ 1 1 [.int .i64 (p : Int), tx tk] rfl rfl cellsA (tok_one p tk) (by unfold maxLen; omega) (by omega) HSA.out ?_)
          intro vb wb ownb growb _
          have HOB : Hid (OwnToks wb w.heap.size vb (l ++ [(p, tk)])) := by
            show wb.ownsRow w.heap.size 55 2 vb (l ++ [(p, tk)]).length (flatK (l ++ [(p, tk)]))
            rw [List.length_append, List.length_singleton, flatK_append]
            exact ownb
          have HBB : Hid (Below w.heap.size w wb) := Below.grown HBY.out growb HSA.out (fun k hk => (own_block own2 hk).1)
          clear own2 ownb growb cellsA
          go_wp2_with fail
          go_roundw
          case rel => exact ⟨p + L, _, by omega, by go_num, by simp; omega, HOB, HT2, HBB⟩
          case measure => simp [intOf]; omega
    · obtain rfl : p = s.length := by omega
      have HE := HOK.out l (by
        have h1 := HT.out
        rw [List.drop_length] at h1
        rw [toks_end] at h1
        simpa [appT] using h1)
      obtain ⟨rfl, rfl, rfl⟩ := HE
      clear HT
      go_wp2_with fail
      (try rw [Exit.noGoto_ret])
      go_ret3
      exact ⟨_, rfl, HO.out, HB.out⟩
end Go.Proofs.YtkfplichekebdaaDoor
