/-
  The walk of the exact law of TokensOf.
-/
import Derived.Test.YtkfplichekebdaaDoorIToks
import Derived.Test.YtkfplichekebdaaDoorTokS2
namespace Go.Proofs.YtkfplichekebdaaDoor
open Go Go.RowKit
open M
set_option linter.unusedVariables false

set_option maxRecDepth 100000 in
set_option maxHeartbeats 4000000 in
theorem tokensOf_small (s : Tx) (hl : s.length ≤ 1048576) (R0 : List M.Tok) (r1 : Int) (r2 : Bool) (hR : R0.length ≤ 1000000) (w : World) (GS : Hid (∀ w1 : World, Below w.heap.size w w1 → Calls Tryd.prog 13 #[tx s] w1 fun e w' => ∃ v, e = .returned (.tuple #[v, .int .i64 r1, .bool r2]) ∧ OwnToks w' w1.heap.size v R0 ∧ Below w1.heap.size w1 w')) (GI : Hid (∀ w1 : World, Below w.heap.size w w1 → Calls Tryd.prog 14 #[tx s] w1 fun e w' => ∃ v, e = .returned (.tuple #[v, .int .i64 r1, .bool r2]) ∧ OwnToks w' w1.heap.size v R0 ∧ Below w1.heap.size w1 w')) :
    Calls Tryd.prog 5 #[tx s] w fun e w' => e = .returned (.bool true) ∧ Below w.heap.size w w' := by
  have HR : Hid (∀ (w1 : World) (B : Nat) (v1 : Value), OwnToks w1 B v1 R0 → ToksAt w1 v1 R0) := fun w1 B v1 ho => toks_of_own (by omega) ho
  have g1 := GS.out w (Below.refl _ _)
  go_enter Tryd.func5, Tryd.ntmps5
  go_wp2_with fail
  refine g1.mono ?_
  rintro e w1 ⟨u0, rfl, hou, hb1⟩
  clear g1 GS
  have HU : Hid (∀ w_ : World, Below w1.heap.size w1 w_ → ToksAt w_ u0 R0) := fun w_ hb => (HR.out _ _ _ hou).below hb
  clear hou
  have g2 := GI.out w1 hb1
  go_wp2_with fail
  refine g2.mono ?_
  rintro e w2 ⟨y0, rfl, hoy, hA2⟩
  clear g2
  have hB2 : Below w.heap.size w w2 := hb1.trans (hA2.mono hb1.size)
  have hw01 := hb1.size
  clear hb1
  have hblk := fun k hk => own_block hoy (k := k) hk
  have g3 := eqTokenS_same y0 u0 R0 _ (HR.out _ _ _ hoy) (HU.out _ hA2)
  go_wp2_with fail
  refine g3.mono ?_
  rintro e w3 ⟨rfl, hstep⟩
  clear g3
  have hA3 := hA2.trans (hstep.mono hA2.size)
  have hB3 := hB2.trans (hstep.mono hB2.size)
  have hoy3 := owns_below hoy hstep
  clear hA2 hB2 hoy hstep
  have g4 := markTokenS_any y0 _ R0.length _ _ (by omega) _ hoy3
  go_wp2_with fail
  refine g4.mono ?_
  rintro e w4 ⟨rfl, ho4, hgr⟩
  clear g4 hoy3
  have hA4 := Below.grown hA3 hgr hA3.size (fun k hk => (hblk k hk).1)
  have hsz0 := hB3.size
  have hB4 := Below.grown hB3 hgr hB3.size (fun k hk => Nat.le_trans hw01 (hblk k hk).1)
  clear hA3 hB3 hgr hsz0
  have gh4 := heldTokenS_any y0 _ R0.length _ (by omega) _ ho4
  go_wp2_with fail
  refine gh4.mono ?_
  rintro e w5 ⟨rfl, hstep⟩
  clear gh4
  have hA5 := hA4.trans (hstep.mono hA4.size)
  have hB5 := hB4.trans (hstep.mono hB4.size)
  have ho5 := owns_below ho4 hstep
  clear hA4 hB4 ho4 hstep
  have g6 := GI.out _ hB5
  go_wp2_with fail
  refine g6.mono ?_
  rintro e w6 ⟨h0, rfl, hoh, hstep⟩
  clear g6
  have hA6 := hA5.trans (hstep.mono hA5.size)
  have hB6 := hB5.trans (hstep.mono hB5.size)
  have ho6 := owns_below ho5 hstep
  clear hA5 hB5 ho5 hstep
  have g7 := eqTokenS_same h0 u0 R0 _ (HR.out _ _ _ hoh) (HU.out _ hA6)
  go_wp2_with fail
  refine g7.mono ?_
  rintro e w7 ⟨rfl, hstep⟩
  clear g7 hoh
  have hA7 := hA6.trans (hstep.mono hA6.size)
  have hB7 := hB6.trans (hstep.mono hB6.size)
  have ho7 := owns_below ho6 hstep
  clear hA6 hB6 ho6 hstep
  have gh7 := heldTokenS_any y0 _ R0.length _ (by omega) _ ho7
  go_wp2_with fail
  refine gh7.mono ?_
  rintro e w8 ⟨rfl, hstep⟩
  clear gh7
  have hA8 := hA7.trans (hstep.mono hA7.size)
  have hB8 := hB7.trans (hstep.mono hB7.size)
  have ho8 := owns_below ho7 hstep
  clear hA7 hB7 ho7 hstep
  have HB : Hid (Below w.heap.size w _) := hB8
  clear hA8 hB8 ho8 hblk
  go_wp2_with fail
  go_ret
  exact ⟨rfl, HB.out⟩
theorem tokensOf_big (s : Tx) (hb : 1048576 < s.length) (hl : s.length ≤ 9223372036854775807) (w : World) : Calls Tryd.prog 5 #[tx s] w fun e w' => e = .returned (.bool true) ∧ Below w.heap.size w w' := by
  go_enter Tryd.func5, Tryd.ntmps5
  go_wp2_with fail
  go_ret
  exact ⟨rfl, Below.refl _ _⟩
theorem toksL_many : ∀ (f p : Nat) (s : Tx) (l : List M.Tok), toksL f p s = .ok l → l.length ≤ s.length
  | 0, _, _, l, h => by
    simp only [toksL, Except.ok.injEq] at h
    subst h
    simp
  | _ + 1, _, [], l, h => by
    simp only [toksL, Except.ok.injEq] at h
    subst h
    simp
  | f + 1, p, c :: r, l, h => by
    simp only [toksL] at h
    split at h
    · have := toksL_many f _ _ _ h
      simp only [List.length_cons]
      omega
    · split at h
      · cases h
      · rename_i h0
        split at h
        · cases h
        · rename_i l' e
          simp only [Except.ok.injEq] at h
          subst h
          have := toksL_many f _ _ _ e
          simp only [List.length_drop, List.length_cons] at *
          omega
theorem tokL_len (s : Tx) : (tokL s).length ≤ 800 := by
  unfold tokL
  split
  · split
    · rename_i l e
      have := toksL_many _ _ _ _ e
      omega
    · simp
  · simp
theorem tokensOf_law (s : Tx) (hl : s.length ≤ 9223372036854775807) (w : World) (hS : Signs w) : Calls Tryd.prog 5 #[tx s] w fun e w' => e = .returned (.bool true) ∧ Below w.heap.size w w' := by
  by_cases hb : 1048576 < s.length
  · exact tokensOf_big s hb hl w
  · have hR := tokL_len s
    refine tokensOf_small s (by omega) (tokL s) (tokP s : Int) (tokB s) (by omega) w ?_ ?_
    · intro w1 hb1
      by_cases h8 : s.length ≤ 800
      · exact sTokensOf_in s h8 w1
      · have e1 : tokL s = [] := by unfold tokL; rw [if_neg h8]
        have e2 : tokP s = 0 := by unfold tokP; rw [if_neg h8]
        have e3 : tokB s = false := by unfold tokB; rw [if_neg h8]
        rw [e1, e2, e3]
        refine (sTokensOf_long s (by omega) hl w1).mono ?_
        rintro e w' ⟨he, rfl⟩
        exact ⟨_, he, World.ownsRow_nil _ _ _ _, Below.refl _ _⟩
    · intro w1 hb1
      by_cases h8 : s.length ≤ 800
      · exact iTokensOf_in s h8 w1 (hS.below hb1)
      · have e1 : tokL s = [] := by unfold tokL; rw [if_neg h8]
        have e2 : tokP s = 0 := by unfold tokP; rw [if_neg h8]
        have e3 : tokB s = false := by unfold tokB; rw [if_neg h8]
        rw [e1, e2, e3]
        refine (iTokensOf_long s (by omega) hl w1).mono ?_
        rintro e w' ⟨he, rfl⟩
        exact ⟨_, he, World.ownsRow_nil _ _ _ _, Below.refl _ _⟩
end Go.Proofs.YtkfplichekebdaaDoor
