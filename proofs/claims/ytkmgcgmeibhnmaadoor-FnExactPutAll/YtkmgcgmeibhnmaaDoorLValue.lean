/-
  The walk of the exact law of ValueOf, out of what the program's own function does.
-/
import Derived.Test.YtkmgcgmeibhnmaaDoorLGood
import Derived.Test.YtkmgcgmeibhnmaaDoorU64
namespace Go.Proofs.YtkmgcgmeibhnmaaDoor
open Go Go.RowKit
open M
set_option linter.unusedVariables false

/-- what the program's ValueOf is to do -/
def DoesValueOf : Prop := ∀ (wide : Int) (v sv : Value) (t : List Nd) (st : List Int) (w : World), Tab w → NodesAt w v t → t.length ≤ 1048576 → StAt w sv st → StOk st →
  Calls Tryd.prog 23 #[.int .i64 wide, v, sv] w fun e w' => e = .returned (.tuple #[.int .u64 (valueL wide t st), .bool (saidV wide t st)]) ∧ Below w.heap.size w w'
set_option maxRecDepth 100000 in
set_option maxHeartbeats 2000000 in
theorem valueOf_law (hI : DoesValueOf) (wide : Int) (v : Value) (t : List Nd) (sa : Option Addr) (sl sc : Nat) (st : List Int) (hsl : st.length = sl) (hs0 : sl ≤ 9223372036854775807) (hsb : ∀ s ∈ st, 0 ≤ s ∧ s ≤ 18446744073709551615) (w : World) (hT : Tab w) (h : NodesAt w v t) (hs : StAt w (.slice sa sl sc) st) :
    Calls Tryd.prog 8 #[.int .i64 wide, v, .slice sa sl sc] w fun e w' => e = .returned (.bool true) ∧ Below w.heap.size w w' := by
  have hlen := h.2.1
  by_cases hbig : 1048576 < sl
  · clear h hs hT hI hsb
    go_enter Tryd.func8, Tryd.ntmps8
    go_wp2_with fail
    go_ret
    exact ⟨rfl, Below.refl _ _⟩
  by_cases hl : t.length ≤ 1048576
  · have g0 : Calls Tryd.prog 41 #[v, .int .i64 1048576] w fun e w' => e = .returned (.int .i64 (1048576 - (t.length : Int))) ∧ w' = w := by
      obtain ⟨a, cap, rfl⟩ := h.shape
      have g := szNodeS_any a t.length cap 1048576 hlen (by omega) (by omega) w
      rw [if_neg (by omega)] at g
      exact g
    have hok : StOk st := ⟨by omega, hsb⟩
    have GT : Hid (∀ w1 : World, Below w.heap.size w w1 → Calls Tryd.prog 42 #[v] w1 fun e w' => ∃ v', e = .returned v' ∧ w'.ownsRow w1.heap.size 91 2 v' t.length (flat t) ∧ Below w1.heap.size w1 w') := fun w1 hb => toNodeS_any v t hl w1 (h.below hb)
    have GU : Hid (∀ w1 : World, Below w.heap.size w w1 → Calls Tryd.prog 45 #[.slice sa sl sc] w1 fun e w' => ∃ v', e = .returned v' ∧ w'.ownsRow w1.heap.size 33 1 v' st.length (cellsU st) ∧ Below w1.heap.size w1 w') := fun w1 hb => toUint64S_any _ st (by omega) w1 (hs.below hb)
    have GS : Hid (∀ (v1 s1 : Value) (w1 : World), NodesAt w1 v1 t → StAt w1 s1 st → Calls Tryd.prog 25 #[.int .i64 wide, v1, s1] w1 fun e w' => e = .returned (.tuple #[.int .u64 (valueL wide t st), .bool (saidV wide t st)]) ∧ Below w1.heap.size w1 w') := fun v1 s1 w1 hN hS => valueOf_any wide v1 s1 t st hok w1 hN hS
    have GI : Hid (∀ (v1 s1 : Value) (w1 : World), Below w.heap.size w w1 → NodesAt w1 v1 t → StAt w1 s1 st → Calls Tryd.prog 23 #[.int .i64 wide, v1, s1] w1 fun e w' => e = .returned (.tuple #[.int .u64 (valueL wide t st), .bool (saidV wide t st)]) ∧ Below w1.heap.size w1 w') := fun v1 s1 w1 hb hN hS => hI wide v1 s1 t st w1 (hT.below hb hT.some) hN hl hS hok
    have HN : Hid (∀ (w1 : World) (B : Nat) (v1 : Value), w1.ownsRow B 91 2 v1 t.length (flat t) → NodesAt w1 v1 t) := fun w1 B v1 ho => nodes_of_own h.1 hlen ho
    have hsl2 : st.length ≤ 9223372036854775807 := by omega
    clear hI hT h hs hok hsb
    generalize valueL wide t st = z at *
    generalize saidV wide t st = y at *
    go_enter Tryd.func8, Tryd.ntmps8
    go_wp2_with fail
    refine g0.mono ?_
    rintro e w' ⟨rfl, rfl⟩
    clear g0
    have g1 := GT.out w' (Below.refl _ _)
    go_wp2_with fail
    refine g1.mono ?_
    rintro e w1 ⟨v1, rfl, ho1, hb1⟩
    clear g1
    have hn1 := HN.out _ _ _ ho1
    have g2 := GU.out w1 hb1
    clear ho1
    go_wp2_with fail
    refine g2.mono ?_
    rintro e w2 ⟨s2, rfl, ho2, hb2'⟩
    have hn2 := hn1.below hb2'
    have hs2 := st_of_own ho2
    have hb2 := Below.step hb1 hb1.size hb2'
    clear g2 hb1 hb2' hn1 ho2
    have g3 := GS.out v1 s2 w2 hn2 hs2
    clear hn2 hs2
    go_wp2_with fail
    refine g3.mono ?_
    rintro e w3 ⟨rfl, hb3'⟩
    have hb3 := Below.step hb2 hb2.size hb3'
    clear g3 hb2 hb3'
    have g4 := GT.out w3 hb3
    go_wp2_with fail
    refine g4.mono ?_
    rintro e w4 ⟨v4, rfl, ho4, hb4'⟩
    have hn4 := HN.out _ _ _ ho4
    have hb4 := Below.step hb3 hb3.size hb4'
    clear g4 hb3 hb4' ho4
    have g5 := GU.out w4 hb4
    go_wp2_with fail
    refine g5.mono ?_
    rintro e w5 ⟨s5, rfl, ho5, hb5'⟩
    have hn5 := hn4.below hb5'
    have hs5 := st_of_own ho5
    have hb5 := Below.step hb4 hb4.size hb5'
    clear g5 hb4 hb5' hn4 ho5
    have g6 := GI.out v4 s5 w5 hb5 hn5 hs5
    go_wp2_with fail
    refine g6.mono ?_
    rintro e w6 ⟨rfl, hb6'⟩
    have hn6 := hn5.below hb6'
    have hs6 := hs5.below hb6'
    have hb6 := Below.step hb5 hb5.size hb6'
    clear g6 hb5 hb6' hn5 hs5
    have g7 := GT.out w6 hb6
    go_wp2_with fail
    refine g7.mono ?_
    rintro e w7 ⟨v7, rfl, ho7, hb7'⟩
    have hn7 := hn6.below hb7'
    have hs7 := hs6.below hb7'
    have hb7 := Below.step hb6 hb6.size hb7'
    clear g7 hb6 hb7' hn6 hs6
    have g8 := eqNodeS_any v4 v7 t t w7 hn7 (HN.out _ _ _ ho7)
    rw [decide_eq_true rfl] at g8
    clear ho7 hn7
    go_wp2_with fail
    refine g8.mono ?_
    rintro e w8 ⟨rfl, hb8'⟩
    have hs8 := hs7.below hb8'
    have hb8 := Below.step hb7 hb7.size hb8'
    clear g8 hb7 hb8' hs7
    have g9 := GU.out w8 hb8
    go_wp2_with fail
    refine g9.mono ?_
    rintro e w9 ⟨s9, rfl, ho9, hb9'⟩
    have hs9 := hs8.below hb9'
    have hb9 := Below.step hb8 hb8.size hb9'
    clear g9 hb8 hb9' hs8
    have g10 := eqUint64S_any s5 s9 st st w9 hsl2 hsl2 hs9 (st_of_own ho9)
    rw [decide_eq_true rfl] at g10
    clear ho9 hs9
    go_wp2_with fail
    refine g10.mono ?_
    rintro e w10 ⟨rfl, hb10'⟩
    have HB : Hid (Below w'.heap.size w' w10) := Below.step hb9 hb9.size hb10'
    clear g10 hb9 hb10'
    go_wp2_with fail
    go_ret
    exact ⟨rfl, HB.out⟩
  · have g0 : Calls Tryd.prog 41 #[v, .int .i64 1048576] w fun e w' => e = .returned (.int .i64 (-1)) ∧ w' = w := by
      obtain ⟨a, cap, rfl⟩ := h.shape
      have g := szNodeS_any a t.length cap 1048576 hlen (by omega) (by omega) w
      rw [if_pos (by omega)] at g
      exact g
    clear h hT hI hs hsb
    go_enter Tryd.func8, Tryd.ntmps8
    go_wp2_with fail
    refine g0.mono ?_
    rintro e w' ⟨rfl, rfl⟩
    clear g0
    go_wp2_with fail
    go_ret
    exact ⟨rfl, Below.refl _ _⟩
end Go.Proofs.YtkmgcgmeibhnmaaDoor
