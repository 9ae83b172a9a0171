/-
  The walk of the exact law of TurnTerm, out of what the program's own function does.
-/
import Derived.Test.YtkmgcgmeibhnmaaDoorTurn
import Derived.Test.YtkmgcgmeibhnmaaDoorLGood
namespace Go.Proofs.YtkmgcgmeibhnmaaDoor
open Go Go.RowKit
open M
set_option linter.unusedVariables false

/-- what the program's TurnTerm is to do -/
def DoesTurnTerm : Prop := ∀ (wide vars op : Int) (v : Value) (a : List Nd) (w : World), Tab w → NodesAt w v a → a.length ≤ 1048576 → -9223372036854775808 ≤ op → op ≤ 9223372036854775807 →
  Calls Tryd.prog 39 #[.int .i64 wide, .int .i64 vars, .int .i64 op, v] w fun e w' => ∃ v', e = .returned (.tuple #[v', .bool (saidTurn wide vars op a)]) ∧ OwnNodes w' w.heap.size v' (turnL wide vars op a) ∧ Below w.heap.size w w'
theorem own_block {w : World} {B : Nat} {e : TypeId} {s : Nat} {v : Value} {n : Nat} {xs : List Value} (h : w.ownsRow B e s v n xs) {k : Nat} (hk : v.ownBlock = some k) : B ≤ k ∧ k < w.heap.size := by
  rcases h.2 with ⟨rfl, _⟩ | ⟨g, cap, cur, rfl, hg, hh, _⟩
  · cases hk
  · cases hk
    refine ⟨hg, ?_⟩
    by_cases hg' : g < w.heap.size
    · exact hg'
    · rw [Array.getElem?_eq_none (by omega)] at hh
      cases hh
theorem own_other {w w' : World} {B : Nat} {e : TypeId} {s : Nat} {v : Value} {n : Nat} {xs : List Value} {row : Option Nat} (h : w.ownsRow B e s v n xs) (hg : w.grownBy w' row) (hr : ∀ k, row = some k → k < B) : w'.ownsRow B e s v n xs := by
  obtain ⟨h1, h2⟩ := h
  refine ⟨h1, ?_⟩
  rcases h2 with h2 | ⟨g, cap, cur, hv, hB, hh, r⟩
  · exact Or.inl h2
  · have hlt : g < w.heap.size := by
      by_cases hg' : g < w.heap.size
      · exact hg'
      · rw [Array.getElem?_eq_none (by omega)] at hh
        cases hh
    refine Or.inr ⟨g, cap, cur, hv, hB, ?_, r⟩
    rw [hg.block g hlt (fun e => by have := hr g e.symm; omega)]
    exact hh
/-- the same, of nodes that lie in blocks below B -/
def NodesIn (B : Nat) (w : World) (v : Value) (t : List Nd) : Prop := ∀ w' : World, Below B w w' → NodesAt w' v t
theorem NodesAt.inn {w : World} {v : Value} {t : List Nd} (h : NodesAt w v t) : NodesIn w.heap.size w v t := fun w' hb => h.below hb
theorem turnL_ok {wide vars op : Int} {a : List Nd} (hok : ∀ x ∈ a, NdOk x) (ho0 : -9223372036854775808 ≤ op) (ho1 : op ≤ 9223372036854775807) : ∀ x ∈ turnL wide vars op a, NdOk x := by
  intro x hx
  unfold turnL madeL at hx
  split at hx
  · split at hx
    · rcases List.mem_append.1 hx with h | h
      · exact hok x h
      · simp at h
        subst h
        exact ⟨ho0, ho1, by simp, by simp⟩
    · cases hx
  · cases hx
theorem turnL_len (wide vars op : Int) (a : List Nd) : (turnL wide vars op a).length ≤ a.length + 1 := by
  unfold turnL madeL
  split
  · split
    · simp
    · simp
  · simp
set_option maxRecDepth 100000 in
set_option maxHeartbeats 4000000 in
theorem turnTerm_law (hI : DoesTurnTerm) (wide vars op : Int) (ho0 : -9223372036854775808 ≤ op) (ho1 : op ≤ 9223372036854775807) (v : Value) (a : List Nd) (w : World) (hT : Tab w) (h : NodesAt w v a) :
    Calls Tryd.prog 11 #[.int .i64 wide, .int .i64 vars, .int .i64 op, v] w fun e w' => e = .returned (.bool true) ∧ Below w.heap.size w w' := by
  have hlen := h.2.1
  by_cases hl : a.length ≤ 1048576
  · have g0 : Calls Tryd.prog 41 #[v, .int .i64 1048576] w fun e w' => e = .returned (.int .i64 (1048576 - (a.length : Int))) ∧ w' = w := by
      obtain ⟨ad, cap, rfl⟩ := h.shape
      have g := szNodeS_any ad a.length cap 1048576 hlen (by omega) (by omega) w
      rw [if_neg (by omega)] at g
      exact g
    have hrl := turnL_len wide vars op a
    have GT : Hid (∀ w1 : World, Below w.heap.size w w1 → Calls Tryd.prog 42 #[v] w1 fun e w' => ∃ v', e = .returned v' ∧ OwnNodes w' w1.heap.size v' a ∧ Below w1.heap.size w1 w') := fun w1 hb => toNodeS_any v a hl w1 (h.below hb)
    have GS : Hid (∀ (v1 : Value) (w1 : World), NodesAt w1 v1 a → Calls Tryd.prog 40 #[.int .i64 wide, .int .i64 vars, .int .i64 op, v1] w1 fun e w' => ∃ v', e = .returned (.tuple #[v', .bool (saidTurn wide vars op a)]) ∧ OwnNodes w' w1.heap.size v' (turnL wide vars op a) ∧ Below w1.heap.size w1 w') := fun v1 w1 hN => turnTerm_any wide vars op ho0 ho1 v1 a hl w1 hN
    have GI : Hid (∀ (v1 : Value) (w1 : World), Below w.heap.size w w1 → NodesAt w1 v1 a → Calls Tryd.prog 39 #[.int .i64 wide, .int .i64 vars, .int .i64 op, v1] w1 fun e w' => ∃ v', e = .returned (.tuple #[v', .bool (saidTurn wide vars op a)]) ∧ OwnNodes w' w1.heap.size v' (turnL wide vars op a) ∧ Below w1.heap.size w1 w') := fun v1 w1 hb hN => hI wide vars op v1 a w1 (hT.below hb hT.some) hN hl ho0 ho1
    have HNa : Hid (∀ (w1 : World) (B : Nat) (v1 : Value), OwnNodes w1 B v1 a → NodesAt w1 v1 a) := fun w1 B v1 ho => nodes_of_own h.1 hlen ho
    have HNr : Hid (∀ (w1 : World) (B : Nat) (v1 : Value), OwnNodes w1 B v1 (turnL wide vars op a) → NodesAt w1 v1 (turnL wide vars op a)) := fun w1 B v1 ho => nodes_of_own (turnL_ok h.1 ho0 ho1) (by omega) ho
    clear hI hT h
    generalize turnL wide vars op a = r at *
    generalize saidTurn wide vars op a = z at *
    go_enter Tryd.func11, Tryd.ntmps11
    go_wp2_with fail
    refine g0.mono ?_
    rintro e w' ⟨rfl, rfl⟩
    clear g0
    have g1 := GT.out w' (Below.refl _ _)
    go_wp2_with fail
    refine g1.mono ?_
    rintro e w1 ⟨v1, rfl, ho1', hb1⟩
    clear g1
    have g2 := GS.out v1 w1 (HNa.out _ _ _ ho1')
    clear ho1'
    go_wp2_with fail
    refine g2.mono ?_
    rintro e w2 ⟨u, rfl, ho2, hb2'⟩
    have hb2 := Below.step hb1 hb1.size hb2'
    have HU : Hid (NodesIn w2.heap.size w2 u r) := (HNr.out _ _ _ ho2).inn
    clear g2 hb1 hb2' ho2
    -- x3
    have g3 := GT.out w2 hb2
    go_wp2_with fail
    refine g3.mono ?_
    rintro e w3 ⟨x, rfl, hox3, hA3⟩
    have hb3 := Below.step hb2 hb2.size hA3
    have hxb := fun k hk => own_block hox3 (k := k) hk
    clear g3
    -- g0
    have g4 := GI.out x w3 hb3 (HNa.out _ _ _ hox3)
    go_wp2_with fail
    refine g4.mono ?_
    rintro e w4 ⟨y, rfl, hoy4, h34⟩
    have hox4 := owns_below hox3 h34
    have hA4 := Below.step hA3 hA3.size h34
    have hb4 := Below.step hb3 hb3.size h34
    have hyb := fun k hk => own_block hoy4 (k := k) hk
    have hs24 := hA3.size
    have hs34 := h34.size
    clear g4 hox3 hA3 hb3 h34
    -- eq g0 w0
    have g5 := eqNodeS_any y u r r w4 (HNr.out _ _ _ hoy4) (HU.out w4 hA4)
    rw [decide_eq_true rfl] at g5
    go_wp2_with fail
    refine g5.mono ?_
    rintro e w5 ⟨rfl, h45⟩
    have hox5 := owns_below hox4 h45
    have hoy5 := owns_below hoy4 h45
    have hA5 := Below.step hA4 hA4.size h45
    have hb5 := Below.step hb4 hb4.size h45
    clear g5 hox4 hoy4 hA4 hb4 h45
    -- toNodeS, eq x3
    have g6 := GT.out w5 hb5
    go_wp2_with fail
    refine g6.mono ?_
    rintro e w6 ⟨v6, rfl, ho6, h56⟩
    have hox6 := owns_below hox5 h56
    have hoy6 := owns_below hoy5 h56
    have hA6 := Below.step hA5 hA5.size h56
    have hb6 := Below.step hb5 hb5.size h56
    clear g6 hox5 hoy5 hA5 hb5 h56
    have g7 := eqNodeS_any x v6 a a w6 (HNa.out _ _ _ hox6) (HNa.out _ _ _ ho6)
    rw [decide_eq_true rfl] at g7
    clear ho6
    go_wp2_with fail
    refine g7.mono ?_
    rintro e w7 ⟨rfl, h67⟩
    have hox7 := owns_below hox6 h67
    have hoy7 := owns_below hoy6 h67
    have hA7 := Below.step hA6 hA6.size h67
    have hb7 := Below.step hb6 hb6.size h67
    clear g7 hox6 hoy6 hA6 hb6 h67
    -- mark x3
    have g8 := markNodeS_any x _ a.length _ _ 1 (by omega) (by omega) (by omega) w7 hox7
    go_wp2_with fail
    refine g8.mono ?_
    rintro e w8 ⟨rfl, hox8, h78⟩
    have hoy8 : OwnNodes w8 w3.heap.size y r := own_other hoy7 h78 (fun k hk => (hxb k hk).2)
    have hA8 : Below w2.heap.size w2 w8 := hA7.grown h78 hA7.size (fun k hk => (hxb k hk).1)
    have hb8 : Below w'.heap.size w' w8 := hb7.grown h78 hb7.size (fun k hk => Nat.le_trans hb2.size (hxb k hk).1)
    clear g8 hox7 hoy7 hA7 hb7 h78 hox8
    -- eq g0 w0 again
    have g9 := eqNodeS_any y u r r w8 (HNr.out _ _ _ hoy8) (HU.out w8 hA8)
    rw [decide_eq_true rfl] at g9
    go_wp2_with fail
    refine g9.mono ?_
    rintro e w9 ⟨rfl, h89⟩
    have hoy9 : OwnNodes w9 w3.heap.size y r := owns_below hoy8 h89
    have hA9 := Below.step hA8 hA8.size h89
    have hb9 := Below.step hb8 hb8.size h89
    clear g9 hoy8 hA8 hb8 h89
    -- mark g0
    have g10 := markNodeS_any y _ r.length _ _ 1 (by omega) (by omega) (by omega) w9 hoy9
    go_wp2_with fail
    refine g10.mono ?_
    rintro e w10 ⟨rfl, hoy10, h910⟩
    have hA10 : Below w2.heap.size w2 w10 := hA9.grown h910 hA9.size (fun k hk => Nat.le_trans hs24 (hyb k hk).1)
    have hb10 : Below w'.heap.size w' w10 := hb9.grown h910 hb9.size (fun k hk => Nat.le_trans (Nat.le_trans hb2.size hs24) (hyb k hk).1)
    clear g10 hoy9 hA9 hb9 h910
    have g11 := heldNodeS_any y _ r.length _ 1 (by omega) (by omega) (by omega) w10 hoy10
    go_wp2_with fail
    refine g11.mono ?_
    rintro e w11 ⟨rfl, rfl⟩
    clear g11
    -- again
    have g12 := GT.out _ hb10
    go_wp2_with fail
    refine g12.mono ?_
    rintro e w12 ⟨v12, rfl, ho12, h1112⟩
    have hoy12 := owns_below hoy10 h1112
    have hA12 := Below.step hA10 hA10.size h1112
    have hb12 := Below.step hb10 hb10.size h1112
    clear g12 hoy10 hA10 hb10 h1112
    have g13 := GI.out v12 w12 hb12 (HNa.out _ _ _ ho12)
    clear ho12
    go_wp2_with fail
    refine g13.mono ?_
    rintro e w13 ⟨y', rfl, ho13, h1213⟩
    have hoy13 := owns_below hoy12 h1213
    have hA13 := Below.step hA12 hA12.size h1213
    have hb13 := Below.step hb12 hb12.size h1213
    clear g13 hoy12 hA12 hb12 h1213
    have g14 := eqNodeS_any y' u r r w13 (HNr.out _ _ _ ho13) (HU.out w13 hA13)
    rw [decide_eq_true rfl] at g14
    clear ho13
    go_wp2_with fail
    refine g14.mono ?_
    rintro e w14 ⟨rfl, h1314⟩
    have hoy14 := owns_below hoy13 h1314
    have HB : Hid (Below w'.heap.size w' w14) := Below.step hb13 hb13.size h1314
    clear g14 hoy13 hA13 hb13 h1314
    have g15 := heldNodeS_any y _ r.length _ 1 (by omega) (by omega) (by omega) w14 hoy14
    clear hoy14
    go_wp2_with fail
    refine g15.mono ?_
    rintro e w15 ⟨rfl, rfl⟩
    clear g15
    go_wp2_with fail
    go_ret
    exact ⟨rfl, HB.out⟩
  · have g0 : Calls Tryd.prog 41 #[v, .int .i64 1048576] w fun e w' => e = .returned (.int .i64 (-1)) ∧ w' = w := by
      obtain ⟨ad, cap, rfl⟩ := h.shape
      have g := szNodeS_any ad a.length cap 1048576 hlen (by omega) (by omega) w
      rw [if_pos (by omega)] at g
      exact g
    clear h hT hI
    go_enter Tryd.func11, Tryd.ntmps11
    go_wp2_with fail
    refine g0.mono ?_
    rintro e w' ⟨rfl, rfl⟩
    clear g0
    go_wp2_with fail
    go_ret
    exact ⟨rfl, Below.refl _ _⟩
end Go.Proofs.YtkmgcgmeibhnmaaDoor
