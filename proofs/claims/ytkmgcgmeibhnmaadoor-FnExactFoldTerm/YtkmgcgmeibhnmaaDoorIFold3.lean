/-
  The program's FoldTerm.
-/
import Derived.Test.YtkmgcgmeibhnmaaDoorIFold2
namespace Go.Proofs.YtkmgcgmeibhnmaaDoor
open Go Go.RowKit
open M
set_option linter.unusedVariables false

set_option maxRecDepth 100000 in
set_option maxHeartbeats 1000000 in
theorem impl_FoldTerm : DoesFoldTerm := by
  intro wide vars v t w hT h hl hcap hw0 hw1 hv0 hv1
  by_cases hk : 0 < kindL wide vars t
  · obtain ⟨g1, g2, g3, g4, g5, r, hr, k1, k2, k3⟩ := root_tree hk
    have g := rootOf_yes wide vars v t w hT h r hk hr
    have hfl := foldL_tree hk hr
    rw [decide_eq_true hk, hfl]
    obtain ⟨k, rfl, hk1, hk64⟩ := wideB_true g1
    rw [Int.toNat_natCast]
    have hsz : r.size ≤ 48 := by
      have := r.flat_len
      rw [k2] at this
      omega
    have hp : Pos r := by
      intro x hx
      rw [k2] at hx
      exact (h.1 x hx).2.2.1
    have GF : Hid (∀ (b : Nat) (w1 : World), Below w.heap.size w w1 → TrAt w1 (Old w1) r b → Calls Tryd.prog 72 #[ptr b, .int .i64 k] w1 fun e w' => ∃ b', e = .returned (ptr b') ∧ TrAt w' (New (fun _ => False) w1 w') (trFold k r) b' ∧ Below w1.heap.size w1 w') :=
      fun b w1 hb htr => fold_any k hk1 hk64 vars g3 r (fun _ => False) b w1 (fun k hk => hk.elim) (hT.below hb hT.some) htr k1 hp (by omega)
    have HSZ : Hid ((trFold k r).size ≤ 48) := Nat.le_trans (trFold_size k r) hsz
    generalize trFold k r = tf at *
    clear hT h hk hr k1 k2 k3 hfl hp hsz g1 hcap
    go_enter Tryd.func26, Tryd.ntmps26
    go_wp2_with fail
    refine g.mono ?_
    rintro e w1 ⟨b, rfl, htr, hb1⟩
    have g7 := GF.out b w1 hb1 htr
    have HB1 : Hid _ := hb1
    clear g htr hb1 GF
    go_wp2_with fail
    refine g7.mono ?_
    rintro e w2 ⟨b2, rfl, ht2, hb2⟩
    have g8 := nodesOf_yes tf b2 w2 (TrAt.frame (fun k hk => by
      rcases hk with hk | hk
      · exact hk.elim
      · exact hk.2) (fun _ _ => rfl) ht2) HSZ.out
    have HB2 : Hid (Below w.heap.size w w2) := HB1.out.trans (hb2.mono HB1.out.size)
    clear g7 ht2 hb2
    go_wp2_with fail
    refine g8.mono ?_
    rintro e w3 ⟨v3, rfl, ho3, hb3⟩
    have HO3 : Hid (OwnNodes w3 w.heap.size v3 tf.flat) := ho3.low HB2.out.size
    have HB3 : Hid (Below w.heap.size w w3) := HB2.out.trans (hb3.mono HB2.out.size)
    clear g8 ho3 hb3
    go_wp2_with fail
    go_ret2
    exact ⟨_, rfl, HO3.out, HB3.out⟩
  · have g := rootOf_no wide vars v t w hT h hk
    have e1 : foldL wide vars t = [] := by
      unfold foldL
      rw [if_neg hk]
    rw [decide_eq_false hk, e1]
    clear hT h hk e1 hcap
    go_enter Tryd.func26, Tryd.ntmps26
    go_wp2_with fail
    refine g.mono ?_
    rintro e w1 ⟨rfl, hb1⟩
    have HB1 : Hid _ := hb1
    clear g hb1
    go_wp2_with fail
    go_ret2
    exact ⟨_, rfl, World.ownsRow_nil _ _ _ _, HB1.out⟩
end Go.Proofs.YtkmgcgmeibhnmaaDoor
