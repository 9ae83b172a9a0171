/-
  The program's JoinTerms.
-/
import Derived.Test.YtkmgcgmeibhnmaaDoorILay2
namespace Go.Proofs.YtkmgcgmeibhnmaaDoor
open Go Go.RowKit
open M
set_option linter.unusedVariables false

theorem twoV_cells (w : World) (x y : Value) : (w.alloc (.cells #[x, y] 83)).cell? ⟨w.heap.size, 0, none⟩ = some x ∧ (w.alloc (.cells #[x, y] 83)).cell? ⟨w.heap.size, 1, none⟩ = some y := by
  constructor <;> simp
set_option maxRecDepth 100000 in
set_option maxHeartbeats 1000000 in
theorem impl_JoinTerms : DoesJoinTerms := by
  intro wide vars op av a bv b w hT h hl h' hl' hw0 hw1 hv0 hv1' hop0 hop1
  have g1 := rootOf_q wide vars av a w hT h
  have G1b : Hid (∀ w1, Below w.heap.size w w1 → Calls Tryd.prog 60 #[.int .i64 wide, .int .i64 vars, bv] w1 fun e w' => ∃ q, e = .returned (pv q) ∧ RootQ wide vars b q w' ∧ Below w1.heap.size w1 w') :=
    fun w1 hb => rootOf_q wide vars bv b w1 (hT.below hb hT.some) (h'.below hb)
  by_cases hg : manyOf op = 2 ∧ kindL wide vars a = partOf op ∧ kindL wide vars b = partOf op
  · have hpp := part_many (op := op) (by omega)
    have HE : Hid (saidJoin wide vars op a b = decide (0 < kindL wide vars (a ++ b ++ [(op, 0)])) ∧ joinL wide vars op a b = madeL wide vars (a ++ b ++ [(op, 0)])) := by
      unfold saidJoin joinL
      rw [if_pos hg]
      refine ⟨?_, rfl⟩
      apply decide_eq_decide.2
      exact ⟨fun h => h.2.2.2, fun h => ⟨hg.1, hg.2.1, hg.2.2, h⟩⟩
    rw [HE.out.1, HE.out.2]
    have HG : Hid _ := hg
    generalize hZ : decide (0 < kindL wide vars (a ++ b ++ [(op, 0)])) = Z
    generalize hM : madeL wide vars (a ++ b ++ [(op, 0)]) = M
    have HZ : Hid _ := hZ
    have HM : Hid _ := hM
    clear hT h h' hg HE hZ hM
    go_enter Tryd.func34, Tryd.ntmps34
    go_wp2_with fail
    refine g1.mono ?_
    rintro e w0 ⟨q0, rfl, hq0, hb0⟩
    clear g1
    have g1 := G1b.out w0 hb0
    clear G1b
    rcases q0 with _ | ⟨pa, ra⟩
    · exfalso
      have h1 : ¬ 0 < kindL wide vars a := hq0
      have h2 := HG.out.2.1
      omega
    have HB0 : Hid _ := hb0
    have HQ0 : Hid (RootQ wide vars a (some (pa, ra)) w0) := hq0
    clear hb0 hq0
    go_wp2_with fail
    refine g1.mono ?_
    rintro e w1 ⟨q, rfl, hq, hb1⟩
    clear g1
    rcases q with _ | ⟨pb, rb⟩
    · exfalso
      have h1 : ¬ 0 < kindL wide vars b := hq
      have h2 := HG.out.2.2
      omega
    obtain ⟨hk, hr, htr, hok, hfl, hrk, h48, hwb, hv1, hv4⟩ := hq
    obtain ⟨_, _, htra, hoka, hfla, hrka, h48a, _⟩ := RootQ.below HQ0.out hb1
    have hbx : Below w1.heap.size w1 (w1.alloc (.cells #[ptr pa, ptr pb] 83)) := (Below.refl _ _).alloc (Nat.le_refl _) _
    have hne : manyOf op ≠ 0 := by rw [HG.out.1]; decide
    have g2 := nodeOver_made op 0 [ra, rb] [pa, pb] (.slice (some ⟨w1.heap.size, 0, none⟩) 2 2) (w1.alloc (.cells #[ptr pa, ptr pb] 83)) (Old (w1.alloc (.cells #[ptr pa, ptr pb] 83))) (fun k hk => hk)
      ⟨by simp, Or.inr ⟨w1.heap.size, 0, 2, rfl, by simp, fun i c hc => by
        match i, hc with
        | 0, hc =>
          simp at hc
          subst hc
          exact (twoV_cells w1 (ptr pa) (ptr pb)).1
        | 1, hc =>
          simp at hc
          subst hc
          exact (twoV_cells w1 (ptr pa) (ptr pb)).2⟩⟩
      ⟨rfl, fun i c d hc hd => by
        match i, hc, hd with
        | 0, hc, hd =>
          simp at hc hd
          subst hc hd
          exact htra.below hbx
        | 1, hc, hd =>
          simp at hc hd
          subst hc hd
          exact htr.below hbx⟩ (own_many hne) HG.out.1 (fun q hq => by
        simp at hq
        rcases hq with rfl | rfl
        · rw [hrka]
          exact HG.out.2.1
        · rw [hrk]
          exact HG.out.2.2) (by
        have h1 := ra.flat_len
        rw [hfla] at h1
        have h2 := rb.flat_len
        rw [hfl] at h2
        simp [sizes]
        omega)
    have HOK : Hid ((Tr.over (op, 0) [ra, rb]).Ok wide vars ∧ (Tr.over (op, 0) [ra, rb]).flat = a ++ b ++ [(op, 0)]) :=
      ⟨Tr.over_ok (own_many hne) (okN_zero hne) HG.out.1 (fun q hq => by
        simp at hq
        rcases hq with rfl | rfl
        · exact ⟨by rw [hrka]; exact HG.out.2.1, hoka⟩
        · exact ⟨by rw [hrk]; exact HG.out.2.2, hok⟩), by show ra.flat ++ rb.flat ++ [(op, 0)] = _; rw [hfl, hfla]⟩
    have HW : Hid (wideB wide = true ∧ 1 ≤ vars ∧ vars ≤ 4) := ⟨hwb, hv1, hv4⟩
    have HB1 : Hid (Below w.heap.size w (w1.alloc (.cells #[ptr pa, ptr pb] 83))) := (HB0.out.trans (hb1.mono HB0.out.size)).alloc (Nat.le_trans HB0.out.size hb1.size) _
    clear hk hr htr hok hfl hrk h48 hwb hv1 hv4 hbx hne hb1 htra hoka hfla hrka h48a
    go_wp2_with fail
    refine g2.mono ?_
    rintro e w3 ⟨pp, rfl, htr3, hb3⟩
    clear g2
    have ht3 : TrAt w3 (Old w3) (Tr.over (op, 0) [ra, rb]) pp := TrAt.frame (fun k hk => by
      rcases hk with hk | hk
      · exact Nat.lt_of_lt_of_le hk hb3.size
      · exact hk.2) (fun _ _ => rfl) htr3
    have g4 := made_nodes _ pp w3 ht3 wide vars HOK.out.1 HW.out.1 HW.out.2.1 HW.out.2.2
    rw [HOK.out.2, HZ.out, HM.out] at g4
    have HB3 : Hid (Below w.heap.size w w3) := HB1.out.trans (hb3.mono HB1.out.size)
    clear htr3 hb3 ht3
    go_wp2_with fail
    refine g4.mono ?_
    rintro e w4 ⟨v4, rfl, ho4, hb4⟩
    have HO4 : Hid (OwnNodes w4 w.heap.size v4 M) := ho4.low HB3.out.size
    have HB4 : Hid (Below w.heap.size w w4) := HB3.out.trans (hb4.mono HB3.out.size)
    clear g4 ho4 hb4
    go_wp2_with fail
    go_ret2
    exact ⟨_, rfl, HO4.out, HB4.out⟩
  · have HE : Hid (saidJoin wide vars op a b = false ∧ joinL wide vars op a b = []) := by
      unfold saidJoin joinL
      rw [if_neg hg]
      exact ⟨decide_eq_false (fun h => hg ⟨h.1, h.2.1, h.2.2.1⟩), rfl⟩
    rw [HE.out.1, HE.out.2]
    have HG : Hid _ := hg
    clear hT h h' hg HE
    go_enter Tryd.func34, Tryd.ntmps34
    go_wp2_with fail
    refine g1.mono ?_
    rintro e w0 ⟨q0, rfl, hq0, hb0⟩
    clear g1
    have g1 := G1b.out w0 hb0
    have HB0 : Hid _ := hb0
    have HQ0 : Hid (RootQ wide vars a q0 w0) := hq0
    clear G1b hb0 hq0
    go_wp2_with fail
    refine g1.mono ?_
    rintro e w1 ⟨q, rfl, hq, hb1⟩
    clear g1
    have hqa := RootQ.below HQ0.out hb1
    have hbx : Below w1.heap.size w1 (w1.alloc (.cells #[pv q0, pv q] 83)) := (Below.refl _ _).alloc (Nat.le_refl _) _
    have hqx := hq.below hbx
    have hqax := hqa.below hbx
    have g2 := nodeOver_not op 0 [q0, q] w1.heap.size 2 (w1.alloc (.cells #[pv q0, pv q] 83)) (by simp) (by simp)
      (fun i c hc => by
        match i, hc with
        | 0, hc =>
          simp at hc
          subst hc
          exact (twoV_cells w1 (pv q0) (pv q)).1
        | 1, hc =>
          simp at hc
          subst hc
          exact (twoV_cells w1 (pv q0) (pv q)).2)
      (fun b c hbc => by
        rcases List.mem_cons.1 hbc with h | h
        · exact hqax.tree b c h.symm
        · exact hqx.tree b c (List.mem_singleton.1 h).symm)
      (by
        rintro ⟨h1, h2, h3⟩
        obtain ⟨b0, c0, rfl, hk0⟩ := h3 q0 (by simp)
        obtain ⟨b1, c1, rfl, hk1⟩ := h3 q (by simp)
        obtain ⟨_, _, _, _, _, hrk0, _⟩ := hqa
        obtain ⟨_, _, _, _, _, hrk1, _⟩ := hq
        exact HG.out ⟨h2, by rw [← hrk0]; exact hk0, by rw [← hrk1]; exact hk1⟩)
    have HB1 : Hid (Below w.heap.size w (w1.alloc (.cells #[pv q0, pv q] 83))) := (HB0.out.trans (hb1.mono HB0.out.size)).alloc (Nat.le_trans HB0.out.size hb1.size) _
    clear hq hqx hbx hb1 hqa hqax
    go_wp2_with fail
    refine g2.mono ?_
    rintro e w3 ⟨rfl, hb3⟩
    clear g2
    have g4 := nodesOf_nil w3
    have HB3 : Hid (Below w.heap.size w w3) := HB1.out.trans (hb3.mono HB1.out.size)
    clear hb3
    go_wp2_with fail
    refine g4.mono ?_
    rintro e w4 ⟨rfl, rfl⟩
    clear g4
    go_wp2_with fail
    go_ret2
    exact ⟨_, rfl, World.ownsRow_nil _ _ _ _, HB3.out⟩
end Go.Proofs.YtkmgcgmeibhnmaaDoor
