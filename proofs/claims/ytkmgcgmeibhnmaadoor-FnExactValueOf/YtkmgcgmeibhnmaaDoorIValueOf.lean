/-
  The program's ValueOf.
-/
import Derived.Test.YtkmgcgmeibhnmaaDoorIVal
namespace Go.Proofs.YtkmgcgmeibhnmaaDoor
open Go Go.RowKit
open M
set_option linter.unusedVariables false

set_option maxRecDepth 100000 in
set_option maxHeartbeats 2000000 in
theorem impl_ValueOf : DoesValueOf := by
  intro wide v sv t st w hT h hl hs hok
  obtain ⟨hsl, hsb⟩ := hok
  obtain ⟨sa, sc, rfl⟩ : ∃ sa sc, sv = .slice sa st.length sc := by
    rcases hs with ⟨rfl, a, cap, h⟩ | ⟨b, off, cap, h, _⟩
    · exact ⟨a, cap, h⟩
    · exact ⟨_, cap, h⟩
  have HC : Hid (∀ (j : Nat) (s : Int), st[j]? = some s → ∃ b off : Nat, sa = some ⟨b, off, none⟩ ∧ b < w.heap.size ∧ w.cell? ⟨b, off + j, none⟩ = some (.int .u64 s)) := by
    intro j s hj
    rcases hs with ⟨rfl, _⟩ | ⟨b, off, cap, he, hlt, hc⟩
    · simp at hj
    · simp at he
      exact ⟨b, off, he.1, hlt, hc j s hj⟩
  by_cases hk : 0 < kindL wide st.length t
  · obtain ⟨g1, g2, g3, g4, g5, r, hr, k1, k2, k3⟩ := root_tree hk
    have g := rootOf_yes wide st.length v t w hT h r hk hr
    obtain ⟨k, rfl, hk1, hk64⟩ := wideB_true g1
    have HV : Hid (∀ (b : Nat) (w1 : World), Below w.heap.size w w1 → TrAt w1 (Old w1) r b → (∀ s ∈ st, goodB k s = true) → Calls Tryd.prog 68 #[ptr b, .int .i64 k, .slice sa st.length sc] w1 fun e w' => e = .returned (.int .u64 (trVal k st r)) ∧ Below w1.heap.size w1 w') := by
      intro b w1 hb htr hall
      have hst : ∀ s ∈ st, 0 ≤ s ∧ s < pw k := by
        intro s hs'
        obtain ⟨k', e, _, _, h3⟩ := goodB_true (hall s hs')
        obtain rfl : k = k' := by omega
        exact ⟨(hsb s hs').1, h3⟩
      refine value_any k hk1 hk64 st.length st _ hst hsl r b w1 (hT.below hb hT.some) htr (hs.below hb) k1 ?_ ?_
      · intro x hx
        rw [k2] at hx
        exact (h.1 x hx).2.2.1
      · intro x hx h2
        have h3 := ok_vars k1 x hx h2
        rw [k2] at hx
        have h4 := (h.1 x hx).2.2.1
        omega
    have HT : Hid (Tab w) := hT
    have HSV : Hid ((∀ s ∈ st, goodB k s = true) → saidV k t st = true ∧ valueL k t st = trVal k st r) := by
      intro hall
      have hs1 : saidV k t st = true := by
        unfold saidV
        rw [decide_eq_true hk, Bool.true_and]
        exact List.all_eq_true.2 hall
      refine ⟨hs1, ?_⟩
      have := valueL_tree hs1 hr
      simpa using this
    have HSN : Hid ((∃ s ∈ st, goodB k s = false) → saidV k t st = false ∧ valueL k t st = 0) := by
      rintro ⟨s, hs1, hs2⟩
      have hs3 : saidV k t st = false := by
        unfold saidV
        rw [decide_eq_true hk, Bool.true_and]
        exact List.all_eq_false.2 ⟨s, hs1, by rw [hs2]; decide⟩
      refine ⟨hs3, ?_⟩
      unfold valueL
      rw [hs3]
      rfl
    have HSB : Hid _ := hsb
    generalize hVL : valueL k t st = VL
    generalize hSV : saidV k t st = SV
    rw [hVL, hSV] at HSV HSN
    clear hT h hs hk hr k1 k2 k3 g1 hsb hVL hSV
    go_enter Tryd.func23, Tryd.ntmps23
    go_wp2_with fail
    refine g.mono ?_
    rintro e w1 ⟨b, rfl, htr, hb1⟩
    have HTR : Hid _ := htr
    have HB1 : Hid _ := hb1
    clear g htr hb1
    go_wp2_with fail
    go_loop [20] (fun i => ∃ j : Nat, j ≤ st.length ∧ i = .int .i64 j ∧ Hid (∀ s ∈ st.take j, goodB k s = true)) (fun i => st.length - (intOf i).toNat)
    case atStart => exact ⟨0, by omega, rfl, (fun s hs => by simp at hs : ∀ s ∈ st.take 0, goodB k s = true)⟩
    case round =>
      obtain ⟨j, hj, rfl, HA⟩ := hrel
      by_cases hlt' : j < st.length
      · obtain ⟨s, hs⟩ : ∃ s, st[j]? = some s := ⟨st[j], List.getElem?_eq_getElem hlt'⟩
        obtain ⟨sb, so, rfl, hblt, cs⟩ := HC.out j s hs
        rw [← HB1.out.cell (p := ⟨sb, so + j, none⟩) hblt] at cs
        have gG := iGoodWord_any k s w1 (HT.out.below HB1.out HT.out.some)
        have HS : Hid (st[j]? = some s) := hs
        clear hs
        cases hgd : goodB k s with
        | true =>
          rw [hgd] at gG
          have HA2 : Hid (∀ s ∈ st.take (j + 1), goodB k s = true) := by
            intro x hx
            rw [List.take_add_one, HS.out] at hx
            rcases List.mem_append.1 hx with hx | hx
            · exact HA.out x hx
            · simp at hx
              subst hx
              exact hgd
          clear hgd HA
          go_wp2_with fail
          refine gG.mono ?_
          rintro e w2 ⟨rfl, rfl⟩
          clear gG
          go_wp2_with fail
          go_round
          case rel => exact ⟨j + 1, by omega, by go_num, HA2⟩
          case measure => simp [intOf]; omega
        | false =>
          rw [hgd] at gG
          have HN := HSN.out ⟨s, List.mem_of_getElem? HS.out, hgd⟩
          obtain ⟨h1, h2⟩ := HN
          subst h1 h2
          clear hgd HA
          go_wp2_with fail
          refine gG.mono ?_
          rintro e w2 ⟨rfl, rfl⟩
          clear gG
          go_wp2_with fail
          go_ret2
          exact ⟨rfl, HB1.out⟩
      · obtain rfl : j = st.length := by omega
        have hall : ∀ s ∈ st, goodB k s = true := by
          have h := HA.out
          rw [List.take_length] at h
          exact h
        obtain ⟨h1, h2⟩ := HSV.out hall
        have g9 := HV.out b w1 HB1.out HTR.out hall
        rw [← h2] at g9
        subst h1
        clear hall h2 HA HSV HSN HV
        go_wp2_with fail
        refine g9.mono ?_
        rintro e w2 ⟨rfl, hb2⟩
        have HB2 : Hid (Below w.heap.size w w2) := HB1.out.trans (hb2.mono HB1.out.size)
        clear g9 hb2
        go_wp2_with fail
        go_ret2
        exact ⟨rfl, HB2.out⟩
  · have g := rootOf_no wide st.length v t w hT h hk
    have hs1 : saidV wide t st = false := by
      unfold saidV
      rw [decide_eq_false hk, Bool.false_and]
    have hv1 : valueL wide t st = 0 := by
      unfold valueL
      rw [hs1]
      rfl
    rw [hs1, hv1]
    clear hT h hs hk hs1 hv1 hsb HC
    go_enter Tryd.func23, Tryd.ntmps23
    go_wp2_with fail
    refine g.mono ?_
    rintro e w1 ⟨rfl, hb1⟩
    have HB1 : Hid _ := hb1
    clear g hb1
    go_wp2_with fail
    go_ret2
    exact ⟨rfl, HB1.out⟩
end Go.Proofs.YtkmgcgmeibhnmaaDoor
