/-
  The tree of a term, all of it new: the program's rootOf, told once more with where its nodes lie.
  The program's rootOfKind at numbers and conditions, changeRoots (whether all changes are good).
  The program's rootsOf: whether a program is good, and where its wide and variables lie then; GoodProgram, IsSmall.
  The program's changeRoots: its answer whole, rows and trees.
  The program's rootsOf: its answer whole, rows and trees.
  States of a good program as four words.
  The program's worth, holds: what a root comes to in a state.
  The program's rootsWith: a program read once, with a state of it.
  The program's number.
  Whether a program is good and whether it is small: the program's GoodProgram, IsSmall.
  Whether a program is small: the program's bits, small, IsSmall.
  The program's isStart, IsStart, StateNo.
  The program's count, hasState, hasCommand, smallRootsOf.
  The program's numbered.
  The program's list: a state as a list of its own.
  The program's StateOf.
  The model's l7Many, l7Of.
  The model's StateOf.
  The model's HoldsIn.
  The model's l7Enabled.
  The model's Enabled.
-/
import Derived.Test.YtmhpnkfibecnmaaDoorKS12
import Derived.Test.YtmhpnkfibecnmaaDoorKS11
import Derived.Test.YtmhpnkfibecnmaaDoorProgOwn
import Derived.Maps.AppendAt
import Derived.Test.YtmhpnkfibecnmaaDoorWordsS
import Derived.Test.YtmhpnkfibecnmaaDoorStateG
import Derived.BigQuiet
import Derived.Test.YtmhpnkfibecnmaaDoorOwn5
import Derived.Test.YtmhpnkfibecnmaaDoorOwn3
namespace Go.Proofs.YtmhpnkfibecnmaaDoor
open Go Go.RowKit
open M
set_option linter.unusedVariables false

set_option maxRecDepth 100000 in
set_option maxHeartbeats 4000000 in
theorem rootOf_inN (k : Nat) (vars : Int) (b off cap : Nat) (t : List Nd) (hk1 : 1 ≤ k) (hk : k ≤ 64) (hv : 1 ≤ vars) (hv4 : vars ≤ 4) (hl : t.length ≤ 48) (hok : ∀ x ∈ t, NdOk x) (w : World) (hT : Tab w) (hlt : b < w.heap.size)
    (hc : ∀ (i : Nat) (x : Nd), t[i]? = some x → w.cell? ⟨b, off + i * 2, none⟩ = some (.int .i64 x.1) ∧ w.cell? ⟨b, off + i * 2 + 1, none⟩ = some (.int .u64 x.2)) :
    Calls Tryd.prog 128 #[.int .i64 k, .int .i64 vars, .slice (some ⟨b, off, none⟩) t.length cap] w fun e w' => Below w.heap.size w w' ∧
      ((kindL k vars t = 0 ∧ e = .returned (.pointer none)) ∨ ∃ (r : Tr) (p : Nat), pileT k vars t t.length = some [⟨0, r.kind, r⟩] ∧ e = .returned (ptr p) ∧ TrAt w' (New (fun _ => False) w w') r p) := by
  have hw : wideB k = true := decide_eq_true (by omega)
  have g1 := goodWide_any k w
  rw [hw] at g1
  have g2 := goodVars_yes vars ⟨hv, hv4⟩ w
  clear hw
  obtain ⟨i0, hi, hz0, hz1, hz2⟩ := info_parts infoPtr
  go_enter Tryd.func128, Tryd.ntmps128
  go_wp2_with fail
  refine g1.mono ?_
  rintro e w' ⟨rfl, rfl⟩
  clear g1
  go_wp2_with fail
  refine g2.mono ?_
  rintro e w' ⟨rfl, rfl⟩
  clear g2
  go_wp2_with fail
  have HC : Hid _ := hc
  have HOK : Hid _ := hok
  have HT : Hid (Tab w') := hT
  clear hc hok hT
  go_loopw [7, 30] (fun v i wr => ∃ (j : Nat) (p : List (Ent Tr)) (bs : List Nat), j ≤ t.length ∧ i = .int .i64 j ∧ Hid (pileT k vars t j = some p) ∧ Hid (wr.ownsRow w'.heap.size 101 1 v bs.length (ptrs bs)) ∧ Hid (TrsAt wr (Mix (fun _ => False) w' wr v) (p.reverse.map Ent.val) bs) ∧ Hid (Below w'.heap.size w' wr)) (fun _ i _ => t.length - (intOf i).toNat)
  case atStart => exact ⟨0, [], [], by omega, rfl, rfl, World.ownsRow_nil _ _ _ _, ⟨rfl, fun i a p ha _ => by simp at ha⟩, Below.refl _ _⟩
  case round =>
    obtain ⟨j, p, bs, hj, rfl, HF, HO, HS, HB⟩ := hrel
    have hpl : p.length = bs.length := by
      have := HS.out.1
      simpa using this
    by_cases hlt' : j < t.length
    · obtain ⟨⟨op, n⟩, hx⟩ : ∃ x, t[j]? = some x := ⟨t[j], List.getElem?_eq_getElem hlt'⟩
      obtain ⟨ho0, ho1, hn0, hn1⟩ := HOK.out (op, n) (List.mem_of_getElem? hx)
      simp only at ho0 ho1 hn0 hn1
      obtain ⟨c0, c1⟩ := HC.out j (op, n) hx
      rw [← HB.out.cell (p := ⟨b, off + j * 2, none⟩) hlt] at c0
      rw [← HB.out.cell (p := ⟨b, off + j * 2 + 1, none⟩) hlt] at c1
      simp only at c0 c1
      have HX : Hid (t[j]? = some (op, n)) := hx
      have hb1 : Below w'.heap.size w' (wr.alloc (.cells #[.int .i64 op, .int .u64 n] 159)) := HB.out.alloc HB.out.size _
      have g1 := shapeOf_any op (wr.alloc (.cells #[.int .i64 op, .int .u64 n] 159))
      have g2 := goodN_any k vars op n (by omega) (by omega) hn0 hn1 (wr.alloc (.cells #[.int .i64 op, .int .u64 n] 159)) (HT.out.below hb1 HT.out.some)
      have HBa : Hid (Below w'.heap.size w' (wr.alloc (.cells #[.int .i64 op, .int .u64 n] 159))) := hb1
      have hpj : bs.length ≤ 48 := by
        have h1 := foldK_of_pileT HF.out
        have h2 := foldK_len _ _ _ h1
        simp at h2
        omega
      have hml := manyOf_le op
      have HPL : Hid (p.length = bs.length) := hpl
      obtain ⟨ad, cp, hv7⟩ := own_shape HO.out
      clear hx hb1 hpl
      cases z2 : okN k vars op n with
      | false =>
        have HK : Hid (kindL k vars t = 0) := kind_stop HX.out (foldK_of_pileT HF.out) (step_num z2)
        rw [z2] at g2
        clear z2
        generalize ownOf op = o at *
        generalize manyOf op = m at *
        generalize wantOf op = q at *
        subst hv7
        go_wp2_with fail
        refine g1.mono ?_
        rintro e w2 ⟨rfl, rfl⟩
        clear g1
        go_wp2_with fail
        refine g2.mono ?_
        rintro e w2 ⟨rfl, hb2⟩
        clear g2
        have HB2 : Hid (Below w'.heap.size w' w2) := HBa.out.trans (hb2.mono HBa.out.size)
        clear hb2
        go_wp2_with fail
        go_ret
        exact ⟨HB2.out, Or.inl ⟨HK.out, rfl⟩⟩
      | true =>
        rw [z2] at g2
        by_cases z3 : bs.length < manyOf op
        · have HK : Hid (kindL k vars t = 0) := kind_stop HX.out (foldK_of_pileT HF.out) (step_few (by have := HPL.out; simp; omega))
          clear z2
          generalize ownOf op = o at *
          generalize manyOf op = m at *
          generalize wantOf op = q at *
          subst hv7
          go_wp2_with fail
          refine g1.mono ?_
          rintro e w2 ⟨rfl, rfl⟩
          clear g1
          go_wp2_with fail
          refine g2.mono ?_
          rintro e w2 ⟨rfl, hb2⟩
          clear g2
          have HB2 : Hid (Below w'.heap.size w' w2) := HBa.out.trans (hb2.mono HBa.out.size)
          clear hb2
          go_wp2_with fail
          go_ret
          exact ⟨HB2.out, Or.inl ⟨HK.out, rfl⟩⟩
        · subst hv7
          obtain ⟨m, hmm⟩ : ∃ m, m = manyOf op := ⟨_, rfl⟩
          rw [← hmm] at g1 z3 hml
          have HMM : Hid (m = manyOf op) := hmm
          clear hmm
          generalize hqq : wantOf op = q at g1
          generalize hoo : ownOf op = o at g1
          go_wp2_with fail
          refine g1.mono ?_
          rintro e w2 ⟨rfl, rfl⟩
          clear g1
          go_wp2_with fail
          refine g2.mono ?_
          rintro e w2 ⟨rfl, hb2⟩
          clear g2
          have HB2 : Hid (Below w'.heap.size w' w2) := HBa.out.trans (hb2.mono HBa.out.size)
          have e0 : w2.cell? ⟨wr.heap.size, 0, none⟩ = some (.int .i64 op) := by
            rw [hb2.cell (p := ⟨wr.heap.size, 0, none⟩) (by simp)]
            simp
          have e1 : w2.cell? ⟨wr.heap.size, 1, none⟩ = some (.int .u64 n) := by
            rw [hb2.cell (p := ⟨wr.heap.size, 1, none⟩) (by simp)]
            simp
          obtain ⟨rest, hrest⟩ : ∃ rest : Nat, (bs.length : Int) - (m : Int) = (rest : Int) := ⟨bs.length - m, by omega⟩
          have hr1 : rest ≤ bs.length := by omega
          have HR : Hid (rest + m = bs.length) := (by omega : rest + m = bs.length)
          go_wp2_with fail
          clear hrest
          have hp1 : Hid (TrsAt w2 (Mix (fun _ => False) w' w2 (.slice ad bs.length cp)) (p.reverse.map Ent.val) bs ∧ w2.ownsRow w'.heap.size 101 1 (.slice ad bs.length cp) bs.length (ptrs bs)) := by
            have hba : Below wr.heap.size wr w2 := ((Below.refl _ _).alloc (Nat.le_refl _) _).trans (hb2.mono (by simp))
            exact ⟨TrsAt.frame (fun k hk => ⟨hk.1, Nat.lt_of_lt_of_le hk.2.1 hba.size, hk.2.2⟩) (fun k hk => hba.block k hk.2.1) HS.out, owns_below HO.out hba⟩
          have HLP : Hid ((p.reverse.map Ent.val).drop rest = (p.take m).reverse.map Ent.val ∧ (p.reverse.map Ent.val).take rest = (p.drop m).reverse.map Ent.val) := by
            have h1 := HPL.out
            have h2 := HR.out
            constructor
            · rw [← List.map_drop, List.drop_reverse, show p.length - rest = m from by omega]
            · rw [← List.map_take, List.take_reverse, show p.length - rest = m from by omega]
          by_cases hgood : ¬ ownOf op = 0 ∧ ∀ e ∈ p.take m, e.kind = partOf op
          · obtain ⟨a0, hst⟩ := step_tree (j := j) (k := k) (vars := vars) (x := (op, n)) (p := p) hgood.1 z2 (by have := HMM.out; have := HPL.out; have := HR.out; simp only; omega) (by rw [show manyOf (op, n).1 = m from HMM.out.symm]; exact hgood.2)
            have HF2 : Hid (pileT k vars t (j + 1) = some (⟨a0, ownOf op, Tr.over (op, n) ((p.take m).reverse.map Ent.val)⟩ :: p.drop m)) := by
              show pileE k vars Tr.leaf Tr.one Tr.two t (j + 1) = _
              rw [pileE, show pileE k vars Tr.leaf Tr.one Tr.two t j = some p from HF.out, HX.out]
              simp only [Option.bind_some]
              rw [hst, ← show m = manyOf (op, n).1 from HMM.out]
            have GE : Hid (∀ (sl : Value) (w1 : World), PtrsAt w1 (Old w1) sl (bs.drop rest) → Below w2.heap.size w2 w1 → Calls Tryd.prog 147 #[.agg #[.int .i64 op, .int .u64 n], sl] w1 fun e w3 => ∃ pb, e = .returned (ptr pb) ∧
                TrsAt w3 (Mix (fun _ => False) w' w3 (.slice ad bs.length cp)) ((p.drop m).reverse.map Ent.val ++ [Tr.over (op, n) ((p.take m).reverse.map Ent.val)]) (bs.take rest ++ [pb]) ∧ w3.ownsRow w'.heap.size 101 1 (.slice ad bs.length cp) bs.length (ptrs bs) ∧ Below w'.heap.size w' w3) := by
              intro sl w1 hsl hb3
              obtain ⟨h1, h2⟩ := hp1.out
              have h1' : TrsAt w1 (Mix (fun _ => False) w' w1 (.slice ad bs.length cp)) (p.reverse.map Ent.val) bs := TrsAt.frame (fun k hk => ⟨hk.1, Nat.lt_of_lt_of_le hk.2.1 hb3.size, hk.2.2⟩) (fun k hk => hb3.block k hk.2.1) h1
              have h2' := owns_below h2 hb3
              have hd := trs_drop h1' rest
              rw [HLP.out.1] at hd
              have ht := trs_take h1' rest
              rw [HLP.out.2] at ht
              have hkk : ∀ q ∈ (p.take m).reverse.map Ent.val, q.kind = partOf op := by
                intro q hq
                obtain ⟨e, he, rfl⟩ := List.mem_map.1 hq
                have he' : e ∈ p.take m := by simpa using he
                rw [← ((pileT_ok j p HF.out).1 e (List.mem_of_mem_take he')).2]
                exact hgood.2 e he'
              have hsz : sizes ((p.take m).reverse.map Ent.val) ≤ 1000000 := by
                have h3 := pile_sizes HF.out
                have h4 := sizes_append ((p.reverse.map Ent.val).take rest) ((p.reverse.map Ent.val).drop rest)
                rw [List.take_append_drop, HLP.out.1] at h4
                omega
              refine (nodeOver_made op n _ (bs.drop rest) sl w1 (Mix (fun _ => False) w' w1 (.slice ad bs.length cp)) (fun k hk => hk.2.1) hsl hd hgood.1 ?_ hkk hsz).mono ?_
              · rw [← HMM.out]
                have := HPL.out
                have := HR.out
                simp
                omega
              · rintro e w3 ⟨pb, he, htr, hb4⟩
                have hS : ∀ k, Mix (fun _ => False) w' w1 (.slice ad bs.length cp) k → Mix (fun _ => False) w' w3 (.slice ad bs.length cp) k := fun k hk => ⟨hk.1, Nat.lt_of_lt_of_le hk.2.1 hb4.size, hk.2.2⟩
                refine ⟨pb, he, trs_snoc (TrsAt.frame hS (fun k hk => hb4.block k hk.2.1) ht) (TrAt.frame (fun k hk => ?_) (fun _ _ => rfl) htr), owns_below h2' hb4, HB2.out.trans ((hb3.trans (hb4.mono hb3.size)).mono HB2.out.size)⟩
                rcases hk with hk | ⟨hk1, hk2⟩
                · exact hS k hk
                · refine ⟨Or.inr (Nat.le_trans HB2.out.size (Nat.le_trans hb3.size hk1)), hk2, fun e => ?_⟩
                  have := (h2'.lt k e.symm).2
                  omega
            clear hgood hst HF
            have HSH : Hid _ := hp1.out.2
            have HN2 : Hid ((p.drop m).reverse.map Ent.val ++ [Tr.over (op, n) ((p.take m).reverse.map Ent.val)] = ((⟨a0, ownOf op, Tr.over (op, n) ((p.take m).reverse.map Ent.val)⟩ :: p.drop m).reverse.map Ent.val)) := by
              show _ = _
              simp
            generalize hNL : (p.drop m).reverse.map Ent.val ++ [Tr.over (op, n) ((p.take m).reverse.map Ent.val)] = NL at *
            generalize hNP : (⟨a0, ownOf op, Tr.over (op, n) ((p.take m).reverse.map Ent.val)⟩ :: p.drop m : List (Ent Tr)) = NP at *
            clear hNL hNP HLP
            rcases HO.out.2 with ⟨hnil, hb0⟩ | ⟨g, cap', cur, hv, hg, hh, hcap1, hcap2, hcap3, hcur⟩
            · have hbs : bs = [] := List.length_eq_zero_iff.1 hb0
              subst hbs
              obtain rfl : rest = 0 := by simp at hr1; exact hr1
              obtain ⟨rfl, rfl⟩ : ad = none ∧ cp = 0 := by
                simp at hnil
                exact hnil
              have GC := fun (w1 : World) (hb3 : Below w2.heap.size w2 w1) => GE.out (.slice none 0 0) w1 ⟨by simp, Or.inl ⟨rfl, none, 0, rfl⟩⟩ hb3
              have hd2 : Below w2.heap.size w2 w2.drew := (Below.refl _ _).drew
              clear hnil hb0 HO hr1 hp1 HSH GE HPL HS
              go_region_with (go_at_call 147; refine (GC _ hd2).mono ?_; rintro e w3 ⟨pb, rfl, ht3, ho3, hb3⟩; have HT3 : Hid _ := ht3; have HO3 : Hid _ := ho3; have HB3 : Hid _ := hb3; clear ht3 ho3 hb3)
              all_goals clear GC hd2
              all_goals
                have own1 : (w3.alloc (.cells #[ptr pb] 101)).ownsRow w'.heap.size 101 1 (.slice none 0 0) 0 [] := World.ownsRow_nil _ _ _ _
                have HBx : Hid (Below w'.heap.size w' (w3.alloc (.cells #[ptr pb] 101))) := HB3.out.alloc HB3.out.size _
                have cellsN := onePtr_cells w3 pb
                go_wp2_with (at_builtin; refine wpList_append_own_at _ rfl _ _ 177 rfl w'.heap.size 101 i0 (.pointer none) 1 8 Tryd.underlying177 hi hz0 hz1 hz2 rfl (by decide) _ _ _ rfl own1 ⟨w3.heap.size, 0, none⟩ 1 1 [ptr pb] rfl rfl cellsN (by intro u hu; simp at hu; subst hu; rfl) (by unfold maxLen; omega) (by omega) (by have h := HB3.out.size; simp; omega) ?_)
                intro v7 w7 own7 grow7 _ hat7
                have HO7 : Hid (w7.ownsRow w'.heap.size 101 1 v7 ([pb] : List Nat).length (ptrs [pb])) := own7
                have HT7 : Hid (TrsAt w7 (Mix (fun _ => False) w' w7 v7) (NP.reverse.map Ent.val) [pb]) := by
                  show TrsAt _ _ _ _
                  rw [← HN2.out]
                  exact mix_next HT3.out grow7 hat7 rfl
                have HB7 : Hid (Below w'.heap.size w' w7) := HBx.out.grown grow7 HBx.out.size (fun k hk => by cases hk)
                clear own1 own7 grow7 hat7 cellsN
                go_wp2_with fail
                go_roundw
                case rel => exact ⟨j + 1, NP, [pb], by omega, by go_num, HF2, HO7, HT7, HB7⟩
                case measure => simp [intOf]; omega
            · obtain ⟨rfl, rfl⟩ : ad = some ⟨g, 0, none⟩ ∧ cap' = cp := by
                simp at hv
                exact ⟨hv.1, hv.2.symm⟩
              have hcap2' : cap' ≤ 9223372036854775807 := hcap2
              have GC := fun (w1 : World) (hb3 : Below w2.heap.size w2 w1) => GE.out _ w1 (own_high (owns_below HSH.out hb3) rfl hr1 hpj) hb3
              obtain ⟨asl, hasl⟩ : ∃ asl, (if cap' = rest then some (⟨g, 0, none⟩ : Addr) else some ⟨g, rest, none⟩) = asl := ⟨_, rfl⟩
              rw [hasl] at GC
              have hd2 : Below w2.heap.size w2 w2.drew := (Below.refl _ _).drew
              have HG0 : Hid (w'.heap.size ≤ g) := hg
              clear hv hcur hcap2 hh HO hg hp1 HSH GE HPL HS
              go_region_with (go_at_call 147; refine (GC _ hd2).mono ?_; rintro e w3 ⟨pb, rfl, ht3, ho3, hb3⟩; have HT3 : Hid _ := ht3; have HO3 : Hid _ := ho3; have HB3 : Hid _ := hb3; clear ht3 ho3 hb3)
              all_goals clear GC hd2 hasl
              all_goals
                have own1 := (own_low HO3.out rfl hr1).alloc (.cells #[ptr pb] 101)
                have HLX : Hid (ptrs (bs.take rest) ++ [ptr pb] = ptrs (bs.take rest ++ [pb]) ∧ rest + 1 = (bs.take rest ++ [pb]).length) := by
                  constructor
                  · simp [ptrs]
                  · simp
                    omega
                generalize ptrs (bs.take rest) = xs0 at own1 HLX
                generalize bs.take rest ++ [pb] = NB at *
                have HBx : Hid (Below w'.heap.size w' (w3.alloc (.cells #[ptr pb] 101))) := HB3.out.alloc HB3.out.size _
                have cellsN := onePtr_cells w3 pb
                go_wp2_with (at_builtin; refine wpList_append_own_at _ rfl _ _ 177 rfl w'.heap.size 101 i0 (.pointer none) 1 8 Tryd.underlying177 hi hz0 hz1 hz2 rfl (by decide) _ _ _ rfl own1 ⟨w3.heap.size, 0, none⟩ 1 1 [ptr pb] rfl rfl cellsN (by intro u hu; simp at hu; subst hu; rfl) (by unfold maxLen; omega) (by omega) (by have h := HB3.out.size; simp; omega) ?_)
                intro v7 w7 own7 grow7 _ hat7
                have HO7 : Hid (w7.ownsRow w'.heap.size 101 1 v7 NB.length (ptrs NB)) := by
                  show World.ownsRow _ _ _ _ _ _ _
                  rw [← HLX.out.1, ← HLX.out.2]
                  exact own7
                have HT7 : Hid (TrsAt w7 (Mix (fun _ => False) w' w7 v7) (NP.reverse.map Ent.val) NB) := by
                  show TrsAt _ _ _ _
                  rw [← HN2.out]
                  exact mix_next HT3.out grow7 hat7 rfl
                have HB7 : Hid (Below w'.heap.size w' w7) := HBx.out.grown grow7 HBx.out.size (fun k hk => by
                  have e : g = k := Option.some.inj hk
                  rw [← e]
                  exact HG0.out)
                clear own1 own7 grow7 hat7 cellsN
                go_wp2_with fail
                go_roundw
                case rel => exact ⟨j + 1, NP, NB, by omega, by go_num, HF2, HO7, HT7, HB7⟩
                case measure => simp [intOf]; omega
          · have HK : Hid (kindL k vars t = 0) := by
              show _ = _
              by_cases h0 : ownOf op = 0
              · exact kind_stop HX.out (foldK_of_pileT HF.out) (step_own h0)
              · refine kind_stop HX.out (foldK_of_pileT HF.out) (step_kind (x := (op, n)) (by have := HMM.out; have := HPL.out; have := HR.out; simp only; omega) ?_)
                rw [show manyOf (op, n).1 = m from HMM.out.symm]
                refine Classical.byContradiction fun hne => hgood ⟨h0, fun e he => Classical.byContradiction fun hk' => hne ⟨e, he, hk'⟩⟩
            have GE : Hid (∀ (sl : Value) (w1 : World), PtrsAt w1 (Old w1) sl (bs.drop rest) → Below w2.heap.size w2 w1 → Calls Tryd.prog 147 #[.agg #[.int .i64 op, .int .u64 n], sl] w1 fun e w3 => e = .returned (.pointer none) ∧ Below w'.heap.size w' w3) := by
              intro sl w1 hsl hb3
              obtain ⟨h1, h2⟩ := hp1.out
              have h1' : TrsAt w1 (Mix (fun _ => False) w' w1 (.slice ad bs.length cp)) (p.reverse.map Ent.val) bs := TrsAt.frame (fun k hk => ⟨hk.1, Nat.lt_of_lt_of_le hk.2.1 hb3.size, hk.2.2⟩) (fun k hk => hb3.block k hk.2.1) h1
              have hd := trs_drop h1' rest
              rw [HLP.out.1] at hd
              have hsz : sizes ((p.take m).reverse.map Ent.val) ≤ 1000000 := by
                have h3 := pile_sizes HF.out
                have h4 := sizes_append ((p.reverse.map Ent.val).take rest) ((p.reverse.map Ent.val).drop rest)
                rw [List.take_append_drop, HLP.out.1] at h4
                omega
              refine (nodeOver_mixed op n _ (bs.drop rest) sl w1 (Mix (fun _ => False) w' w1 (.slice ad bs.length cp)) (fun k hk => hk.2.1) hsl hd ?_ ?_ hsz).mono ?_
              · rw [← HMM.out]
                have := HPL.out
                have := HR.out
                simp
                omega
              · rintro ⟨h0, hall⟩
                refine hgood ⟨h0, fun e he => ?_⟩
                rw [((pileT_ok j p HF.out).1 e (List.mem_of_mem_take he)).2]
                exact hall e.val (List.mem_map.2 ⟨e, by simpa using he, rfl⟩)
              · rintro e w3 ⟨he, hb4⟩
                exact ⟨he, HB2.out.trans ((hb3.trans (hb4.mono hb3.size)).mono HB2.out.size)⟩
            clear hgood HF HLP
            have HSH : Hid _ := hp1.out.2
            rcases HO.out.2 with ⟨hnil, hb0⟩ | ⟨g, cap', cur, hv, hg, hh, hcap1, hcap2, hcap3, hcur⟩
            · have hbs : bs = [] := List.length_eq_zero_iff.1 hb0
              subst hbs
              obtain rfl : rest = 0 := by simp at hr1; exact hr1
              obtain ⟨rfl, rfl⟩ : ad = none ∧ cp = 0 := by
                simp at hnil
                exact hnil
              have GC := fun (w1 : World) (hb3 : Below w2.heap.size w2 w1) => GE.out (.slice none 0 0) w1 ⟨by simp, Or.inl ⟨rfl, none, 0, rfl⟩⟩ hb3
              have hd2 : Below w2.heap.size w2 w2.drew := (Below.refl _ _).drew
              clear hnil hb0 HO hr1 hp1 HSH GE HPL HS
              go_region_with (go_at_call 147; refine (GC _ hd2).mono ?_; rintro e w3 ⟨rfl, hb3⟩; have HB3 : Hid _ := hb3; clear hb3)
              all_goals clear GC hd2
              all_goals
                go_wp2_with fail
                go_ret
                exact ⟨HB3.out, Or.inl ⟨HK.out, rfl⟩⟩
            · obtain ⟨rfl, rfl⟩ : ad = some ⟨g, 0, none⟩ ∧ cap' = cp := by
                simp at hv
                exact ⟨hv.1, hv.2.symm⟩
              have hcap2' : cap' ≤ 9223372036854775807 := hcap2
              have GC := fun (w1 : World) (hb3 : Below w2.heap.size w2 w1) => GE.out _ w1 (own_high (owns_below HSH.out hb3) rfl hr1 hpj) hb3
              obtain ⟨asl, hasl⟩ : ∃ asl, (if cap' = rest then some (⟨g, 0, none⟩ : Addr) else some ⟨g, rest, none⟩) = asl := ⟨_, rfl⟩
              rw [hasl] at GC
              have hd2 : Below w2.heap.size w2 w2.drew := (Below.refl _ _).drew
              clear hv hcur hcap2 hh HO hg hp1 HSH GE HPL HS
              go_region_with (go_at_call 147; refine (GC _ hd2).mono ?_; rintro e w3 ⟨rfl, hb3⟩; have HB3 : Hid _ := hb3; clear hb3)
              all_goals clear GC hd2 hasl
              all_goals
                go_wp2_with fail
                go_ret
                exact ⟨HB3.out, Or.inl ⟨HK.out, rfl⟩⟩
    · obtain rfl : j = t.length := by omega
      have HE := pile_end hk1 hk hv hv4 hl HF.out
      obtain ⟨ad, cp, hv7⟩ := own_shape HO.out
      by_cases h1 : bs.length = 1
      · obtain ⟨b0, rfl⟩ := List.length_eq_one_iff.1 h1
        obtain ⟨e0, rfl⟩ : ∃ e0, p = [e0] := List.length_eq_one_iff.1 hpl
        have hr := HE.2 e0 rfl
        have htr : TrAt wr (New (fun _ => False) w' wr) e0.val b0 := TrAt.frame (fun k hk => Or.inr ⟨hk.1.elim (fun h => h.elim) id, hk.2.1⟩) (fun _ _ => rfl) (HS.out.2 0 e0.val b0 rfl rfl)
        rcases HO.out.2 with ⟨_, hb0⟩ | ⟨g, cap', cur, hv, hg, hh, _⟩
        · simp at hb0
        have hcell := HO.out.cells (g := g) (by rw [hv]; rfl) 0 (ptr b0) rfl
        have hcell' : wr.cell? ⟨g, 0, none⟩ = some (ptr b0) := hcell
        have HR : Hid (Below w'.heap.size w' wr ∧ ∃ r : Tr, pileT k vars t t.length = some [⟨0, r.kind, r⟩] ∧ TrAt wr (New (fun _ => False) w' wr) r b0) := ⟨HB.out, e0.val, hr, htr⟩
        clear hcell hr htr HE hh HO HS HF HB hv7
        subst hv
        go_wp2_with fail
        go_ret
        obtain ⟨h1, r, h2, h4⟩ := HR.out
        exact ⟨h1, Or.inr ⟨r, b0, h2, rfl, h4⟩⟩
      · have HK : Hid (kindL k vars t = 0) := HE.1 (by omega)
        have hne : ((bs.length : Int) != 1) = true := bne_iff_ne.2 (by omega)
        have hb48 : bs.length ≤ 48 := by
          have h1 := foldK_of_pileT HF.out
          have h2 := foldK_len _ _ _ h1
          simp at h2
          omega
        clear HE HF HS HO
        subst hv7
        go_wp2_with fail
        go_ret
        exact ⟨HB.out, Or.inl ⟨HK.out, rfl⟩⟩
theorem rootOf_new (wide vars : Int) (v : Value) (t : List Nd) (w : World) (hT : Tab w) (h : NodesAt w v t) (r : Tr) (hk : 0 < kindL wide vars t) (hr : pileT wide vars t t.length = some [⟨0, r.kind, r⟩]) :
    Calls Tryd.prog 128 #[.int .i64 wide, .int .i64 vars, v] w fun e w' => ∃ p, e = .returned (ptr p) ∧ TrAt w' (New (fun _ => False) w w') r p ∧ Below w.heap.size w w' := by
  obtain ⟨h1, h2, h3, h4, h5, _⟩ := root_tree hk
  obtain ⟨k, rfl, hk1, hk64⟩ := wideB_true h1
  obtain ⟨hok, hlen, hN⟩ := h
  rcases hN with ⟨rfl, _⟩ | ⟨b, off, cap, rfl, hlt, hc⟩
  · simp at h4
  refine (rootOf_inN k vars b off cap t hk1 hk64 h2 h3 h5 hok w hT hlt hc).mono ?_
  rintro e w' ⟨hb, ⟨h0, _⟩ | ⟨r', p, hr', he, htr⟩⟩
  · omega
  · rw [hr] at hr'
    simp at hr'
    obtain rfl := hr'.2
    exact ⟨p, he, htr, hb⟩
end Go.Proofs.YtmhpnkfibecnmaaDoor

namespace Go.Proofs.YtmhpnkfibecnmaaDoor
open Go Go.RowKit
open M
set_option linter.unusedVariables false

theorem rootK_no (wide vars kind : Int) (v : Value) (t : List Nd) (w : World) (hT : Tab w) (h : NodesAt w v t) (hk0 : kind = 1 ∨ kind = 2) (hk : ¬ kindL wide vars t = kind) :
    Calls Tryd.prog 105 #[.int .i64 wide, .int .i64 vars, v, .int .i64 kind] w fun e w' => e = .returned (.pointer none) ∧ Below w.heap.size w w' := by
  by_cases hp : 0 < kindL wide vars t
  · obtain ⟨_, _, _, _, _, r, hr, _, _, k3⟩ := root_tree hp
    have g := rootOf_yes wide vars v t w hT h r hp hr
    have hne : (r.kind != kind) = true := bne_iff_ne.2 (by rw [k3]; exact hk)
    have HK : Hid _ := hne
    clear hT h hk hp hr k3 hne
    go_enter Tryd.func105, Tryd.ntmps105
    go_wp2_with fail
    refine g.mono ?_
    rintro e w1 ⟨b, rfl, htr, hb⟩
    obtain ⟨ps, ⟨_, _, _, n2, _⟩, _⟩ := trAt_open htr
    have hne := HK.out
    have HB : Hid _ := hb
    clear g htr hb
    generalize r.kind = kk at *
    go_wp2_with fail
    go_ret
    exact ⟨rfl, HB.out⟩
  · have g := rootOf_no wide vars v t w hT h hp
    clear hT h hk hp
    go_enter Tryd.func105, Tryd.ntmps105
    go_wp2_with fail
    refine g.mono ?_
    rintro e w1 ⟨rfl, hb⟩
    have HB : Hid _ := hb
    clear g hb
    go_wp2_with fail
    go_ret
    exact ⟨rfl, HB.out⟩
set_option maxRecDepth 100000 in
theorem rootK_yes (wide vars kind : Int) (v : Value) (t : List Nd) (w : World) (hT : Tab w) (h : NodesAt w v t) (r : Tr) (hk : kindL wide vars t = kind) (hk0 : kind = 1 ∨ kind = 2) (hr : pileT wide vars t t.length = some [⟨0, r.kind, r⟩]) (hrk : r.kind = kind) :
    Calls Tryd.prog 105 #[.int .i64 wide, .int .i64 vars, v, .int .i64 kind] w fun e w' => ∃ p, e = .returned (ptr p) ∧ TrAt w' (New (fun _ => False) w w') r p ∧ Below w.heap.size w w' := by
  have g := rootOf_new wide vars v t w hT h r (by omega) hr
  have HK : Hid _ := hrk
  clear hT h hk hr hrk
  go_enter Tryd.func105, Tryd.ntmps105
  go_wp2_with fail
  refine g.mono ?_
  rintro e w1 ⟨b, rfl, htr, hb⟩
  obtain ⟨ps, ⟨_, _, _, n2, _⟩, _⟩ := trAt_open htr
  rw [HK.out] at n2
  have HT : Hid _ := htr
  have HB : Hid _ := hb
  clear g htr hb
  go_wp2_with fail
  go_ret
  exact ⟨_, rfl, HT.out, HB.out⟩
theorem rootK_some (wide vars kind : Int) (v : Value) (t : List Nd) (w : World) (hT : Tab w) (h : NodesAt w v t) (hk0 : kind = 1 ∨ kind = 2) (hk : kindL wide vars t = kind) :
    Calls Tryd.prog 105 #[.int .i64 wide, .int .i64 vars, v, .int .i64 kind] w fun e w' => ∃ p, e = .returned (ptr p) ∧ Below w.heap.size w w' := by
  obtain ⟨_, _, _, _, _, r, hr, _, _, k3⟩ := root_tree (show 0 < kindL wide vars t by omega)
  exact (rootK_yes wide vars kind v t w hT h r hk hk0 hr (by rw [k3]; exact hk)).mono fun e w' ⟨p, he, _, hb⟩ => ⟨p, he, hb⟩
theorem infoCR : (Tryd.prog.info? 146).map (fun i => (i.zero, i.size, i.bytes)) = some (some (.agg #[.int .i64 0, .pointer none]), 2, 16) := by kernel_rfl
theorem cr_cells (w : World) (x y : Value) (e : TypeId) : ∀ (j : Nat) (u : Value), ([x, y] : List Value)[j]? = some u → (w.alloc (.cells #[x, y] e)).cell? ((⟨w.heap.size, 0, none⟩ : Addr).add j) = some u := by
  intro j u hu
  match j, hu with
  | 0, hu => simp at hu; subst hu; simp [Addr.add]
  | 1, hu => simp at hu; subst hu; simp [Addr.add]
theorem nextL_in (wide vars : Int) (cs : List Ch) (h : chsB wide vars 0 cs = true) : nextL 0 cs = 0 ∨ (0 ≤ nextL 0 cs ∧ nextL 0 cs ≤ vars) := by
  rcases List.eq_nil_or_concat cs with rfl | ⟨l, c, rfl⟩
  · exact Or.inl rfl
  · right
    rw [List.concat_eq_append] at h ⊢
    have hm := chsB_mem wide vars _ 0 h c (by simp)
    rw [nextL_append]
    show 0 ≤ c.1 + 1 ∧ c.1 + 1 ≤ vars
    omega
/-- what changeRoots answers, but for its rows -/
def CROut (w : World) (R : Bool) (e : Ending) (w' : World) : Prop := ∃ a n cap, e = .returned (.tuple #[.slice a n cap, .bool R]) ∧ Below w.heap.size w w'
theorem crOut_mk {w w' : World} {R R' : Bool} (a : Option Addr) (n cap : Nat) (h : R = R') (hb : Below w.heap.size w w') : CROut w R (.returned (.tuple #[.slice a n cap, .bool R'])) w' := ⟨a, n, cap, by rw [h], hb⟩
set_option maxRecDepth 100000 in
set_option maxHeartbeats 8000000 in
theorem changeRoots_any (wide vars : Int) (v : Value) (cs : List Ch) (hfv : Fit vars) (hn : cs.length ≤ 1048576) (w : World) (hT : Tab w) (h : PairsAt ChV w v cs) :
    Calls Tryd.prog 106 #[.int .i64 wide, .int .i64 vars, v] w (CROut w (chsB wide vars 0 cs)) := by
  obtain ⟨cha, chc, rfl, hcc⟩ := h.opened
  have HCS : Hid (∀ w1 : World, Below w.heap.size w w1 → ∀ (i : Nat) (d : Ch), cs[i]? = some d → ∃ b off : Nat, cha = some ⟨b, off, none⟩ ∧ ∃ y : Value, w1.cell? ⟨b, off + i * 2, none⟩ = some (.int .i64 d.1) ∧ w1.cell? ⟨b, off + i * 2 + 1, none⟩ = some y ∧ Fit d.1 ∧ NodesAt w1 y d.2) := fun w1 hb i d hi => by
    obtain ⟨b, off, e, hlt, x, y, h3, h4, h5⟩ := hcc i d hi
    obtain ⟨k0, rfl, k2⟩ := h5
    exact ⟨b, off, e, y, by rw [hb.cell (p := ⟨b, off + i * 2, none⟩) hlt]; exact h3, by rw [hb.cell (p := ⟨b, off + i * 2 + 1, none⟩) hlt]; exact h4, k0, k2.below hb⟩
  have GN : Hid (∀ (w1 : World) (u : Value) (t : List Nd), Below w.heap.size w w1 → NodesAt w1 u t → ¬ kindL wide vars t = 1 → Calls Tryd.prog 105 #[.int .i64 wide, .int .i64 vars, u, .int .i64 1] w1 fun e w' => e = .returned (.pointer none) ∧ Below w1.heap.size w1 w') := fun w1 u t hb hu hk => rootK_no wide vars 1 u t w1 (hT.below hb hT.some) hu (Or.inl rfl) hk
  have GY : Hid (∀ (w1 : World) (u : Value) (t : List Nd), Below w.heap.size w w1 → NodesAt w1 u t → kindL wide vars t = 1 → Calls Tryd.prog 105 #[.int .i64 wide, .int .i64 vars, u, .int .i64 1] w1 fun e w' => ∃ p, e = .returned (ptr p) ∧ Below w1.heap.size w1 w') := fun w1 u t hb hu hk => rootK_some wide vars 1 u t w1 (hT.below hb hT.some) hu (Or.inl rfl) hk
  clear h hcc hT
  generalize hR : chsB wide vars 0 cs = R at *
  have HR : Hid _ := hR
  clear hR
  obtain ⟨hf0, hf1⟩ := hfv
  obtain ⟨i0, hi, hz0, hz1, hz2⟩ := info_parts infoCR
  have HO0 : Hid (∃ ps : List (Value × Value), w.ownsRow w.heap.size 146 2 (.slice none 0 0) 0 (flatP ps)) := ⟨[], World.ownsRow_nil _ _ _ _⟩
  have HB00 : Hid (Below w.heap.size w w) := Below.refl _ _
  go_enter Tryd.func106, Tryd.ntmps106
  go_wp2_with fail
  go_loopw [8, 9, 15] (fun v l i wr => ∃ j : Nat, j ≤ cs.length ∧ i = .int .i64 j ∧ l = .int .i64 (nextL 0 (cs.take j)) ∧ Hid (chsB wide vars 0 (cs.take j) = true) ∧ Hid (∃ ps : List (Value × Value), wr.ownsRow w.heap.size 146 2 v j (flatP ps)) ∧ Hid (Below w.heap.size w wr)) (fun _ _ i _ => cs.length - (intOf i).toNat)
  case atStart => exact ⟨0, by omega, rfl, rfl, rfl, HO0, HB00⟩
  case round =>
    obtain ⟨j, hj, rfl, rfl, HA, HO, HB⟩ := hrel
    clear HO0 HB00
    obtain ⟨ps, hown⟩ := HO.out
    obtain ⟨va, vcap, rfl⟩ := own_shape hown
    clear HO
    have HOW : Hid _ := hown
    clear hown
    have hnx := nextL_in wide vars _ HA.out
    by_cases hlt : j < cs.length
    · obtain ⟨d, hd⟩ : ∃ d, cs[j]? = some d := ⟨cs[j], List.getElem?_eq_getElem hlt⟩
      obtain ⟨b, off, rfl, y, cx, cy, hfd, hny⟩ := HCS.out wr HB.out j d hd
      have hTk := chsB_take wide vars cs 0 j d hd HA.out
      have hnt := nextL_take cs 0 j d hd
      have HNT : Hid _ := hnt
      have HNK : Hid (NodesAt wr y d.2) := hny
      obtain ⟨ya, yc, rfl⟩ := hny.shape
      obtain ⟨x1, dt⟩ := d
      obtain ⟨hx0, hx1⟩ := hfd
      simp only at *
      generalize hnl : nextL 0 (cs.take j) = nx at *
      generalize dt.length = yn at *
      have hal := (Below.refl wr.heap.size wr).alloc (Nat.le_refl _) (.cells #[.int .i64 x1, .slice ya yn yc] 118)
      have hb2 : Below w.heap.size w (wr.alloc (.cells #[.int .i64 x1, .slice ya yn yc] 118)) := HB.out.alloc HB.out.size _
      have hny2 := HNK.out.below hal
      have z2 := box2_alloc wr 118 (.int .i64 x1) (.slice ya yn yc)
      have hown2 := World.ownsRow.alloc HOW.out (.cells #[.int .i64 x1, .slice ya yn yc] 118)
      have HOW2 : Hid _ := hown2
      have HB2 : Hid _ := hb2
      have HNY : Hid _ := hny2
      have hss : (wr.alloc (.cells #[.int .i64 x1, .slice ya yn yc] 118)).heap.size = wr.heap.size + 1 := World.size_alloc _ _
      have hbs := HB.out.size
      clear hny hal hb2 hny2 hown2 HCS HNK hd hnt
      by_cases hlo : x1 < nx
      · have HN : Hid (R = false) := HR.out.symm.trans (chsB_not wide vars cs 0 (j + 1) (by rw [hTk, decide_eq_false (by omega), Bool.false_and]))
        clear hTk GN GY HOW HOW2 z2 HNY
        go_wp2_with fail
        go_ret2
        exact crOut_mk _ _ _ HN.out HB2.out
      by_cases hhi : vars ≤ x1
      · have HN : Hid (R = false) := HR.out.symm.trans (chsB_not wide vars cs 0 (j + 1) (by rw [hTk, decide_eq_false (by omega), Bool.false_and]))
        clear hTk GN GY HOW HOW2 z2 HNY
        go_wp2_with fail
        go_ret2
        exact crOut_mk _ _ _ HN.out HB2.out
      by_cases hk : kindL wide vars dt = 1
      case neg =>
        have hkb : (kindL wide vars dt == 1) = false := beq_eq_false_iff_ne.2 hk
        have HN : Hid (R = false) := HR.out.symm.trans (chsB_not wide vars cs 0 (j + 1) (by rw [hTk, hkb, Bool.and_false]))
        have g := GN.out _ _ dt HB2.out HNY.out hk
        clear hTk GN GY HOW HOW2 z2 HNY hkb hk
        go_wp2_with fail
        refine g.mono ?_
        rintro e w3 ⟨rfl, hs⟩
        have HB3 : Hid (Below w.heap.size w w3) := HB2.out.trans (hs.mono HB2.out.size)
        clear g hs
        go_wp2_with fail
        go_ret2
        exact crOut_mk _ _ _ HN.out HB3.out
      have hkb : (kindL wide vars dt == 1) = true := beq_iff_eq.2 hk
      have HN : Hid (chsB wide vars 0 (cs.take (j + 1)) = true) := by
        show chsB wide vars 0 (cs.take (j + 1)) = true
        rw [hTk, decide_eq_true (by omega), hkb]
        rfl
      have g := GY.out _ _ dt HB2.out HNY.out hk
      clear hTk GN GY HOW HNY hkb hk
      go_wp2_with fail
      refine g.mono ?_
      generalize wr.alloc (.cells #[.int .i64 x1, .slice ya yn yc] 118) = w2 at *
      rintro e w3 ⟨pb, rfl, hs⟩
      have hs3 := hs.size
      have z3 := z2.below hs z2.lt
      obtain ⟨c0, c1⟩ := z3.cells
      have ch := z3.heap
      have cl := z3.lt
      have own3 := own_same HOW2.out (fun q hq => (own_block HOW2.out hq).2) (fun i _ hi => hs.block i hi)
      have own6 := World.ownsRow.alloc own3 (.cells #[.int .i64 x1, ptr pb] 146)
      have hb6 : Below w.heap.size w (w3.alloc (.cells #[.int .i64 x1, ptr pb] 146)) := (HB2.out.trans (hs.mono HB2.out.size)).alloc (by omega) _
      have hs6 := hb6.size
      have z6 := z3.alloc (.cells #[.int .i64 x1, ptr pb] 146)
      have cells6 := cr_cells w3 (.int .i64 x1) (ptr pb) 146
      have hlen6 := own6.1
      clear hs g z2 own3 HOW2
      go_wp2_with (at_builtin; refine wpList_append_own _ rfl _ _ 102 rfl w.heap.size 146 i0 (.agg #[.int .i64 0, .pointer none]) 2 16 Tryd.underlying102 hi hz0 hz1 hz2 rfl (by decide) _ _ _ rfl own6 ⟨w3.heap.size, 0, none⟩ 1 1 [.int .i64 x1, ptr pb] rfl rfl cells6 (by simp [Value.oneCell']) (by unfold maxLen; omega) (by omega) hs6 ?_)
      intro v9 w9 own9 grow9 hnew9
      have HB9 : Hid (Below w.heap.size w w9) := hb6.grown grow9 hs6 (fun k hk => (own_block own6 hk).1)
      have HO9 : Hid (∃ ps : List (Value × Value), w9.ownsRow w.heap.size 146 2 v9 (j + 1) (flatP ps)) := ⟨ps ++ [(.int .i64 x1, ptr pb)], by rw [flatP_append]; exact own9⟩
      have z9 : Box2 w9 wr.heap.size 118 (.int .i64 x1) (.slice ya yn yc) := by
        refine ⟨?_⟩
        rw [grow9.block _ z6.lt ?_]
        · exact z6.heap
        · intro e
          rcases own6.2 with ⟨h1, _⟩ | ⟨g, cap, cur, h1, h2, h3, _⟩
          · rw [h1] at e
            cases e
          · rw [h1] at e
            have e2 : g = wr.heap.size := (Option.some.inj e).symm
            subst e2
            rw [z6.heap] at h3
            simp only [Option.some.injEq] at h3
            injection h3 with _ h8
            exact absurd h8 (by decide)
      obtain ⟨m0, m1⟩ := z9.cells
      have mh := z9.heap
      have ml := z9.lt
      clear own6 own9 grow9 hb6 z3 z6 z9 cells6 c0 c1 ch cl hnew9
      go_wp2_with fail
      go_roundw
      case rel => exact ⟨j + 1, by omega, by go_num, by rw [HNT.out], HN, HO9, HB9⟩
      case measure => simp [intOf]; omega
    · obtain rfl : j = cs.length := by omega
      have HN : Hid (R = true) := by
        have h1 := HA.out
        rw [List.take_length] at h1
        exact HR.out.symm.trans h1
      clear HCS GN GY HOW HA
      go_wp2_with fail
      go_ret2
      exact crOut_mk _ _ _ HN.out HB.out
end Go.Proofs.YtmhpnkfibecnmaaDoor

namespace Go.Proofs.YtmhpnkfibecnmaaDoor
open Go Go.RowKit
open M
set_option linter.unusedVariables false

/-- what rootsOf answers, but for the rows of its commands -/
def RootsOut (w : World) (p : Pg) (e : Ending) (w' : World) : Prop :=
  ((goodP p = true ∧ ∃ (P : Nat) (x y : Value), e = .returned (ptr P) ∧ w.heap.size ≤ P ∧ Box4 w' P 107 (.int .i64 p.1) (.int .i64 p.2.1) x y) ∨ (goodP p = false ∧ e = .returned (.pointer none))) ∧ Below w.heap.size w w'
theorem rootsOut_no {w w' : World} {p : Pg} (h : goodP p = false) (hb : Below w.heap.size w w') : RootsOut w p (.returned (.pointer none)) w' := ⟨Or.inr ⟨h, rfl⟩, hb⟩
theorem rootsOut_yes {w w' : World} {p : Pg} (P : Nat) (x y : Value) (h : goodP p = true) (hp : w.heap.size ≤ P) (hx : Box4 w' P 107 (.int .i64 p.1) (.int .i64 p.2.1) x y) (hb : Below w.heap.size w w') : RootsOut w p (.returned (.pointer (some ⟨P, 0, none⟩))) w' := ⟨Or.inl ⟨h, P, x, y, rfl, hp, hx⟩, hb⟩
theorem infoCm : (Tryd.prog.info? 104).map (fun i => (i.zero, i.size, i.bytes)) = some (some (.agg #[.pointer none, .slice none 0 0]), 2, 32) := by kernel_rfl
set_option maxRecDepth 100000 in
set_option maxHeartbeats 8000000 in
theorem rootsOf_any (v : Value) (p : Pg) (ok : PgOk p) (w : World) (hT : Tab w) (h : AtProg w v p) :
    Calls Tryd.prog 57 #[v] w (RootsOut w p) := by
  obtain ⟨⟨hfw0, hfw1⟩, ⟨hfv0, hfv1⟩, s, c, rfl, hst, hcm⟩ := h
  obtain ⟨sa, sc, rfl⟩ := hst.shape
  obtain ⟨ca, cc, rfl, hcc⟩ := hcm.opened
  have hcl := hcm.1
  have HOK : Hid (∀ x ∈ p.2.2.2, CmOk x) := ok.2.2.2.2
  have HCS : Hid (∀ w1 : World, Below w.heap.size w w1 → ∀ (i : Nat) (d : Cm), p.2.2.2[i]? = some d → ∃ b off : Nat, ca = some ⟨b, off, none⟩ ∧ ∃ x y : Value, w1.cell? ⟨b, off + i * 2, none⟩ = some x ∧ w1.cell? ⟨b, off + i * 2 + 1, none⟩ = some y ∧ NodesAt w1 x d.1 ∧ PairsAt ChV w1 y d.2) := fun w1 hb i d hi => by
    obtain ⟨b, off, e, hlt, x, y, h3, h4, h5⟩ := hcc i d hi
    exact ⟨b, off, e, x, y, by rw [hb.cell (p := ⟨b, off + i * 2, none⟩) hlt]; exact h3, by rw [hb.cell (p := ⟨b, off + i * 2 + 1, none⟩) hlt]; exact h4, h5.1.below hb, h5.2.below chV_frame hb⟩
  have GN : Hid (∀ (w1 : World) (u : Value) (t : List Nd), Below w.heap.size w w1 → NodesAt w1 u t → ¬ kindL p.1 p.2.1 t = 2 → Calls Tryd.prog 105 #[.int .i64 p.1, .int .i64 p.2.1, u, .int .i64 2] w1 fun e w' => e = .returned (.pointer none) ∧ Below w1.heap.size w1 w') := fun w1 u t hb hu hk => rootK_no _ _ 2 u t w1 (hT.below hb hT.some) hu (Or.inr rfl) hk
  have GY : Hid (∀ (w1 : World) (u : Value) (t : List Nd), Below w.heap.size w w1 → NodesAt w1 u t → kindL p.1 p.2.1 t = 2 → Calls Tryd.prog 105 #[.int .i64 p.1, .int .i64 p.2.1, u, .int .i64 2] w1 fun e w' => ∃ q, e = .returned (ptr q) ∧ Below w1.heap.size w1 w') := fun w1 u t hb hu hk => rootK_some _ _ 2 u t w1 (hT.below hb hT.some) hu (Or.inr rfl) hk
  have GC : Hid (∀ (w1 : World) (u : Value) (t : List Ch), Below w.heap.size w w1 → PairsAt ChV w1 u t → t.length ≤ 1048576 → Calls Tryd.prog 106 #[.int .i64 p.1, .int .i64 p.2.1, u] w1 (CROut w1 (chsB p.1 p.2.1 0 t))) := fun w1 u t hb hu hl => changeRoots_any _ _ u t ⟨hfv0, hfv1⟩ hl w1 (hT.below hb hT.some) hu
  have hR0 : goodP p = ((kindL p.1 p.2.1 p.2.2.1 == 2) && (decide (1 ≤ p.2.2.2.length ∧ p.2.2.2.length ≤ 6) && p.2.2.2.all (cmB p.1 p.2.1))) := rfl
  have HR : Hid _ := hR0
  have HST : Hid (∀ w1 : World, Below w.heap.size w w1 → NodesAt w1 (.slice sa p.2.2.1.length sc) p.2.2.1) := fun w1 hb => hst.below hb
  have HP1 : Hid (p.1 = p.1 ∧ p.2.1 = p.2.1) := ⟨rfl, rfl⟩
  clear hcc hcm hst hT ok hR0 HP1
  obtain ⟨i0, hi, hz0, hz1, hz2⟩ := info_parts infoCm
  have HB0 : Hid (Below w.heap.size w (w.alloc (.cells #[.int .i64 p.1, .int .i64 p.2.1, .slice sa p.2.2.1.length sc, .slice ca p.2.2.2.length cc] 27))) := (Below.refl _ _).alloc (Nat.le_refl _) _
  have x0 := box4_alloc w 27 (.int .i64 p.1) (.int .i64 p.2.1) (.slice sa p.2.2.1.length sc) (.slice ca p.2.2.2.length cc)
  have HX0 : Hid _ := x0
  have hns := HST.out _ HB0.out
  clear x0
  by_cases hks : kindL p.1 p.2.1 p.2.2.1 = 2
  case neg =>
    have hkb : (kindL p.1 p.2.1 p.2.2.1 == 2) = false := beq_eq_false_iff_ne.2 hks
    have HN : Hid (goodP p = false) := by
      show goodP p = false
      rw [HR.out, hkb, Bool.false_and]
    have g := GN.out _ _ _ HB0.out hns hks
    clear GN GY GC HCS HR HST hns hks hkb HX0 HOK
    generalize p.2.2.1.length = sn at *
    generalize p.2.2.2.length = cn at *
    go_enter Tryd.func57, Tryd.ntmps57
    go_wp2_with fail
    refine g.mono ?_
    rintro e w1 ⟨rfl, hs⟩
    have HB1 : Hid (Below w.heap.size w w1) := Below.step HB0.out HB0.out.size hs
    clear hs g
    go_wp2_with fail
    go_ret
    exact rootsOut_no HN.out HB1.out
  have hkb : (kindL p.1 p.2.1 p.2.2.1 == 2) = true := beq_iff_eq.2 hks
  have g := GY.out _ _ _ HB0.out hns hks
  by_cases hcn : 1 ≤ p.2.2.2.length ∧ p.2.2.2.length ≤ 6
  case neg =>
    have HN : Hid (goodP p = false) := by
      show goodP p = false
      rw [HR.out, decide_eq_false hcn, Bool.false_and, Bool.and_false]
    clear GN GY GC HCS HR HST hns hks hkb HOK
    generalize p.2.2.1.length = sn at *
    generalize p.2.2.2.length = cn at *
    by_cases hc1 : cn < 1
    · go_enter Tryd.func57, Tryd.ntmps57
      go_wp2_with fail
      refine g.mono ?_
      generalize w.alloc (.cells #[.int .i64 p.1, .int .i64 p.2.1, .slice sa sn sc, .slice ca cn cc] 27) = w0 at *
      rintro e w1 ⟨q, rfl, hs⟩
      have HB1 : Hid (Below w.heap.size w w1) := Below.step HB0.out HB0.out.size hs
      have x1 := HX0.out.below hs HX0.out.lt
      obtain ⟨a0, a1, a2, a3⟩ := x1.cells
      have ah := x1.heap
      have al := x1.lt
      clear hs g x1
      go_wp2_with fail
      go_ret
      exact rootsOut_no HN.out HB1.out
    · have hc6 : 6 < cn := by omega
      go_enter Tryd.func57, Tryd.ntmps57
      go_wp2_with fail
      refine g.mono ?_
      generalize w.alloc (.cells #[.int .i64 p.1, .int .i64 p.2.1, .slice sa sn sc, .slice ca cn cc] 27) = w0 at *
      rintro e w1 ⟨q, rfl, hs⟩
      have HB1 : Hid (Below w.heap.size w w1) := Below.step HB0.out HB0.out.size hs
      have x1 := HX0.out.below hs HX0.out.lt
      obtain ⟨a0, a1, a2, a3⟩ := x1.cells
      have ah := x1.heap
      have al := x1.lt
      clear hs g x1
      go_wp2_with fail
      go_ret
      exact rootsOut_no HN.out HB1.out
  obtain ⟨hc1, hc6⟩ := hcn
  have HR2 : Hid (goodP p = p.2.2.2.all (cmB p.1 p.2.1)) := by
    show goodP p = _
    rw [HR.out, hkb, decide_eq_true ⟨hc1, hc6⟩, Bool.true_and, Bool.true_and]
  clear HR HST hns hks hkb
  have HPE : Hid (∀ (P : Nat) (x y : Value) (w' : World), goodP p = true → w.heap.size ≤ P → Box4 w' P 107 (.int .i64 p.1) (.int .i64 p.2.1) x y → Below w.heap.size w w' → RootsOut w p (.returned (.pointer (some ⟨P, 0, none⟩))) w') := fun P x y w' h1 h2 h3 h4 => rootsOut_yes P x y h1 h2 h3 h4
  have HNO : Hid (∀ w' : World, goodP p = false → Below w.heap.size w w' → RootsOut w p (.returned (.pointer none)) w') := fun w' h1 h2 => rootsOut_no h1 h2
  generalize RootsOut w p = OUT at *
  generalize goodP p = GP at *
  generalize hcs : p.2.2.2 = cs at *
  generalize p.2.2.1.length = sn at *
  generalize p.1 = pw at *
  generalize p.2.1 = pv at *
  clear hcs
  go_enter Tryd.func57, Tryd.ntmps57
  go_wp2_with fail
  refine g.mono ?_
  generalize w.alloc (.cells #[.int .i64 pw, .int .i64 pv, .slice sa sn sc, .slice ca cs.length cc] 27) = w0 at *
  rintro e w1 ⟨q, rfl, hs⟩
  have hb1 : Below w.heap.size w w1 := Below.step HB0.out HB0.out.size hs
  have hsw1 := hb1.size
  have x1 := HX0.out.below hs HX0.out.lt
  have hlt1 := x1.lt
  obtain ⟨a0, a1, a2, a3⟩ := x1.cells
  have ah := x1.heap
  have al := x1.lt
  have y1 := box4_alloc w1 107 (.int .i64 pw) (.int .i64 pv) (ptr q) (.slice none 0 0)
  have hal := (Below.refl w1.heap.size w1).alloc (Nat.le_refl _) (.cells #[.int .i64 pw, .int .i64 pv, ptr q, .slice none 0 0] 107)
  have hb2 := hb1.trans (hal.mono hb1.size)
  have x2 := x1.below hal x1.lt
  have hss2 : (w1.alloc (.cells #[.int .i64 pw, .int .i64 pv, ptr q, .slice none 0 0] 107)).heap.size = w1.heap.size + 1 := World.size_alloc _ _
  have HXP : Hid (∀ w3, Below (w1.heap.size) (w1.alloc (.cells #[.int .i64 pw, .int .i64 pv, ptr q, .slice none 0 0] 107)) w3 → Box4 w3 w.heap.size 27 (.int .i64 pw) (.int .i64 pv) (.slice sa sn sc) (.slice ca cs.length cc)) := fun w3 hb3 => x2.below hb3 (by omega)
  have HB2 : Hid _ := hb2
  have hy1 := y1
  have HY1 : Hid _ := hy1
  have HBB : Hid (Below w1.heap.size (w1.alloc (.cells #[.int .i64 pw, .int .i64 pv, ptr q, .slice none 0 0] 107)) (w1.alloc (.cells #[.int .i64 pw, .int .i64 pv, ptr q, .slice none 0 0] 107))) := Below.refl _ _
  have HO1 : Hid (∃ (vv : Value) (ps : List (Value × Value)), Box4 (w1.alloc (.cells #[.int .i64 pw, .int .i64 pv, ptr q, .slice none 0 0] 107)) w1.heap.size 107 (.int .i64 pw) (.int .i64 pv) (ptr q) vv ∧ (w1.alloc (.cells #[.int .i64 pw, .int .i64 pv, ptr q, .slice none 0 0] 107)).ownsRow (w1.heap.size + 1) 104 2 vv 0 (flatP ps)) := ⟨_, [], y1, World.ownsRow_nil _ _ _ _⟩
  clear hs g hal hb2 hb1 x1 x2 y1 hy1 HX0 HB0
  go_wp2_with fail
  generalize w1.alloc (.cells #[.int .i64 pw, .int .i64 pv, ptr q, .slice none 0 0] 107) = w2 at *
  go_loopw [41] (fun i wr => ∃ j : Nat, j ≤ cs.length ∧ i = .int .i64 j ∧ Hid ((cs.take j).all (cmB pw pv) = true) ∧ Hid (∃ (vv : Value) (ps : List (Value × Value)), Box4 wr w1.heap.size 107 (.int .i64 pw) (.int .i64 pv) (ptr q) vv ∧ wr.ownsRow (w1.heap.size + 1) 104 2 vv j (flatP ps)) ∧ Hid (Below w.heap.size w wr) ∧ Hid (Below w1.heap.size w2 wr)) (fun i _ => cs.length - (intOf i).toNat)
  case atStart => exact ⟨0, by omega, rfl, rfl, HO1, HB2, HBB⟩
  case round =>
    obtain ⟨j, hj, rfl, HA, HO, HB, HBX⟩ := hrel
    clear HO1 HB2 HBB a0 a1 a2 a3 ah al
    obtain ⟨vv, ps, hbox, hown⟩ := HO.out
    obtain ⟨va, vcap, rfl⟩ := own_shape hown
    have HBOX : Hid _ := hbox
    have HOWN : Hid _ := hown
    have hbs := HBX.out.size
    clear HO hbox hown
    by_cases hlt : j < cs.length
    · obtain ⟨d, hd⟩ : ∃ d, cs[j]? = some d := ⟨cs[j], List.getElem?_eq_getElem hlt⟩
      obtain ⟨b, off, rfl, x, y, cx, cy, hnx, hny⟩ := HCS.out wr HB.out j d hd
      have HD : Hid (cs[j]? = some d) := hd
      have hok := HOK.out d (List.mem_of_getElem? hd)
      have hcb : cmB pw pv d = ((kindL pw pv d.1 == 2) && chsB pw pv 0 d.2) := rfl
      have HCB : Hid _ := hcb
      obtain ⟨xa, xc, rfl⟩ := hnx.shape
      obtain ⟨ya, yc, rfl⟩ := hny.shape
      have HNX : Hid (NodesAt wr (.slice xa d.1.length xc) d.1) := hnx
      have HNY : Hid (PairsAt ChV wr (.slice ya d.2.length yc) d.2) := hny
      have hdl2 := hok.2.1
      clear hnx hny hd hok hcb HCS HOK
      have hal := (Below.refl wr.heap.size wr).alloc (Nat.le_refl _) (.cells #[.slice xa d.1.length xc, .slice ya d.2.length yc] 98)
      have hb3 : Below w.heap.size w (wr.alloc (.cells #[.slice xa d.1.length xc, .slice ya d.2.length yc] 98)) := HB.out.alloc HB.out.size _
      have hbx3 : Below w1.heap.size w2 (wr.alloc (.cells #[.slice xa d.1.length xc, .slice ya d.2.length yc] 98)) := HBX.out.alloc (by omega) _
      have z3 := box2_alloc wr 98 (.slice xa d.1.length xc) (.slice ya d.2.length yc)
      obtain ⟨dw, dc⟩ := d
      simp only at *
      have HNX3 := HNX.out.below hal
      have HNY3 : Hid (∀ w4 : World, Below (wr.alloc (.cells #[.slice xa dw.length xc, .slice ya dc.length yc] 98)).heap.size (wr.alloc (.cells #[.slice xa dw.length xc, .slice ya dc.length yc] 98)) w4 → PairsAt ChV w4 (.slice ya dc.length yc) dc) := fun w4 hb4 => (HNY.out.below chV_frame hal).below chV_frame hb4
      have hq := HXP.out _ hbx3
      obtain ⟨a0, a1, a2, a3⟩ := hq.cells
      have ah := hq.heap
      have al := hq.lt
      have hss3 : (wr.alloc (.cells #[.slice xa dw.length xc, .slice ya dc.length yc] 98)).heap.size = wr.heap.size + 1 := World.size_alloc _ _
      have HBOX3 : Hid (Box4 (wr.alloc (.cells #[.slice xa dw.length xc, .slice ya dc.length yc] 98)) w1.heap.size 107 (.int .i64 pw) (.int .i64 pv) (ptr q) (.slice va j vcap)) := HBOX.out.below hal HBOX.out.lt
      have HOWN3 : Hid ((wr.alloc (.cells #[.slice xa dw.length xc, .slice ya dc.length yc] 98)).ownsRow (w1.heap.size + 1) 104 2 (.slice va j vcap) j (flatP ps)) := own_same HOWN.out (fun q hq => (own_block HOWN.out hq).2) (fun i _ hi => hal.block i hi)
      have HB3 : Hid _ := hb3
      have HBX3 : Hid _ := hbx3
      clear hal hb3 hbx3 hq HBOX HOWN HNX HNY HB HBX
      by_cases hk : kindL pw pv dw = 2
      case neg =>
        have g := GN.out _ _ dw HB3.out HNX3 hk
        have GCD : Hid (∀ (w1 : World) (u : Value), Below w.heap.size w w1 → PairsAt ChV w1 u dc → Calls Tryd.prog 106 #[.int .i64 pw, .int .i64 pv, u] w1 (CROut w1 (chsB pw pv 0 dc))) := fun w1 u hb hu => GC.out w1 u dc hb hu hdl2
        clear HNX3 GC hdl2
        generalize dw.length = xn at *
        generalize dc.length = yn at *
        go_wp2_with fail
        refine g.mono ?_
        generalize wr.alloc (.cells #[.slice xa xn xc, .slice ya yn yc] 98) = w3 at *
        rintro e w4 ⟨rfl, hs⟩
        have hs4 := hs.size
        have z4 := z3.below hs z3.lt
        have hbx4 : Below w1.heap.size w2 w4 := HBX3.out.trans (hs.mono (by omega))
        have hq := HXP.out _ hbx4
        have HBOX4 : Hid (Box4 w4 w1.heap.size 107 (.int .i64 pw) (.int .i64 pv) (ptr q) (.slice va j vcap)) := HBOX3.out.below hs HBOX3.out.lt
        have HOWN4 : Hid (w4.ownsRow (w1.heap.size + 1) 104 2 (.slice va j vcap) j (flatP ps)) := own_same HOWN3.out (fun q hq => (own_block HOWN3.out hq).2) (fun i _ hi => hs.block i hi)
        clear a0 a1 a2 a3 ah al
        obtain ⟨a0, a1, a2, a3⟩ := hq.cells
        have ah := hq.heap
        have al := hq.lt
        obtain ⟨c0, c1⟩ := z4.cells
        have ch := z4.heap
        have cl := z4.lt
        have HB4 : Hid (Below w.heap.size w w4) := HB3.out.trans (hs.mono HB3.out.size)
        have gc := GCD.out w4 (.slice ya yn yc) HB4.out (HNY3.out w4 hs)
        have HBX4 : Hid _ := hbx4
        clear g hs z3 hq HBOX3 HOWN3 HB3 HBX3 HNY3 hbx4 GN GY GCD
        go_wp2_with fail
        refine gc.mono ?_
        rintro e w5 hcr
        unfold CROut at hcr
        obtain ⟨ra, rn, rc, rfl, hs⟩ := hcr
        have hs5 := hs.size
        have HB5 : Hid (Below w.heap.size w w5) := HB4.out.trans (hs.mono HB4.out.size)
        have hkb : (kindL pw pv dw == 2) = false := beq_eq_false_iff_ne.2 hk
        have HN : Hid (GP = false) := HR2.out.trans (allNot HD.out (by rw [HCB.out, hkb, Bool.false_and]))
        clear hs gc z4 hkb hk HCB HD HA HR2 HBOX4 HOWN4
        go_wp2_with fail
        exact HNO.out _ HN.out HB5.out
      have g := GY.out _ _ dw HB3.out HNX3 hk
      have GCD : Hid (∀ (w1 : World) (u : Value), Below w.heap.size w w1 → PairsAt ChV w1 u dc → Calls Tryd.prog 106 #[.int .i64 pw, .int .i64 pv, u] w1 (CROut w1 (chsB pw pv 0 dc))) := fun w1 u hb hu => GC.out w1 u dc hb hu hdl2
      clear HNX3 GC hdl2
      generalize dw.length = xn at *
      generalize dc.length = yn at *
      go_wp2_with fail
      refine g.mono ?_
      generalize wr.alloc (.cells #[.slice xa xn xc, .slice ya yn yc] 98) = w3 at *
      rintro e w4 ⟨qb, rfl, hs⟩
      have hs4 := hs.size
      have z4 := z3.below hs z3.lt
      have hbx4 : Below w1.heap.size w2 w4 := HBX3.out.trans (hs.mono (by omega))
      have hq := HXP.out _ hbx4
      have HBOX4 : Hid (Box4 w4 w1.heap.size 107 (.int .i64 pw) (.int .i64 pv) (ptr q) (.slice va j vcap)) := HBOX3.out.below hs HBOX3.out.lt
      have HOWN4 : Hid (w4.ownsRow (w1.heap.size + 1) 104 2 (.slice va j vcap) j (flatP ps)) := own_same HOWN3.out (fun q hq => (own_block HOWN3.out hq).2) (fun i _ hi => hs.block i hi)
      clear a0 a1 a2 a3 ah al
      obtain ⟨a0, a1, a2, a3⟩ := hq.cells
      have ah := hq.heap
      have al := hq.lt
      obtain ⟨c0, c1⟩ := z4.cells
      have ch := z4.heap
      have cl := z4.lt
      have HB4 : Hid (Below w.heap.size w w4) := HB3.out.trans (hs.mono HB3.out.size)
      have gc := GCD.out w4 (.slice ya yn yc) HB4.out (HNY3.out w4 hs)
      have HBX4 : Hid _ := hbx4
      clear g hs z3 hq HBOX3 HOWN3 HB3 HBX3 HNY3 hbx4 GN GY GCD
      go_wp2_with fail
      refine gc.mono ?_
      rintro e w5 hcr
      unfold CROut at hcr
      obtain ⟨ra, rn, rc, rfl, hs⟩ := hcr
      have hs5 := hs.size
      have HB5 : Hid (Below w.heap.size w w5) := HB4.out.trans (hs.mono HB4.out.size)
      have hkb : (kindL pw pv dw == 2) = true := beq_iff_eq.2 hk
      cases hch : chsB pw pv 0 dc with
      | false =>
        have HN : Hid (GP = false) := HR2.out.trans (allNot HD.out (by rw [HCB.out, hch, Bool.and_false]))
        clear hs gc z4 hkb hk HCB HD HA HR2 HBOX4 HOWN4 hch
        go_wp2_with fail
        exact HNO.out _ HN.out HB5.out
      | true =>
        have HN : Hid ((cs.take (j + 1)).all (cmB pw pv) = true) := allTake HD.out HA.out (by rw [HCB.out, hkb, hch]; rfl)
        have hbx5 : Below w1.heap.size w2 w5 := HBX4.out.trans (hs.mono (by have := HBX4.out.size; omega))
        have hy5 := HBOX4.out.below hs HBOX4.out.lt
        have own5 := own_same HOWN4.out (fun q hq => (own_block HOWN4.out hq).2) (fun i _ hi => hs.block i hi)
        have own6 := World.ownsRow.alloc own5 (.cells #[ptr qb, .slice ra rn rc] 104)
        have hb6 : Below w.heap.size w (w5.alloc (.cells #[ptr qb, .slice ra rn rc] 104)) := HB5.out.alloc HB5.out.size _
        have hbx6 : Below w1.heap.size w2 (w5.alloc (.cells #[ptr qb, .slice ra rn rc] 104)) := hbx5.alloc (by have := hbx5.size; omega) _
        have hy6 := hy5.alloc (.cells #[ptr qb, .slice ra rn rc] 104)
        obtain ⟨r0, r1, r2, r3⟩ := hy5.cells
        have rh := hy5.heap
        have rl := hy5.lt
        have cells6 := cr_cells w5 (ptr qb) (.slice ra rn rc) 104
        have hlen6 := own6.1
        have hss6 : (w5.alloc (.cells #[ptr qb, .slice ra rn rc] 104)).heap.size = w5.heap.size + 1 := World.size_alloc _ _
        have hbs6 := hbx5.size
        have hs6 : w1.heap.size + 1 ≤ (w5.alloc (.cells #[ptr qb, .slice ra rn rc] 104)).heap.size := by omega
        clear hs gc z4 hkb hk HCB HD HA HBOX4 HOWN4 hch own5 hy5 HB4 HBX4 a0 a1 a2 a3 ah al c0 c1 ch cl
        go_wp2_with (at_builtin; refine wpList_append_own _ rfl _ _ 105 rfl (w1.heap.size + 1) 104 i0 (.agg #[.pointer none, .slice none 0 0]) 2 32 Tryd.underlying105 hi hz0 hz1 hz2 rfl (by decide) _ _ _ rfl own6 ⟨w5.heap.size, 0, none⟩ 1 1 [ptr qb, .slice ra rn rc] rfl rfl cells6 (by simp [Value.oneCell']) (by unfold maxLen; omega) (by omega) hs6 ?_)
        intro v9 w9 own9 grow9 hnew9
        have hy9 : Box4 w9 w1.heap.size 107 (.int .i64 pw) (.int .i64 pv) (ptr q) (.slice va j vcap) := by
          refine ⟨?_⟩
          rw [grow9.block _ hy6.lt ?_]
          · exact hy6.heap
          · intro e
            have := own_block own6 e.symm
            omega
        have hb9 : Below w.heap.size w w9 := hb6.grown grow9 (by omega) (fun k hk => by have := (own_block own6 hk).1; omega)
        have hbx9 : Below w1.heap.size w2 w9 := hbx6.grown grow9 (by omega) (fun k hk => by have := (own_block own6 hk).1; omega)
        obtain ⟨v9a, v9c, rfl⟩ := own_shape own9
        obtain ⟨m0, m1, m2, m3⟩ := hy9.cells
        have mh := hy9.heap
        have ml := hy9.lt
        have mf := hy9.frozen 3
        have HY10 : Hid _ := hy9.set3 (.slice v9a (j + 1) v9c)
        have HB10 : Hid (Below w.heap.size w (w9.setCell ⟨w1.heap.size, 3, none⟩ (.slice v9a (j + 1) v9c))) := hb9.setCell (by show w.heap.size ≤ w1.heap.size; omega) _
        have HBX10 : Hid (Below w1.heap.size w2 (w9.setCell ⟨w1.heap.size, 3, none⟩ (.slice v9a (j + 1) v9c))) := hbx9.setCell (Nat.le_refl _) _
        have HO10 : Hid ((w9.setCell ⟨w1.heap.size, 3, none⟩ (.slice v9a (j + 1) v9c)).ownsRow (w1.heap.size + 1) 104 2 (.slice v9a (j + 1) v9c) (j + 1) (flatP (ps ++ [(ptr qb, .slice ra rn rc)]))) := by
          show World.ownsRow _ _ _ _ _ _ _
          rw [flatP_append]
          exact own_same (lo := w1.heap.size + 1) own9 (fun q hq => (own_block own9 hq).2) (same_set (Nat.lt_succ_self _))
        clear own6 own9 grow9 hb6 hbx6 hy6 hb9 hbx9 hy9 cells6 r0 r1 r2 r3 rh rl hnew9
        go_wp2_with fail
        go_roundw
        case rel => exact ⟨j + 1, by omega, by go_num, HN, ⟨_, _, HY10.out, HO10.out⟩, HB10, HBX10⟩
        case measure => simp [intOf]; omega
    · obtain rfl : j = cs.length := by omega
      have HN : Hid (GP = true) := by
        have h1 := HA.out
        rw [List.take_length] at h1
        exact HR2.out.trans h1
      clear HCS GN GY GC HA HOWN HR2
      go_wp2_with fail
      exact HPE.out _ _ _ _ HN.out (by omega) HBOX.out HB.out
end Go.Proofs.YtmhpnkfibecnmaaDoor

namespace Go.Proofs.YtmhpnkfibecnmaaDoor
open Go Go.RowKit
open M
set_option linter.unusedVariables false

/-- a term of a kind, as its tree lies: blocks that S takes -/
def RtAt (w : World) (S : Nat → Prop) (wide vars kind : Int) (t : List Nd) (z : Value) : Prop := ∃ (r : Tr) (b : Nat), z = ptr b ∧ r.flat = t ∧ r.Ok wide vars ∧ r.kind = kind ∧ r.size ≤ 48 ∧ TrAt w S r b
theorem RtAt.frame {w w' : World} {S S' : Nat → Prop} {wide vars kind : Int} {t : List Nd} {z : Value} (h : RtAt w S wide vars kind t z) (hs : ∀ k, S k → S' k) (hk : ∀ k, S k → w'.heap[k]? = w.heap[k]?) : RtAt w' S' wide vars kind t z := by
  obtain ⟨r, b, h1, h2, h3, h4, h5, h6⟩ := h
  exact ⟨r, b, h1, h2, h3, h4, h5, TrAt.frame hs hk h6⟩
def CrEl (w : World) (S : Nat → Prop) (wide vars : Int) (c : Ch) (x y : Value) : Prop := x = .int .i64 c.1 ∧ RtAt w S wide vars 1 c.2 y
/-- a row of changes with their trees, to be read: blocks that S takes -/
def CrAt (w : World) (S : Nat → Prop) (wide vars : Int) (v : Value) (cs : List Ch) : Prop :=
  (cs = [] ∧ v = .slice none 0 0) ∨ ∃ g cap : Nat, v = .slice (some ⟨g, 0, none⟩) cs.length cap ∧ S g ∧ g < w.heap.size ∧ ∀ (i : Nat) (c : Ch), cs[i]? = some c → ∃ x y : Value, w.cell? ⟨g, i * 2, none⟩ = some x ∧ w.cell? ⟨g, i * 2 + 1, none⟩ = some y ∧ CrEl w S wide vars c x y
theorem CrEl.frame {w w' : World} {S S' : Nat → Prop} {wide vars : Int} {c : Ch} {x y : Value} (h : CrEl w S wide vars c x y) (hs : ∀ k, S k → S' k) (hk : ∀ k, S k → w'.heap[k]? = w.heap[k]?) : CrEl w' S' wide vars c x y := ⟨h.1, h.2.frame hs hk⟩
theorem CrAt.frame {w w' : World} {S S' : Nat → Prop} {wide vars : Int} {v : Value} {cs : List Ch} (h : CrAt w S wide vars v cs) (hz : w.heap.size ≤ w'.heap.size) (hs : ∀ k, S k → S' k) (hk : ∀ k, S k → w'.heap[k]? = w.heap[k]?) : CrAt w' S' wide vars v cs := by
  rcases h with h | ⟨g, cap, h1, h2, h3, h4⟩
  · exact Or.inl h
  · refine Or.inr ⟨g, cap, h1, hs g h2, Nat.lt_of_lt_of_le h3 hz, fun i c hi => ?_⟩
    obtain ⟨x, y, k1, k2, k3⟩ := h4 i c hi
    refine ⟨x, y, ?_, ?_, k3.frame hs hk⟩
    · rw [World.cell?_of_block (w := w) (a := ⟨g, i * 2, none⟩) (hk g h2)]; exact k1
    · rw [World.cell?_of_block (w := w) (a := ⟨g, i * 2 + 1, none⟩) (hk g h2)]; exact k2
theorem crAt_of {w : World} {base : Nat} {S : Nat → Prop} {wide vars : Int} {v : Value} {cs : List Ch} {T : TypeId} {ps : List (Value × Value)} (hl : ps.length = cs.length) (h : w.ownsRow base T 2 v cs.length (flatP ps)) (hS : ∀ k, base ≤ k → k < w.heap.size → S k)
    (he : ∀ (i : Nat) (c : Ch) (p : Value × Value), cs[i]? = some c → ps[i]? = some p → CrEl w S wide vars c p.1 p.2) : CrAt w S wide vars v cs := by
  rcases h.2 with ⟨h1, h2⟩ | ⟨g, cap, cur, rfl, hg, hh, _⟩
  · exact Or.inl ⟨List.length_eq_zero_iff.1 h2, h1⟩
  · have hlt := (Array.getElem?_eq_some_iff.1 hh).1
    refine Or.inr ⟨g, cap, rfl, hS g hg hlt, hlt, fun i c hi => ?_⟩
    have hic := (List.getElem?_eq_some_iff.1 hi).1
    obtain ⟨p, hq⟩ : ∃ p, ps[i]? = some p := ⟨ps[i]'(by omega), List.getElem?_eq_getElem (by omega)⟩
    obtain ⟨f0, f1⟩ := flatP_at ps i p hq
    have hfl := flatP_len ps
    refine ⟨p.1, p.2, ?_, ?_, he i c p hi hq⟩
    · rw [h.cellAt (i * 2) (by omega)]; exact f0
    · rw [h.cellAt (i * 2 + 1) (by omega)]; exact f1
theorem rootK_full (wide vars kind : Int) (v : Value) (t : List Nd) (w : World) (hT : Tab w) (h : NodesAt w v t) (hk0 : kind = 1 ∨ kind = 2) (hk : kindL wide vars t = kind) :
    Calls Tryd.prog 105 #[.int .i64 wide, .int .i64 vars, v, .int .i64 kind] w fun e w' => ∃ p, e = .returned (ptr p) ∧ Below w.heap.size w w' ∧ RtAt w' (fun k => w.heap.size ≤ k ∧ k < w'.heap.size) wide vars kind t (ptr p) := by
  obtain ⟨_, _, _, _, hl48, r, hr, k1, k2, k3⟩ := root_tree (show 0 < kindL wide vars t by omega)
  have hsz := r.flat_len
  rw [k2] at hsz
  exact (rootK_yes wide vars kind v t w hT h r hk hk0 hr (by rw [k3]; exact hk)).mono fun e w' ⟨p, he, ht, hb⟩ => ⟨p, he, hb, r, p, rfl, k2, k1, by rw [k3]; exact hk, by omega, TrAt.frame (fun k hk => Or.elim hk (fun q => False.elim q) id) (fun _ _ => rfl) ht⟩
/-- what changeRoots answers -/
def CRFull (w : World) (wide vars : Int) (cs : List Ch) (R : Bool) (e : Ending) (w' : World) : Prop := ∃ a n cap, e = .returned (.tuple #[.slice a n cap, .bool R]) ∧ Below w.heap.size w w' ∧ (R = true → CrAt w' (fun k => w.heap.size ≤ k ∧ k < w'.heap.size) wide vars (.slice a n cap) cs)
theorem crFull_no {w w' : World} {wide vars : Int} {cs : List Ch} {R : Bool} (a : Option Addr) (n cap : Nat) (h : R = false) (hb : Below w.heap.size w w') : CRFull w wide vars cs R (.returned (.tuple #[.slice a n cap, .bool false])) w' := ⟨a, n, cap, by rw [h], hb, fun h' => by rw [h] at h'; cases h'⟩
theorem crFull_yes {w w' : World} {wide vars : Int} {cs : List Ch} {R : Bool} (a : Option Addr) (n cap : Nat) (h : R = true) (hb : Below w.heap.size w w') (hc : CrAt w' (fun k => w.heap.size ≤ k ∧ k < w'.heap.size) wide vars (.slice a n cap) cs) : CRFull w wide vars cs R (.returned (.tuple #[.slice a n cap, .bool true])) w' := ⟨a, n, cap, by rw [h], hb, fun _ => hc⟩
set_option maxRecDepth 100000 in
set_option maxHeartbeats 8000000 in
theorem changeRoots_full (wide vars : Int) (v : Value) (cs : List Ch) (hfv : Fit vars) (hn : cs.length ≤ 1048576) (w : World) (hT : Tab w) (h : PairsAt ChV w v cs) :
    Calls Tryd.prog 106 #[.int .i64 wide, .int .i64 vars, v] w (CRFull w wide vars cs (chsB wide vars 0 cs)) := by
  obtain ⟨cha, chc, rfl, hcc⟩ := h.opened
  have HCS : Hid (∀ w1 : World, Below w.heap.size w w1 → ∀ (i : Nat) (d : Ch), cs[i]? = some d → ∃ b off : Nat, cha = some ⟨b, off, none⟩ ∧ ∃ y : Value, w1.cell? ⟨b, off + i * 2, none⟩ = some (.int .i64 d.1) ∧ w1.cell? ⟨b, off + i * 2 + 1, none⟩ = some y ∧ Fit d.1 ∧ NodesAt w1 y d.2) := fun w1 hb i d hi => by
    obtain ⟨b, off, e, hlt, x, y, h3, h4, h5⟩ := hcc i d hi
    obtain ⟨k0, rfl, k2⟩ := h5
    exact ⟨b, off, e, y, by rw [hb.cell (p := ⟨b, off + i * 2, none⟩) hlt]; exact h3, by rw [hb.cell (p := ⟨b, off + i * 2 + 1, none⟩) hlt]; exact h4, k0, k2.below hb⟩
  have GN : Hid (∀ (w1 : World) (u : Value) (t : List Nd), Below w.heap.size w w1 → NodesAt w1 u t → ¬ kindL wide vars t = 1 → Calls Tryd.prog 105 #[.int .i64 wide, .int .i64 vars, u, .int .i64 1] w1 fun e w' => e = .returned (.pointer none) ∧ Below w1.heap.size w1 w') := fun w1 u t hb hu hk => rootK_no wide vars 1 u t w1 (hT.below hb hT.some) hu (Or.inl rfl) hk
  have GY : Hid (∀ (w1 : World) (u : Value) (t : List Nd), Below w.heap.size w w1 → NodesAt w1 u t → kindL wide vars t = 1 → Calls Tryd.prog 105 #[.int .i64 wide, .int .i64 vars, u, .int .i64 1] w1 fun e w' => ∃ p, e = .returned (ptr p) ∧ Below w1.heap.size w1 w' ∧ RtAt w' (fun k => w1.heap.size ≤ k ∧ k < w'.heap.size) wide vars 1 t (ptr p)) := fun w1 u t hb hu hk => rootK_full wide vars 1 u t w1 (hT.below hb hT.some) hu (Or.inl rfl) hk
  clear h hcc hT
  generalize hR : chsB wide vars 0 cs = R at *
  have HR : Hid _ := hR
  clear hR
  obtain ⟨hf0, hf1⟩ := hfv
  obtain ⟨i0, hi, hz0, hz1, hz2⟩ := info_parts infoCR
  have HO0 : Hid (∃ ps : List (Value × Value), ps.length = 0 ∧ w.ownsRow w.heap.size 146 2 (.slice none 0 0) 0 (flatP ps) ∧ ∀ (i : Nat) (c : Ch) (p : Value × Value), cs[i]? = some c → ps[i]? = some p → CrEl w (fun k => w.heap.size ≤ k ∧ k < w.heap.size ∧ (Value.slice none 0 0).ownBlock ≠ some k) wide vars c p.1 p.2) := ⟨[], rfl, World.ownsRow_nil _ _ _ _, fun i c p _ hp => by simp at hp⟩
  have HB00 : Hid (Below w.heap.size w w) := Below.refl _ _
  go_enter Tryd.func106, Tryd.ntmps106
  go_wp2_with fail
  go_loopw [8, 9, 15] (fun v l i wr => ∃ j : Nat, j ≤ cs.length ∧ i = .int .i64 j ∧ l = .int .i64 (nextL 0 (cs.take j)) ∧ Hid (chsB wide vars 0 (cs.take j) = true) ∧ Hid (∃ ps : List (Value × Value), ps.length = j ∧ wr.ownsRow w.heap.size 146 2 v j (flatP ps) ∧ ∀ (i : Nat) (c : Ch) (p : Value × Value), cs[i]? = some c → ps[i]? = some p → CrEl wr (fun k => w.heap.size ≤ k ∧ k < wr.heap.size ∧ v.ownBlock ≠ some k) wide vars c p.1 p.2) ∧ Hid (Below w.heap.size w wr)) (fun _ _ i _ => cs.length - (intOf i).toNat)
  case atStart => exact ⟨0, by omega, rfl, rfl, rfl, HO0, HB00⟩
  case round =>
    obtain ⟨j, hj, rfl, rfl, HA, HO, HB⟩ := hrel
    clear HO0 HB00
    obtain ⟨ps, hpl, hown, hel⟩ := HO.out
    obtain ⟨va, vcap, rfl⟩ := own_shape hown
    clear HO
    have HOW : Hid _ := hown
    have HEL : Hid _ := hel
    have HPL : Hid (ps.length = j) := hpl
    clear hown hel hpl
    have hnx := nextL_in wide vars _ HA.out
    by_cases hlt : j < cs.length
    · obtain ⟨d, hd⟩ : ∃ d, cs[j]? = some d := ⟨cs[j], List.getElem?_eq_getElem hlt⟩
      obtain ⟨b, off, rfl, y, cx, cy, hfd, hny⟩ := HCS.out wr HB.out j d hd
      have hTk := chsB_take wide vars cs 0 j d hd HA.out
      have hnt := nextL_take cs 0 j d hd
      have HNT : Hid _ := hnt
      have HNK : Hid (NodesAt wr y d.2) := hny
      have HDJ : Hid (cs[j]? = some d) := hd
      obtain ⟨ya, yc, rfl⟩ := hny.shape
      obtain ⟨x1, dt⟩ := d
      obtain ⟨hx0, hx1⟩ := hfd
      simp only at *
      generalize hnl : nextL 0 (cs.take j) = nx at *
      generalize dt.length = yn at *
      have hal := (Below.refl wr.heap.size wr).alloc (Nat.le_refl _) (.cells #[.int .i64 x1, .slice ya yn yc] 118)
      have hb2 : Below w.heap.size w (wr.alloc (.cells #[.int .i64 x1, .slice ya yn yc] 118)) := HB.out.alloc HB.out.size _
      have hny2 := HNK.out.below hal
      have z2 := box2_alloc wr 118 (.int .i64 x1) (.slice ya yn yc)
      have hown2 := World.ownsRow.alloc HOW.out (.cells #[.int .i64 x1, .slice ya yn yc] 118)
      have HOW2 : Hid _ := hown2
      have HB2 : Hid _ := hb2
      have HNY : Hid _ := hny2
      have hss : (wr.alloc (.cells #[.int .i64 x1, .slice ya yn yc] 118)).heap.size = wr.heap.size + 1 := World.size_alloc _ _
      have hbs := HB.out.size
      clear hny hal hb2 hny2 hown2 HCS HNK hd hnt
      by_cases hlo : x1 < nx
      · have HN : Hid (R = false) := HR.out.symm.trans (chsB_not wide vars cs 0 (j + 1) (by rw [hTk, decide_eq_false (by omega), Bool.false_and]))
        clear hTk GN GY HOW HOW2 z2 HNY
        go_wp2_with fail
        go_ret2
        exact crFull_no _ _ _ HN.out HB2.out
      by_cases hhi : vars ≤ x1
      · have HN : Hid (R = false) := HR.out.symm.trans (chsB_not wide vars cs 0 (j + 1) (by rw [hTk, decide_eq_false (by omega), Bool.false_and]))
        clear hTk GN GY HOW HOW2 z2 HNY
        go_wp2_with fail
        go_ret2
        exact crFull_no _ _ _ HN.out HB2.out
      by_cases hk : kindL wide vars dt = 1
      case neg =>
        have hkb : (kindL wide vars dt == 1) = false := beq_eq_false_iff_ne.2 hk
        have HN : Hid (R = false) := HR.out.symm.trans (chsB_not wide vars cs 0 (j + 1) (by rw [hTk, hkb, Bool.and_false]))
        have g := GN.out _ _ dt HB2.out HNY.out hk
        clear hTk GN GY HOW HOW2 z2 HNY hkb hk
        go_wp2_with fail
        refine g.mono ?_
        rintro e w3 ⟨rfl, hs⟩
        have HB3 : Hid (Below w.heap.size w w3) := HB2.out.trans (hs.mono HB2.out.size)
        clear g hs
        go_wp2_with fail
        go_ret2
        exact crFull_no _ _ _ HN.out HB3.out
      have hkb : (kindL wide vars dt == 1) = true := beq_iff_eq.2 hk
      have HN : Hid (chsB wide vars 0 (cs.take (j + 1)) = true) := by
        show chsB wide vars 0 (cs.take (j + 1)) = true
        rw [hTk, decide_eq_true (by omega), hkb]
        rfl
      have g := GY.out _ _ dt HB2.out HNY.out hk
      clear hTk GN GY HNY hkb hk
      go_wp2_with fail
      refine g.mono ?_
      have hbw : ∀ k, k < wr.heap.size → (wr.alloc (.cells #[.int .i64 x1, .slice ya yn yc] 118)).heap[k]? = wr.heap[k]? := fun k hk => by
        show (wr.heap.push _)[k]? = _
        rw [Array.getElem?_push_lt hk]
        simp [hk]
      have HOW3 : Hid _ := HOW.out
      generalize wr.alloc (.cells #[.int .i64 x1, .slice ya yn yc] 118) = w2 at *
      rintro e w3 ⟨pb, rfl, hs, hrt⟩
      have hs3 := hs.size
      have z3 := z2.below hs z2.lt
      obtain ⟨c0, c1⟩ := z3.cells
      have ch := z3.heap
      have cl := z3.lt
      have own3 := own_same HOW2.out (fun q hq => (own_block HOW2.out hq).2) (fun i _ hi => hs.block i hi)
      have own6 := World.ownsRow.alloc own3 (.cells #[.int .i64 x1, ptr pb] 146)
      have hb6 : Below w.heap.size w (w3.alloc (.cells #[.int .i64 x1, ptr pb] 146)) := (HB2.out.trans (hs.mono HB2.out.size)).alloc (by omega) _
      have hs6 := hb6.size
      have z6 := z3.alloc (.cells #[.int .i64 x1, ptr pb] 146)
      have cells6 := cr_cells w3 (.int .i64 x1) (ptr pb) 146
      have hlen6 := own6.1
      have HS3 : Hid _ := hs
      have HRT : Hid (RtAt w3 (fun k => w2.heap.size ≤ k ∧ k < w3.heap.size) wide vars 1 dt (ptr pb)) := hrt
      have hss2 : w2.heap.size = wr.heap.size + 1 := hss
      clear hs g z2 own3 HOW2 hrt
      go_wp2_with (at_builtin; refine wpList_append_own_at _ rfl _ _ 102 rfl w.heap.size 146 i0 (.agg #[.int .i64 0, .pointer none]) 2 16 Tryd.underlying102 hi hz0 hz1 hz2 rfl (by decide) _ _ _ rfl own6 ⟨w3.heap.size, 0, none⟩ 1 1 [.int .i64 x1, ptr pb] rfl rfl cells6 (by simp [Value.oneCell']) (by unfold maxLen; omega) (by omega) hs6 ?_)
      intro v9 w9 own9 grow9 hnew9 hat9
      have HB9 : Hid (Below w.heap.size w w9) := hb6.grown grow9 hs6 (fun k hk => (own_block own6 hk).1)
      have hq9 : ∀ k, k < wr.heap.size + 1 ∨ (k < w3.heap.size) → (Value.slice va j vcap).ownBlock ≠ some k → w9.heap[k]? = w3.heap[k]? := fun k hk hne => by
        have hk3 : k < w3.heap.size := by have := HS3.out.size; omega
        rw [grow9.block k (by rw [World.size_alloc]; omega) (fun e => hne e.symm)]
        show (w3.heap.push _)[k]? = _
        rw [Array.getElem?_push_lt hk3]
        simp [hk3]
      have hs9 := grow9.size
      rw [World.size_alloc] at hs9
      have hv9 : ∀ k, k < w3.heap.size → (Value.slice va j vcap).ownBlock ≠ some k → v9.ownBlock ≠ some k := fun k hk hne e => by
        rcases hat9 with h | h
        · exact hne (h.symm.trans e)
        · rw [h] at e
          have := Option.some.inj e
          omega
      have HO9 : Hid (∃ ps : List (Value × Value), ps.length = j + 1 ∧ w9.ownsRow w.heap.size 146 2 v9 (j + 1) (flatP ps) ∧ ∀ (i : Nat) (c : Ch) (p : Value × Value), cs[i]? = some c → ps[i]? = some p → CrEl w9 (fun k => w.heap.size ≤ k ∧ k < w9.heap.size ∧ v9.ownBlock ≠ some k) wide vars c p.1 p.2) := by
        refine ⟨ps ++ [((.int .i64 x1 : Value), ptr pb)], by rw [List.length_append, HPL.out]; rfl, by rw [flatP_append]; exact own9, fun i c p hc hp => ?_⟩
        by_cases hij : i < ps.length
        · rw [List.getElem?_append_left hij] at hp
          refine (HEL.out i c p hc hp).frame (fun k hk => ⟨hk.1, by omega, hv9 k (by omega) hk.2.2⟩) (fun k hk => ?_)
          rw [hq9 k (Or.inl (by omega)) hk.2.2, HS3.out.block k (by omega)]
          exact hbw k hk.2.1
        · have hlt9 := (List.getElem?_eq_some_iff.1 hp).1
          have hpl := HPL.out
          rw [List.length_append, List.length_singleton] at hlt9
          have hi9 : i = j := by omega
          subst hi9
          rw [List.getElem?_append_right (by omega), hpl, Nat.sub_self] at hp
          simp only [List.getElem?_cons_zero, Option.some.injEq] at hp
          subst hp
          rw [HDJ.out] at hc
          simp only [Option.some.injEq] at hc
          subst hc
          refine ⟨rfl, HRT.out.frame (fun k hk => ?_) (fun k hk => ?_)⟩
          · have hne : (Value.slice va i vcap).ownBlock ≠ some k := fun e => by have := own_block HOW3.out e; omega
            exact ⟨by omega, by omega, hv9 k hk.2 hne⟩
          · have hne : (Value.slice va i vcap).ownBlock ≠ some k := fun e => by have := own_block HOW3.out e; omega
            exact hq9 k (Or.inr hk.2) hne
      have z9 : Box2 w9 wr.heap.size 118 (.int .i64 x1) (.slice ya yn yc) := by
        refine ⟨?_⟩
        rw [grow9.block _ z6.lt ?_]
        · exact z6.heap
        · intro e
          rcases own6.2 with ⟨h1, _⟩ | ⟨g, cap, cur, h1, h2, h3, _⟩
          · rw [h1] at e
            cases e
          · rw [h1] at e
            have e2 : g = wr.heap.size := (Option.some.inj e).symm
            subst e2
            rw [z6.heap] at h3
            simp only [Option.some.injEq] at h3
            injection h3 with _ h8
            exact absurd h8 (by decide)
      obtain ⟨m0, m1⟩ := z9.cells
      have mh := z9.heap
      have ml := z9.lt
      clear own6 own9 grow9 hb6 z3 z6 z9 cells6 c0 c1 ch cl hnew9 hat9 hq9 hv9 hbw HRT HS3 HOW3 HOW
      go_wp2_with fail
      go_roundw
      case rel => exact ⟨j + 1, by omega, by go_num, by rw [HNT.out], HN, HO9, HB9⟩
      case measure => simp [intOf]; omega
    · obtain rfl : j = cs.length := by omega
      have HN : Hid (R = true) := by
        have h1 := HA.out
        rw [List.take_length] at h1
        exact HR.out.symm.trans h1
      have HCR : Hid (CrAt wr (fun k => w.heap.size ≤ k ∧ k < wr.heap.size) wide vars (.slice va cs.length vcap) cs) := crAt_of HPL.out HOW.out (fun k h1 h2 => ⟨h1, h2⟩) (fun i c p hc hp => (HEL.out i c p hc hp).frame (fun k hk => ⟨hk.1, hk.2.1⟩) (fun _ _ => rfl))
      clear HCS GN GY HOW HA HEL
      go_wp2_with fail
      go_ret2
      exact crFull_yes _ _ _ HN.out HB.out HCR.out
end Go.Proofs.YtmhpnkfibecnmaaDoor

namespace Go.Proofs.YtmhpnkfibecnmaaDoor
open Go Go.RowKit
open M
set_option linter.unusedVariables false

def CmEl (w : World) (S : Nat → Prop) (wide vars : Int) (c : Cm) (x y : Value) : Prop := RtAt w S wide vars 2 c.1 x ∧ CrAt w S wide vars y c.2
/-- a row of commands with their trees, to be read: blocks that S takes -/
def CmrAt (w : World) (S : Nat → Prop) (wide vars : Int) (v : Value) (cs : List Cm) : Prop :=
  (cs = [] ∧ v = .slice none 0 0) ∨ ∃ g cap : Nat, v = .slice (some ⟨g, 0, none⟩) cs.length cap ∧ S g ∧ g < w.heap.size ∧ ∀ (i : Nat) (c : Cm), cs[i]? = some c → ∃ x y : Value, w.cell? ⟨g, i * 2, none⟩ = some x ∧ w.cell? ⟨g, i * 2 + 1, none⟩ = some y ∧ CmEl w S wide vars c x y
theorem CmEl.frame {w w' : World} {S S' : Nat → Prop} {wide vars : Int} {c : Cm} {x y : Value} (h : CmEl w S wide vars c x y) (hz : w.heap.size ≤ w'.heap.size) (hs : ∀ k, S k → S' k) (hk : ∀ k, S k → w'.heap[k]? = w.heap[k]?) : CmEl w' S' wide vars c x y := ⟨h.1.frame hs hk, h.2.frame hz hs hk⟩
theorem CmrAt.frame {w w' : World} {S S' : Nat → Prop} {wide vars : Int} {v : Value} {cs : List Cm} (h : CmrAt w S wide vars v cs) (hz : w.heap.size ≤ w'.heap.size) (hs : ∀ k, S k → S' k) (hk : ∀ k, S k → w'.heap[k]? = w.heap[k]?) : CmrAt w' S' wide vars v cs := by
  rcases h with h | ⟨g, cap, h1, h2, h3, h4⟩
  · exact Or.inl h
  · refine Or.inr ⟨g, cap, h1, hs g h2, Nat.lt_of_lt_of_le h3 hz, fun i c hi => ?_⟩
    obtain ⟨x, y, k1, k2, k3⟩ := h4 i c hi
    refine ⟨x, y, ?_, ?_, k3.frame hz hs hk⟩
    · rw [World.cell?_of_block (w := w) (a := ⟨g, i * 2, none⟩) (hk g h2)]; exact k1
    · rw [World.cell?_of_block (w := w) (a := ⟨g, i * 2 + 1, none⟩) (hk g h2)]; exact k2
theorem cmrAt_of {w : World} {base : Nat} {S : Nat → Prop} {wide vars : Int} {v : Value} {cs : List Cm} {T : TypeId} {ps : List (Value × Value)} (hl : ps.length = cs.length) (h : w.ownsRow base T 2 v cs.length (flatP ps)) (hS : ∀ k, base ≤ k → k < w.heap.size → S k)
    (he : ∀ (i : Nat) (c : Cm) (p : Value × Value), cs[i]? = some c → ps[i]? = some p → CmEl w S wide vars c p.1 p.2) : CmrAt w S wide vars v cs := by
  rcases h.2 with ⟨h1, h2⟩ | ⟨g, cap, cur, rfl, hg, hh, _⟩
  · exact Or.inl ⟨List.length_eq_zero_iff.1 h2, h1⟩
  · have hlt := (Array.getElem?_eq_some_iff.1 hh).1
    refine Or.inr ⟨g, cap, rfl, hS g hg hlt, hlt, fun i c hi => ?_⟩
    have hic := (List.getElem?_eq_some_iff.1 hi).1
    obtain ⟨p, hq⟩ : ∃ p, ps[i]? = some p := ⟨ps[i]'(by omega), List.getElem?_eq_getElem (by omega)⟩
    obtain ⟨f0, f1⟩ := flatP_at ps i p hq
    have hfl := flatP_len ps
    refine ⟨p.1, p.2, ?_, ?_, he i c p hi hq⟩
    · rw [h.cellAt (i * 2) (by omega)]; exact f0
    · rw [h.cellAt (i * 2 + 1) (by omega)]; exact f1
/-- a program read once, as it lies: blocks that S takes -/
def Rooted (w : World) (S : Nat → Prop) (p : Pg) (P : Nat) : Prop := S P ∧ ∃ x y, Box4 w P 107 (.int .i64 p.1) (.int .i64 p.2.1) x y ∧ RtAt w S p.1 p.2.1 2 p.2.2.1 x ∧ CmrAt w S p.1 p.2.1 y p.2.2.2
/-- what rootsOf answers -/
def RootsFull (w : World) (p : Pg) (e : Ending) (w' : World) : Prop :=
  ((goodP p = true ∧ ∃ P : Nat, e = .returned (ptr P) ∧ Rooted w' (fun k => w.heap.size ≤ k ∧ k < w'.heap.size) p P) ∨ (goodP p = false ∧ e = .returned (.pointer none))) ∧ Below w.heap.size w w'
theorem rootsFull_no {w w' : World} {p : Pg} (h : goodP p = false) (hb : Below w.heap.size w w') : RootsFull w p (.returned (.pointer none)) w' := ⟨Or.inr ⟨h, rfl⟩, hb⟩
theorem rootsFull_yes {w w' : World} {p : Pg} (P : Nat) (x y : Value) (h : goodP p = true) (hp : w.heap.size ≤ P) (hx : Box4 w' P 107 (.int .i64 p.1) (.int .i64 p.2.1) x y) (hb : Below w.heap.size w w') (h1 : RtAt w' (fun k => w.heap.size ≤ k ∧ k < w'.heap.size) p.1 p.2.1 2 p.2.2.1 x) (h2 : CmrAt w' (fun k => w.heap.size ≤ k ∧ k < w'.heap.size) p.1 p.2.1 y p.2.2.2) : RootsFull w p (.returned (.pointer (some ⟨P, 0, none⟩))) w' := ⟨Or.inl ⟨h, P, rfl, ⟨hp, hx.lt⟩, x, y, hx, h1, h2⟩, hb⟩
set_option maxRecDepth 100000 in
set_option maxHeartbeats 8000000 in
theorem rootsOf_full (v : Value) (p : Pg) (ok : PgOk p) (w : World) (hT : Tab w) (h : AtProg w v p) :
    Calls Tryd.prog 57 #[v] w (RootsFull w p) := by
  obtain ⟨⟨hfw0, hfw1⟩, ⟨hfv0, hfv1⟩, s, c, rfl, hst, hcm⟩ := h
  obtain ⟨sa, sc, rfl⟩ := hst.shape
  obtain ⟨ca, cc, rfl, hcc⟩ := hcm.opened
  have hcl := hcm.1
  have HOK : Hid (∀ x ∈ p.2.2.2, CmOk x) := ok.2.2.2.2
  have HCS : Hid (∀ w1 : World, Below w.heap.size w w1 → ∀ (i : Nat) (d : Cm), p.2.2.2[i]? = some d → ∃ b off : Nat, ca = some ⟨b, off, none⟩ ∧ ∃ x y : Value, w1.cell? ⟨b, off + i * 2, none⟩ = some x ∧ w1.cell? ⟨b, off + i * 2 + 1, none⟩ = some y ∧ NodesAt w1 x d.1 ∧ PairsAt ChV w1 y d.2) := fun w1 hb i d hi => by
    obtain ⟨b, off, e, hlt, x, y, h3, h4, h5⟩ := hcc i d hi
    exact ⟨b, off, e, x, y, by rw [hb.cell (p := ⟨b, off + i * 2, none⟩) hlt]; exact h3, by rw [hb.cell (p := ⟨b, off + i * 2 + 1, none⟩) hlt]; exact h4, h5.1.below hb, h5.2.below chV_frame hb⟩
  have GN : Hid (∀ (w1 : World) (u : Value) (t : List Nd), Below w.heap.size w w1 → NodesAt w1 u t → ¬ kindL p.1 p.2.1 t = 2 → Calls Tryd.prog 105 #[.int .i64 p.1, .int .i64 p.2.1, u, .int .i64 2] w1 fun e w' => e = .returned (.pointer none) ∧ Below w1.heap.size w1 w') := fun w1 u t hb hu hk => rootK_no _ _ 2 u t w1 (hT.below hb hT.some) hu (Or.inr rfl) hk
  have GY : Hid (∀ (w1 : World) (u : Value) (t : List Nd), Below w.heap.size w w1 → NodesAt w1 u t → kindL p.1 p.2.1 t = 2 → Calls Tryd.prog 105 #[.int .i64 p.1, .int .i64 p.2.1, u, .int .i64 2] w1 fun e w' => ∃ q, e = .returned (ptr q) ∧ Below w1.heap.size w1 w' ∧ RtAt w' (fun k => w1.heap.size ≤ k ∧ k < w'.heap.size) p.1 p.2.1 2 t (ptr q)) := fun w1 u t hb hu hk => rootK_full _ _ 2 u t w1 (hT.below hb hT.some) hu (Or.inr rfl) hk
  have GC : Hid (∀ (w1 : World) (u : Value) (t : List Ch), Below w.heap.size w w1 → PairsAt ChV w1 u t → t.length ≤ 1048576 → Calls Tryd.prog 106 #[.int .i64 p.1, .int .i64 p.2.1, u] w1 (CRFull w1 p.1 p.2.1 t (chsB p.1 p.2.1 0 t))) := fun w1 u t hb hu hl => changeRoots_full _ _ u t ⟨hfv0, hfv1⟩ hl w1 (hT.below hb hT.some) hu
  have hR0 : goodP p = ((kindL p.1 p.2.1 p.2.2.1 == 2) && (decide (1 ≤ p.2.2.2.length ∧ p.2.2.2.length ≤ 6) && p.2.2.2.all (cmB p.1 p.2.1))) := rfl
  have HR : Hid _ := hR0
  have HST : Hid (∀ w1 : World, Below w.heap.size w w1 → NodesAt w1 (.slice sa p.2.2.1.length sc) p.2.2.1) := fun w1 hb => hst.below hb
  have HP1 : Hid (p.1 = p.1 ∧ p.2.1 = p.2.1) := ⟨rfl, rfl⟩
  clear hcc hcm hst hT ok hR0 HP1
  obtain ⟨i0, hi, hz0, hz1, hz2⟩ := info_parts infoCm
  have HB0 : Hid (Below w.heap.size w (w.alloc (.cells #[.int .i64 p.1, .int .i64 p.2.1, .slice sa p.2.2.1.length sc, .slice ca p.2.2.2.length cc] 27))) := (Below.refl _ _).alloc (Nat.le_refl _) _
  have x0 := box4_alloc w 27 (.int .i64 p.1) (.int .i64 p.2.1) (.slice sa p.2.2.1.length sc) (.slice ca p.2.2.2.length cc)
  have HX0 : Hid _ := x0
  have hns := HST.out _ HB0.out
  clear x0
  by_cases hks : kindL p.1 p.2.1 p.2.2.1 = 2
  case neg =>
    have hkb : (kindL p.1 p.2.1 p.2.2.1 == 2) = false := beq_eq_false_iff_ne.2 hks
    have HN : Hid (goodP p = false) := by
      show goodP p = false
      rw [HR.out, hkb, Bool.false_and]
    have g := GN.out _ _ _ HB0.out hns hks
    clear GN GY GC HCS HR HST hns hks hkb HX0 HOK
    generalize p.2.2.1.length = sn at *
    generalize p.2.2.2.length = cn at *
    go_enter Tryd.func57, Tryd.ntmps57
    go_wp2_with fail
    refine g.mono ?_
    rintro e w1 ⟨rfl, hs⟩
    have HB1 : Hid (Below w.heap.size w w1) := Below.step HB0.out HB0.out.size hs
    clear hs g
    go_wp2_with fail
    go_ret
    exact rootsFull_no HN.out HB1.out
  have hkb : (kindL p.1 p.2.1 p.2.2.1 == 2) = true := beq_iff_eq.2 hks
  have g := GY.out _ _ _ HB0.out hns hks
  by_cases hcn : 1 ≤ p.2.2.2.length ∧ p.2.2.2.length ≤ 6
  case neg =>
    have HN : Hid (goodP p = false) := by
      show goodP p = false
      rw [HR.out, decide_eq_false hcn, Bool.false_and, Bool.and_false]
    clear GN GY GC HCS HR HST hns hks hkb HOK
    generalize p.2.2.1.length = sn at *
    generalize p.2.2.2.length = cn at *
    by_cases hc1 : cn < 1
    · go_enter Tryd.func57, Tryd.ntmps57
      go_wp2_with fail
      refine g.mono ?_
      generalize w.alloc (.cells #[.int .i64 p.1, .int .i64 p.2.1, .slice sa sn sc, .slice ca cn cc] 27) = w0 at *
      rintro e w1 ⟨q, rfl, hs, hrt⟩
      have HB1 : Hid (Below w.heap.size w w1) := Below.step HB0.out HB0.out.size hs
      have x1 := HX0.out.below hs HX0.out.lt
      obtain ⟨a0, a1, a2, a3⟩ := x1.cells
      have ah := x1.heap
      have al := x1.lt
      clear hs g x1 hrt
      go_wp2_with fail
      go_ret
      exact rootsFull_no HN.out HB1.out
    · have hc6 : 6 < cn := by omega
      go_enter Tryd.func57, Tryd.ntmps57
      go_wp2_with fail
      refine g.mono ?_
      generalize w.alloc (.cells #[.int .i64 p.1, .int .i64 p.2.1, .slice sa sn sc, .slice ca cn cc] 27) = w0 at *
      rintro e w1 ⟨q, rfl, hs, hrt⟩
      have HB1 : Hid (Below w.heap.size w w1) := Below.step HB0.out HB0.out.size hs
      have x1 := HX0.out.below hs HX0.out.lt
      obtain ⟨a0, a1, a2, a3⟩ := x1.cells
      have ah := x1.heap
      have al := x1.lt
      clear hs g x1 hrt
      go_wp2_with fail
      go_ret
      exact rootsFull_no HN.out HB1.out
  obtain ⟨hc1, hc6⟩ := hcn
  have HR2 : Hid (goodP p = p.2.2.2.all (cmB p.1 p.2.1)) := by
    show goodP p = _
    rw [HR.out, hkb, decide_eq_true ⟨hc1, hc6⟩, Bool.true_and, Bool.true_and]
  clear HR HST hns hks hkb
  have HPE : Hid (∀ (P : Nat) (x y : Value) (w' : World), goodP p = true → w.heap.size ≤ P → Box4 w' P 107 (.int .i64 p.1) (.int .i64 p.2.1) x y → Below w.heap.size w w' → RtAt w' (fun k => w.heap.size ≤ k ∧ k < w'.heap.size) p.1 p.2.1 2 p.2.2.1 x → CmrAt w' (fun k => w.heap.size ≤ k ∧ k < w'.heap.size) p.1 p.2.1 y p.2.2.2 → RootsFull w p (.returned (.pointer (some ⟨P, 0, none⟩))) w') := fun P x y w' h1 h2 h3 h4 h5 h6 => rootsFull_yes P x y h1 h2 h3 h4 h5 h6
  have HNO : Hid (∀ w' : World, goodP p = false → Below w.heap.size w w' → RootsFull w p (.returned (.pointer none)) w') := fun w' h1 h2 => rootsFull_no h1 h2
  generalize RootsFull w p = OUT at *
  generalize goodP p = GP at *
  generalize hcs : p.2.2.2 = cs at *
  generalize p.2.2.1.length = sn at *
  generalize p.2.2.1 = pst at *
  generalize p.1 = pw at *
  generalize p.2.1 = pv at *
  clear hcs
  go_enter Tryd.func57, Tryd.ntmps57
  go_wp2_with fail
  refine g.mono ?_
  generalize w.alloc (.cells #[.int .i64 pw, .int .i64 pv, .slice sa sn sc, .slice ca cs.length cc] 27) = w0 at *
  rintro e w1 ⟨q, rfl, hs, hrt⟩
  have HRT : Hid (RtAt w1 (fun k => w0.heap.size ≤ k ∧ k < w1.heap.size) pw pv 2 pst (ptr q)) := hrt
  have hsw0 := HB0.out.size
  have hb1 : Below w.heap.size w w1 := Below.step HB0.out HB0.out.size hs
  have hsw1 := hb1.size
  clear hrt
  have x1 := HX0.out.below hs HX0.out.lt
  have hlt1 := x1.lt
  obtain ⟨a0, a1, a2, a3⟩ := x1.cells
  have ah := x1.heap
  have al := x1.lt
  have y1 := box4_alloc w1 107 (.int .i64 pw) (.int .i64 pv) (ptr q) (.slice none 0 0)
  have hal := (Below.refl w1.heap.size w1).alloc (Nat.le_refl _) (.cells #[.int .i64 pw, .int .i64 pv, ptr q, .slice none 0 0] 107)
  have hb2 := hb1.trans (hal.mono hb1.size)
  have x2 := x1.below hal x1.lt
  have hss2 : (w1.alloc (.cells #[.int .i64 pw, .int .i64 pv, ptr q, .slice none 0 0] 107)).heap.size = w1.heap.size + 1 := World.size_alloc _ _
  have HXP : Hid (∀ w3, Below (w1.heap.size) (w1.alloc (.cells #[.int .i64 pw, .int .i64 pv, ptr q, .slice none 0 0] 107)) w3 → Box4 w3 w.heap.size 27 (.int .i64 pw) (.int .i64 pv) (.slice sa sn sc) (.slice ca cs.length cc)) := fun w3 hb3 => x2.below hb3 (by omega)
  have HRT2 : Hid (RtAt (w1.alloc (.cells #[.int .i64 pw, .int .i64 pv, ptr q, .slice none 0 0] 107)) (fun k => w0.heap.size ≤ k ∧ k < w1.heap.size) pw pv 2 pst (ptr q)) := HRT.out.frame (fun _ h => h) (fun k hk => hal.block k hk.2)
  clear HRT
  have HB2 : Hid _ := hb2
  have hy1 := y1
  have HY1 : Hid _ := hy1
  have HBB : Hid (Below w1.heap.size (w1.alloc (.cells #[.int .i64 pw, .int .i64 pv, ptr q, .slice none 0 0] 107)) (w1.alloc (.cells #[.int .i64 pw, .int .i64 pv, ptr q, .slice none 0 0] 107))) := Below.refl _ _
  have HO1 : Hid (∃ (vv : Value) (ps : List (Value × Value)), ps.length = 0 ∧ Box4 (w1.alloc (.cells #[.int .i64 pw, .int .i64 pv, ptr q, .slice none 0 0] 107)) w1.heap.size 107 (.int .i64 pw) (.int .i64 pv) (ptr q) vv ∧ (w1.alloc (.cells #[.int .i64 pw, .int .i64 pv, ptr q, .slice none 0 0] 107)).ownsRow (w1.heap.size + 1) 104 2 vv 0 (flatP ps) ∧ ∀ (i : Nat) (c : Cm) (p : Value × Value), cs[i]? = some c → ps[i]? = some p → CmEl (w1.alloc (.cells #[.int .i64 pw, .int .i64 pv, ptr q, .slice none 0 0] 107)) (fun k => w.heap.size ≤ k ∧ k < (w1.alloc (.cells #[.int .i64 pw, .int .i64 pv, ptr q, .slice none 0 0] 107)).heap.size ∧ k ≠ w1.heap.size ∧ vv.ownBlock ≠ some k) pw pv c p.1 p.2) := ⟨_, [], rfl, y1, World.ownsRow_nil _ _ _ _, fun i c p _ hp => by simp at hp⟩
  clear hs g hal hb2 hb1 x1 x2 y1 hy1 HX0 HB0
  go_wp2_with fail
  generalize w1.alloc (.cells #[.int .i64 pw, .int .i64 pv, ptr q, .slice none 0 0] 107) = w2 at *
  go_loopw [41] (fun i wr => ∃ j : Nat, j ≤ cs.length ∧ i = .int .i64 j ∧ Hid ((cs.take j).all (cmB pw pv) = true) ∧ Hid (∃ (vv : Value) (ps : List (Value × Value)), ps.length = j ∧ Box4 wr w1.heap.size 107 (.int .i64 pw) (.int .i64 pv) (ptr q) vv ∧ wr.ownsRow (w1.heap.size + 1) 104 2 vv j (flatP ps) ∧ ∀ (i : Nat) (c : Cm) (p : Value × Value), cs[i]? = some c → ps[i]? = some p → CmEl wr (fun k => w.heap.size ≤ k ∧ k < wr.heap.size ∧ k ≠ w1.heap.size ∧ vv.ownBlock ≠ some k) pw pv c p.1 p.2) ∧ Hid (Below w.heap.size w wr) ∧ Hid (Below w1.heap.size w2 wr)) (fun i _ => cs.length - (intOf i).toNat)
  case atStart => exact ⟨0, by omega, rfl, rfl, HO1, HB2, HBB⟩
  case round =>
    obtain ⟨j, hj, rfl, HA, HO, HB, HBX⟩ := hrel
    clear HO1 HB2 HBB a0 a1 a2 a3 ah al
    obtain ⟨vv, ps, hpl, hbox, hown, hel⟩ := HO.out
    obtain ⟨va, vcap, rfl⟩ := own_shape hown
    have HBOX : Hid _ := hbox
    have HOWN : Hid _ := hown
    have hbs := HBX.out.size
    have HEL : Hid _ := hel
    have HPL : Hid (ps.length = j) := hpl
    clear HO hbox hown hel hpl
    by_cases hlt : j < cs.length
    · obtain ⟨d, hd⟩ : ∃ d, cs[j]? = some d := ⟨cs[j], List.getElem?_eq_getElem hlt⟩
      obtain ⟨b, off, rfl, x, y, cx, cy, hnx, hny⟩ := HCS.out wr HB.out j d hd
      have HD : Hid (cs[j]? = some d) := hd
      have hok := HOK.out d (List.mem_of_getElem? hd)
      have hcb : cmB pw pv d = ((kindL pw pv d.1 == 2) && chsB pw pv 0 d.2) := rfl
      have HCB : Hid _ := hcb
      obtain ⟨xa, xc, rfl⟩ := hnx.shape
      obtain ⟨ya, yc, rfl⟩ := hny.shape
      have HNX : Hid (NodesAt wr (.slice xa d.1.length xc) d.1) := hnx
      have HNY : Hid (PairsAt ChV wr (.slice ya d.2.length yc) d.2) := hny
      have hdl2 := hok.2.1
      clear hnx hny hd hok hcb HCS HOK
      have hal := (Below.refl wr.heap.size wr).alloc (Nat.le_refl _) (.cells #[.slice xa d.1.length xc, .slice ya d.2.length yc] 98)
      have hb3 : Below w.heap.size w (wr.alloc (.cells #[.slice xa d.1.length xc, .slice ya d.2.length yc] 98)) := HB.out.alloc HB.out.size _
      have hbx3 : Below w1.heap.size w2 (wr.alloc (.cells #[.slice xa d.1.length xc, .slice ya d.2.length yc] 98)) := HBX.out.alloc (by omega) _
      have z3 := box2_alloc wr 98 (.slice xa d.1.length xc) (.slice ya d.2.length yc)
      obtain ⟨dw, dc⟩ := d
      simp only at *
      have HNX3 := HNX.out.below hal
      have HNY3 : Hid (∀ w4 : World, Below (wr.alloc (.cells #[.slice xa dw.length xc, .slice ya dc.length yc] 98)).heap.size (wr.alloc (.cells #[.slice xa dw.length xc, .slice ya dc.length yc] 98)) w4 → PairsAt ChV w4 (.slice ya dc.length yc) dc) := fun w4 hb4 => (HNY.out.below chV_frame hal).below chV_frame hb4
      have hq := HXP.out _ hbx3
      obtain ⟨a0, a1, a2, a3⟩ := hq.cells
      have ah := hq.heap
      have al := hq.lt
      have hss3 : (wr.alloc (.cells #[.slice xa dw.length xc, .slice ya dc.length yc] 98)).heap.size = wr.heap.size + 1 := World.size_alloc _ _
      have HBOX3 : Hid (Box4 (wr.alloc (.cells #[.slice xa dw.length xc, .slice ya dc.length yc] 98)) w1.heap.size 107 (.int .i64 pw) (.int .i64 pv) (ptr q) (.slice va j vcap)) := HBOX.out.below hal HBOX.out.lt
      have HOWN3 : Hid ((wr.alloc (.cells #[.slice xa dw.length xc, .slice ya dc.length yc] 98)).ownsRow (w1.heap.size + 1) 104 2 (.slice va j vcap) j (flatP ps)) := own_same HOWN.out (fun q hq => (own_block HOWN.out hq).2) (fun i _ hi => hal.block i hi)
      have HB3 : Hid _ := hb3
      have HBX3 : Hid _ := hbx3
      have hbw : ∀ k, k < wr.heap.size → (wr.alloc (.cells #[.slice xa dw.length xc, .slice ya dc.length yc] 98)).heap[k]? = wr.heap[k]? := fun k hk => hal.block k hk
      have HVL : Hid (∀ k, (Value.slice va j vcap).ownBlock = some k → w1.heap.size + 1 ≤ k ∧ k < wr.heap.size) := fun k hk => own_block HOWN.out hk
      clear hal hb3 hbx3 hq HBOX HOWN HNX HNY HB HBX
      by_cases hk : kindL pw pv dw = 2
      case neg =>
        have g := GN.out _ _ dw HB3.out HNX3 hk
        have GCD : Hid (∀ (w1 : World) (u : Value), Below w.heap.size w w1 → PairsAt ChV w1 u dc → Calls Tryd.prog 106 #[.int .i64 pw, .int .i64 pv, u] w1 (CRFull w1 pw pv dc (chsB pw pv 0 dc))) := fun w1 u hb hu => GC.out w1 u dc hb hu hdl2
        clear HNX3 GC hdl2
        generalize dw.length = xn at *
        generalize dc.length = yn at *
        go_wp2_with fail
        refine g.mono ?_
        generalize wr.alloc (.cells #[.slice xa xn xc, .slice ya yn yc] 98) = w3 at *
        rintro e w4 ⟨rfl, hs⟩
        have hs4 := hs.size
        have z4 := z3.below hs z3.lt
        have hbx4 : Below w1.heap.size w2 w4 := HBX3.out.trans (hs.mono (by omega))
        have hq := HXP.out _ hbx4
        have HBOX4 : Hid (Box4 w4 w1.heap.size 107 (.int .i64 pw) (.int .i64 pv) (ptr q) (.slice va j vcap)) := HBOX3.out.below hs HBOX3.out.lt
        have HOWN4 : Hid (w4.ownsRow (w1.heap.size + 1) 104 2 (.slice va j vcap) j (flatP ps)) := own_same HOWN3.out (fun q hq => (own_block HOWN3.out hq).2) (fun i _ hi => hs.block i hi)
        clear a0 a1 a2 a3 ah al
        obtain ⟨a0, a1, a2, a3⟩ := hq.cells
        have ah := hq.heap
        have al := hq.lt
        obtain ⟨c0, c1⟩ := z4.cells
        have ch := z4.heap
        have cl := z4.lt
        have HB4 : Hid (Below w.heap.size w w4) := HB3.out.trans (hs.mono HB3.out.size)
        have gc := GCD.out w4 (.slice ya yn yc) HB4.out (HNY3.out w4 hs)
        have HBX4 : Hid _ := hbx4
        clear g hs z3 hq HBOX3 HOWN3 HB3 HBX3 HNY3 hbx4 GN GY GCD
        go_wp2_with fail
        refine gc.mono ?_
        rintro e w5 hcr
        unfold CRFull at hcr
        obtain ⟨ra, rn, rc, rfl, hs, hcr⟩ := hcr
        have hs5 := hs.size
        have HB5 : Hid (Below w.heap.size w w5) := HB4.out.trans (hs.mono HB4.out.size)
        have hkb : (kindL pw pv dw == 2) = false := beq_eq_false_iff_ne.2 hk
        have HN : Hid (GP = false) := HR2.out.trans (allNot HD.out (by rw [HCB.out, hkb, Bool.false_and]))
        clear hs gc z4 hkb hk HCB HD HA HR2 HBOX4 HOWN4
        go_wp2_with fail
        exact HNO.out _ HN.out HB5.out
      have g := GY.out _ _ dw HB3.out HNX3 hk
      have GCD : Hid (∀ (w1 : World) (u : Value), Below w.heap.size w w1 → PairsAt ChV w1 u dc → Calls Tryd.prog 106 #[.int .i64 pw, .int .i64 pv, u] w1 (CRFull w1 pw pv dc (chsB pw pv 0 dc))) := fun w1 u hb hu => GC.out w1 u dc hb hu hdl2
      clear HNX3 GC hdl2
      generalize dw.length = xn at *
      generalize dc.length = yn at *
      go_wp2_with fail
      refine g.mono ?_
      generalize wr.alloc (.cells #[.slice xa xn xc, .slice ya yn yc] 98) = w3 at *
      rintro e w4 ⟨qb, rfl, hs, hrt⟩
      have HRW : Hid (RtAt w4 (fun k => w3.heap.size ≤ k ∧ k < w4.heap.size) pw pv 2 dw (ptr qb)) := hrt
      have HS4 : Hid (Below w3.heap.size w3 w4) := hs
      clear hrt
      have hs4 := hs.size
      have z4 := z3.below hs z3.lt
      have hbx4 : Below w1.heap.size w2 w4 := HBX3.out.trans (hs.mono (by omega))
      have hq := HXP.out _ hbx4
      have HBOX4 : Hid (Box4 w4 w1.heap.size 107 (.int .i64 pw) (.int .i64 pv) (ptr q) (.slice va j vcap)) := HBOX3.out.below hs HBOX3.out.lt
      have HOWN4 : Hid (w4.ownsRow (w1.heap.size + 1) 104 2 (.slice va j vcap) j (flatP ps)) := own_same HOWN3.out (fun q hq => (own_block HOWN3.out hq).2) (fun i _ hi => hs.block i hi)
      clear a0 a1 a2 a3 ah al
      obtain ⟨a0, a1, a2, a3⟩ := hq.cells
      have ah := hq.heap
      have al := hq.lt
      obtain ⟨c0, c1⟩ := z4.cells
      have ch := z4.heap
      have cl := z4.lt
      have HB4 : Hid (Below w.heap.size w w4) := HB3.out.trans (hs.mono HB3.out.size)
      have gc := GCD.out w4 (.slice ya yn yc) HB4.out (HNY3.out w4 hs)
      have HBX4 : Hid _ := hbx4
      clear g hs z3 hq HBOX3 HOWN3 HB3 HBX3 HNY3 hbx4 GN GY GCD
      go_wp2_with fail
      refine gc.mono ?_
      rintro e w5 hcr
      unfold CRFull at hcr
      obtain ⟨ra, rn, rc, rfl, hs, hcr⟩ := hcr
      have hs5 := hs.size
      have HB5 : Hid (Below w.heap.size w w5) := HB4.out.trans (hs.mono HB4.out.size)
      have hkb : (kindL pw pv dw == 2) = true := beq_iff_eq.2 hk
      cases hch : chsB pw pv 0 dc with
      | false =>
        have HN : Hid (GP = false) := HR2.out.trans (allNot HD.out (by rw [HCB.out, hch, Bool.and_false]))
        clear hs gc z4 hkb hk HCB HD HA HR2 HBOX4 HOWN4 hch
        go_wp2_with fail
        exact HNO.out _ HN.out HB5.out
      | true =>
        have HCRW : Hid (CrAt w5 (fun k => w4.heap.size ≤ k ∧ k < w5.heap.size) pw pv (.slice ra rn rc) dc) := hcr hch
        have HS5 : Hid (Below w4.heap.size w4 w5) := hs
        have HDJ : Hid (cs[j]? = some (dw, dc)) := HD.out
        have HN : Hid ((cs.take (j + 1)).all (cmB pw pv) = true) := allTake HD.out HA.out (by rw [HCB.out, hkb, hch]; rfl)
        have hbx5 : Below w1.heap.size w2 w5 := HBX4.out.trans (hs.mono (by have := HBX4.out.size; omega))
        have hy5 := HBOX4.out.below hs HBOX4.out.lt
        have own5 := own_same HOWN4.out (fun q hq => (own_block HOWN4.out hq).2) (fun i _ hi => hs.block i hi)
        have own6 := World.ownsRow.alloc own5 (.cells #[ptr qb, .slice ra rn rc] 104)
        have hb6 : Below w.heap.size w (w5.alloc (.cells #[ptr qb, .slice ra rn rc] 104)) := HB5.out.alloc HB5.out.size _
        have hbx6 : Below w1.heap.size w2 (w5.alloc (.cells #[ptr qb, .slice ra rn rc] 104)) := hbx5.alloc (by have := hbx5.size; omega) _
        have hy6 := hy5.alloc (.cells #[ptr qb, .slice ra rn rc] 104)
        obtain ⟨r0, r1, r2, r3⟩ := hy5.cells
        have rh := hy5.heap
        have rl := hy5.lt
        have cells6 := cr_cells w5 (ptr qb) (.slice ra rn rc) 104
        have hlen6 := own6.1
        have hss6 : (w5.alloc (.cells #[ptr qb, .slice ra rn rc] 104)).heap.size = w5.heap.size + 1 := World.size_alloc _ _
        have hbs6 := hbx5.size
        have hs6 : w1.heap.size + 1 ≤ (w5.alloc (.cells #[ptr qb, .slice ra rn rc] 104)).heap.size := by omega
        clear hs gc z4 hkb hk HCB HD HA HBOX4 HOWN4 hch own5 hy5 HB4 HBX4 a0 a1 a2 a3 ah al c0 c1 ch cl
        go_wp2_with (at_builtin; refine wpList_append_own_at _ rfl _ _ 105 rfl (w1.heap.size + 1) 104 i0 (.agg #[.pointer none, .slice none 0 0]) 2 32 Tryd.underlying105 hi hz0 hz1 hz2 rfl (by decide) _ _ _ rfl own6 ⟨w5.heap.size, 0, none⟩ 1 1 [ptr qb, .slice ra rn rc] rfl rfl cells6 (by simp [Value.oneCell']) (by unfold maxLen; omega) (by omega) hs6 ?_)
        intro v9 w9 own9 grow9 hnew9 hat9
        have hy9 : Box4 w9 w1.heap.size 107 (.int .i64 pw) (.int .i64 pv) (ptr q) (.slice va j vcap) := by
          refine ⟨?_⟩
          rw [grow9.block _ hy6.lt ?_]
          · exact hy6.heap
          · intro e
            have := own_block own6 e.symm
            omega
        have hb9 : Below w.heap.size w w9 := hb6.grown grow9 (by omega) (fun k hk => by have := (own_block own6 hk).1; omega)
        have hbx9 : Below w1.heap.size w2 w9 := hbx6.grown grow9 (by omega) (fun k hk => by have := (own_block own6 hk).1; omega)
        obtain ⟨v9a, v9c, rfl⟩ := own_shape own9
        obtain ⟨m0, m1, m2, m3⟩ := hy9.cells
        have mh := hy9.heap
        have ml := hy9.lt
        have mf := hy9.frozen 3
        have HY10 : Hid _ := hy9.set3 (.slice v9a (j + 1) v9c)
        have HB10 : Hid (Below w.heap.size w (w9.setCell ⟨w1.heap.size, 3, none⟩ (.slice v9a (j + 1) v9c))) := hb9.setCell (by show w.heap.size ≤ w1.heap.size; omega) _
        have HBX10 : Hid (Below w1.heap.size w2 (w9.setCell ⟨w1.heap.size, 3, none⟩ (.slice v9a (j + 1) v9c))) := hbx9.setCell (Nat.le_refl _) _
        have HO10 : Hid ((w9.setCell ⟨w1.heap.size, 3, none⟩ (.slice v9a (j + 1) v9c)).ownsRow (w1.heap.size + 1) 104 2 (.slice v9a (j + 1) v9c) (j + 1) (flatP (ps ++ [(ptr qb, .slice ra rn rc)]))) := by
          show World.ownsRow _ _ _ _ _ _ _
          rw [flatP_append]
          exact own_same (lo := w1.heap.size + 1) own9 (fun q hq => (own_block own9 hq).2) (same_set (Nat.lt_succ_self _))
        have hq10 : ∀ k, k < w5.heap.size → (Value.slice va j vcap).ownBlock ≠ some k → k ≠ w1.heap.size → (w9.setCell ⟨w1.heap.size, 3, none⟩ (.slice v9a (j + 1) v9c)).heap[k]? = w5.heap[k]? := fun k hk hne hp => by
          rw [Below.heap_setCell _ _ _ _ (by show k ≠ w1.heap.size; exact hp), grow9.block k (by rw [World.size_alloc]; omega) (fun e => hne e.symm)]
          show (w5.heap.push _)[k]? = _
          rw [Array.getElem?_push_lt hk]
          simp [hk]
        have hs9 := grow9.size
        rw [World.size_alloc] at hs9
        have hs10 : (w9.setCell ⟨w1.heap.size, 3, none⟩ (.slice v9a (j + 1) v9c)).heap.size = w9.heap.size := size_set _ _ _
        have hv9 : ∀ k, k < w5.heap.size → (Value.slice va j vcap).ownBlock ≠ some k → (Value.slice v9a (j + 1) v9c).ownBlock ≠ some k := fun k hk hne e => by
          rcases hat9 with h | h
          · exact hne (h.symm.trans e)
          · rw [h] at e
            have := Option.some.inj e
            omega
        have hz4 := HS4.out.size
        have hz5 := HS5.out.size
        have HEL10 : Hid (∀ (i : Nat) (c : Cm) (p : Value × Value), cs[i]? = some c → (ps ++ [((ptr qb : Value), (.slice ra rn rc : Value))])[i]? = some p → CmEl (w9.setCell ⟨w1.heap.size, 3, none⟩ (.slice v9a (j + 1) v9c)) (fun k => w.heap.size ≤ k ∧ k < (w9.setCell ⟨w1.heap.size, 3, none⟩ (.slice v9a (j + 1) v9c)).heap.size ∧ k ≠ w1.heap.size ∧ (Value.slice v9a (j + 1) v9c).ownBlock ≠ some k) pw pv c p.1 p.2) := by
          intro i c p hc hp
          by_cases hij : i < ps.length
          · rw [List.getElem?_append_left hij] at hp
            refine (HEL.out i c p hc hp).frame (by omega) (fun k hk => ⟨hk.1, by omega, hk.2.2.1, hv9 k (by omega) hk.2.2.2⟩) (fun k hk => ?_)
            rw [hq10 k (by omega) hk.2.2.2 hk.2.2.1, HS5.out.block k (by omega), HS4.out.block k (by omega)]
            exact hbw k hk.2.1
          · have hlt9 := (List.getElem?_eq_some_iff.1 hp).1
            have hpl := HPL.out
            rw [List.length_append, List.length_singleton] at hlt9
            have hi9 : i = j := by omega
            subst hi9
            rw [List.getElem?_append_right (by omega), hpl, Nat.sub_self] at hp
            simp only [List.getElem?_cons_zero, Option.some.injEq] at hp
            subst hp
            rw [HDJ.out] at hc
            simp only [Option.some.injEq] at hc
            subst hc
            refine ⟨HRW.out.frame (fun k hk => ?_) (fun k hk => ?_), HCRW.out.frame (by omega) (fun k hk => ?_) (fun k hk => ?_)⟩
            · have hne : (Value.slice va i vcap).ownBlock ≠ some k := fun e => by have := HVL.out k e; omega
              exact ⟨by omega, by omega, by omega, hv9 k (by omega) hne⟩
            · have hne : (Value.slice va i vcap).ownBlock ≠ some k := fun e => by have := HVL.out k e; omega
              rw [hq10 k (by omega) hne (by omega)]
              exact HS5.out.block k hk.2
            · have hne : (Value.slice va i vcap).ownBlock ≠ some k := fun e => by have := HVL.out k e; omega
              exact ⟨by omega, by omega, by omega, hv9 k hk.2 hne⟩
            · have hne : (Value.slice va i vcap).ownBlock ≠ some k := fun e => by have := HVL.out k e; omega
              exact hq10 k hk.2 hne (by omega)
        have HPL10 : Hid ((ps ++ [((ptr qb : Value), (.slice ra rn rc : Value))]).length = j + 1) := by
          show (ps ++ [((ptr qb : Value), (.slice ra rn rc : Value))]).length = j + 1
          rw [List.length_append, HPL.out]
          rfl
        clear hq10 hv9 hat9 hbw HRW HCRW HS4 HS5 HEL HPL HVL HDJ
        clear own6 own9 grow9 hb6 hbx6 hy6 hb9 hbx9 hy9 cells6 r0 r1 r2 r3 rh rl hnew9
        go_wp2_with fail
        go_roundw
        case rel => exact ⟨j + 1, by omega, by go_num, HN, ⟨_, _, HPL10.out, HY10.out, HO10.out, HEL10.out⟩, HB10, HBX10⟩
        case measure => simp [intOf]; omega
    · obtain rfl : j = cs.length := by omega
      have HN : Hid (GP = true) := by
        have h1 := HA.out
        rw [List.take_length] at h1
        exact HR2.out.trans h1
      have hbsz := HB.out.size
      have H5 : Hid (RtAt wr (fun k => w.heap.size ≤ k ∧ k < wr.heap.size) pw pv 2 pst (ptr q)) := HRT2.out.frame (fun k hk => ⟨by omega, by omega⟩) (fun k hk => HBX.out.block k hk.2)
      have H6 : Hid (CmrAt wr (fun k => w.heap.size ≤ k ∧ k < wr.heap.size) pw pv (.slice va cs.length vcap) cs) := cmrAt_of HPL.out HOWN.out (fun k h1 h2 => ⟨by omega, h2⟩) (fun i c p hc hp => (HEL.out i c p hc hp).frame (Nat.le_refl _) (fun k hk => ⟨hk.1, hk.2.1⟩) (fun _ _ => rfl))
      clear HCS GN GY GC HA HOWN HR2 HEL HPL HRT2
      go_wp2_with fail
      exact HPE.out _ _ _ _ HN.out (by omega) HBOX.out HB.out H5.out H6.out
end Go.Proofs.YtmhpnkfibecnmaaDoor

namespace Go.Proofs.YtmhpnkfibecnmaaDoor
open Go Go.RowKit
open M
set_option linter.unusedVariables false

/-- the four words of a state -/
abbrev aggS (st : List Int) : Value := .agg #[.int .u64 (padW st 0), .int .u64 (padW st 1), .int .u64 (padW st 2), .int .u64 (padW st 3)]
/-- a state as it lies in a block -/
abbrev BoxS (w : World) (b : Nat) (st : List Int) : Prop := Box4 w b 86 (.int .u64 (padW st 0)) (.int .u64 (padW st 1)) (.int .u64 (padW st 2)) (.int .u64 (padW st 3))
/-- words of a state as a good program has them -/
def WordsIn (k vars : Nat) (st : List Int) : Prop := 1 ≤ k ∧ k ≤ 64 ∧ 1 ≤ vars ∧ vars ≤ 4 ∧ st.length = vars ∧ (∀ s ∈ st, 0 ≤ s) ∧ ∀ s ∈ st, goodB k s = true
theorem padW_mem (st : List Int) (i : Nat) : padW st i = 0 ∨ padW st i ∈ st := by
  unfold padW
  rw [List.getD_eq_getElem?_getD]
  cases h : st[i]? with
  | none => exact Or.inl rfl
  | some x => exact Or.inr (List.mem_of_getElem? h)
theorem padL_words {k vars : Nat} {st : List Int} (h : WordsIn k vars st) : ∀ s ∈ padL st, 0 ≤ s ∧ s < pw k := by
  obtain ⟨h1, h2, _, _, _, h0, hg⟩ := h
  have key : ∀ i, 0 ≤ padW st i ∧ padW st i < pw k := by
    intro i
    rcases padW_mem st i with e | e
    · rw [e]
      exact ⟨Int.le_refl _, by have := pw_pos k; omega⟩
    · have := good_two k _ (h0 _ e) (hg _ e)
      rw [pw_int] at this
      exact this
  intro s hs
  simp only [padL, List.mem_cons, List.not_mem_nil, or_false] at hs
  rcases hs with rfl | rfl | rfl | rfl <;> exact key _
theorem set4_other {u : World} {b i : Nat} (h : i ≠ b) (v0 v1 v2 v3 : Value) : ((((u.setCell ⟨b, 0, none⟩ v0).setCell ⟨b, 1, none⟩ v1).setCell ⟨b, 2, none⟩ v2).setCell ⟨b, 3, none⟩ v3).heap[i]? = u.heap[i]? := by
  rw [Below.heap_setCell _ _ _ _ h, Below.heap_setCell _ _ _ _ h, Below.heap_setCell _ _ _ _ h, Below.heap_setCell _ _ _ _ h]
theorem set4_size (u : World) (b : Nat) (v0 v1 v2 v3 : Value) : ((((u.setCell ⟨b, 0, none⟩ v0).setCell ⟨b, 1, none⟩ v1).setCell ⟨b, 2, none⟩ v2).setCell ⟨b, 3, none⟩ v3).heap.size = u.heap.size := by
  rw [size_set, size_set, size_set, size_set]
theorem set4_below {u w : World} {b : Nat} {B : Nat} (hb : Below B w u) (h : B ≤ b) (v0 v1 v2 v3 : Value) : Below B w ((((u.setCell ⟨b, 0, none⟩ v0).setCell ⟨b, 1, none⟩ v1).setCell ⟨b, 2, none⟩ v2).setCell ⟨b, 3, none⟩ v3) :=
  (((hb.setCell h v0).setCell h v1).setCell h v2).setCell h v3
end Go.Proofs.YtmhpnkfibecnmaaDoor

namespace Go.Proofs.YtmhpnkfibecnmaaDoor
open Go Go.RowKit
open M
set_option linter.unusedVariables false

theorem boxS_at {w : World} {b : Nat} {st : List Int} (h : BoxS w b st) : StAt w (.slice (some ⟨b, 0, none⟩) 4 4) (padL st) := by
  obtain ⟨c0, c1, c2, c3⟩ := h.cells
  refine Or.inr ⟨b, 0, 4, rfl, h.lt, fun i s hi => ?_⟩
  have hil := (List.getElem?_eq_some_iff.1 hi).1
  simp only [padL, List.length_cons, List.length_nil] at hil
  rw [padL_at st i (by omega)] at hi
  obtain rfl := Option.some.inj hi
  rcases (show i = 0 ∨ i = 1 ∨ i = 2 ∨ i = 3 by omega) with rfl | rfl | rfl | rfl
  · exact c0
  · exact c1
  · exact c2
  · exact c3
theorem valR_any {k vars : Nat} {kind : Int} {t : List Nd} (hpos : ∀ x ∈ t, 0 ≤ x.2) {st : List Int} (hw : WordsIn k vars st) (z : Value) (w : World) (hT : Tab w) (hr : RtAt w (Old w) k vars kind t z) (b : Nat) (hx : BoxS w b st) :
    Calls Tryd.prog 126 #[z, .int .i64 k, .slice (some ⟨b, 0, none⟩) 4 4] w fun e w' => e = .returned (.int .u64 (valueL k t st)) ∧ Below w.heap.size w w' := by
  obtain ⟨r, q, rfl, hf, hok, _, hsz, htr⟩ := hr
  have hp := padL_words hw
  obtain ⟨hk1, hk, hv1, hv4, hlen, h0, hg⟩ := hw
  have e1 := (value_of_flat (k := k) (st := st) (T := r) (by rw [hlen]; exact hok) hk1 hk (by omega) (by omega) hsz hg).2
  have hvb : ∀ x ∈ r.flat, x.1 = 2 → x.2.toNat < vars := by
    intro x hx h2
    have h3 := ok_vars hok x hx h2
    have h4 := hpos x (by rw [← hf]; exact hx)
    omega
  have e2 : trVal k (padL st) r = trVal k st r := trVal_congr k _ _ r (fun x hx h2 => padL_getD st (by omega) _ (by have := hvb x hx h2; omega))
  rw [hf] at e1
  rw [e1, ← e2]
  exact value_any k hk1 hk vars (padL st) _ hp (by simp [padL]) r q w hT htr (boxS_at hx) hok (fun x hx => hpos x (by rw [← hf]; exact hx)) (fun x hx h2 => by
    have := hvb x hx h2
    have : (padL st).length = 4 := rfl
    omega)
set_option maxRecDepth 100000 in
set_option maxHeartbeats 2000000 in
theorem worth_any {k vars : Nat} {kind : Int} {t : List Nd} (hpos : ∀ x ∈ t, 0 ≤ x.2) {st : List Int} (hw : WordsIn k vars st) (P : Nat) (u y z : Value) (w : World) (hT : Tab w) (hP : Box4 w P 107 (.int .i64 k) (.int .i64 vars) u y) (hr : RtAt w (Old w) k vars kind t z) :
    Calls Tryd.prog 101 #[ptr P, z, aggS st] w fun e w' => e = .returned (.int .u64 (valueL k t st)) ∧ Below w.heap.size w w' := by
  unfold aggS
  have HB0 : Hid (Below w.heap.size w (w.alloc (.cells #[.int .u64 (padW st 0), .int .u64 (padW st 1), .int .u64 (padW st 2), .int .u64 (padW st 3)] 86))) := (Below.refl _ _).alloc (Nat.le_refl _) _
  have y0 := box4_alloc w 86 (.int .u64 (padW st 0)) (.int .u64 (padW st 1)) (.int .u64 (padW st 2)) (.int .u64 (padW st 3))
  have HBD : Hid (Below w.heap.size w (w.alloc (.cells #[.int .u64 (padW st 0), .int .u64 (padW st 1), .int .u64 (padW st 2), .int .u64 (padW st 3)] 86)).drew) := HB0.out.drew
  have hr2 : RtAt _ (Old _) k vars kind t z := hr.frame (fun i hi => Nat.lt_of_lt_of_le hi HBD.out.size) (fun i hi => HBD.out.block i hi)
  have GC : Hid _ := valR_any hpos hw z _ (hT.below HBD.out hT.some) hr2 _ ⟨y0.heap⟩
  have hP2 := hP.below HB0.out hP.lt
  obtain ⟨p0, p1, p2, p3⟩ := hP2.cells
  have ph := hP2.heap
  have pl := hP2.lt
  obtain ⟨q0, q1, q2, q3⟩ := y0.cells
  have qh := y0.heap
  have ql := y0.lt
  have h4 : (Tryd.prog.info? 86).map (·.size) = some 4 := by kernel_rfl
  obtain ⟨_, b, rfl, _⟩ := hr
  clear hr2 hP2 hP y0 hT hpos hw
  generalize valueL k t st = V at *
  generalize padW st 0 = x0 at *
  generalize padW st 1 = x1 at *
  generalize padW st 2 = x2 at *
  generalize padW st 3 = x3 at *
  go_enter Tryd.func101, Tryd.ntmps101
  go_wp2_with fail
  go_region_with (go_at_call 126; refine Calls.mono GC.out ?_; rintro e w1 ⟨rfl, hs⟩; have HB1 : Hid (Below w.heap.size w w1) := Below.step HBD.out HBD.out.size hs; clear hs)
  all_goals
    go_wp2_with fail
    go_ret
    exact ⟨rfl, HB1.out⟩
set_option maxRecDepth 100000 in
set_option maxHeartbeats 2000000 in
theorem holds_any {k vars : Nat} {kind : Int} {t : List Nd} (hpos : ∀ x ∈ t, 0 ≤ x.2) {st : List Int} (hw : WordsIn k vars st) (P : Nat) (u y z : Value) (w : World) (hT : Tab w) (hP : Box4 w P 107 (.int .i64 k) (.int .i64 vars) u y) (hr : RtAt w (Old w) k vars kind t z) :
    Calls Tryd.prog 100 #[ptr P, z, aggS st] w fun e w' => e = .returned (.bool (holdsL k t st)) ∧ Below w.heap.size w w' := by
  have HB0 : Hid (Below w.heap.size w (w.alloc (.cells #[.int .u64 (padW st 0), .int .u64 (padW st 1), .int .u64 (padW st 2), .int .u64 (padW st 3)] 86))) := (Below.refl _ _).alloc (Nat.le_refl _) _
  have hr2 : RtAt _ (Old _) k vars kind t z := hr.frame (fun i hi => Nat.lt_of_lt_of_le hi HB0.out.size) (fun i hi => HB0.out.block i hi)
  have g := worth_any hpos hw P u y z _ (hT.below HB0.out hT.some) (hP.below HB0.out hP.lt) hr2
  have y0 := box4_alloc w 86 (.int .u64 (padW st 0)) (.int .u64 (padW st 1)) (.int .u64 (padW st 2)) (.int .u64 (padW st 3))
  obtain ⟨q0, q1, q2, q3⟩ := y0.cells
  have qh := y0.heap
  have ql := y0.lt
  have h4 : (Tryd.prog.info? 86).map (·.size) = some 4 := by kernel_rfl
  have hH : holdsL k t st = (valueL k t st == 1) := rfl
  rw [hH]
  unfold aggS at *
  obtain ⟨_, b, rfl, _⟩ := hr
  clear hT hP hpos hw hH hr2 y0
  generalize valueL k t st = V at *
  generalize padW st 0 = x0 at *
  generalize padW st 1 = x1 at *
  generalize padW st 2 = x2 at *
  generalize padW st 3 = x3 at *
  go_enter Tryd.func100, Tryd.ntmps100
  go_wp2_with fail
  refine g.mono ?_
  rintro e w1 ⟨rfl, hs⟩
  have HB1 : Hid (Below w.heap.size w w1) := Below.step HB0.out HB0.out.size hs
  clear hs g
  go_wp2_with fail
  go_ret
  exact ⟨rfl, HB1.out⟩
end Go.Proofs.YtmhpnkfibecnmaaDoor

namespace Go.Proofs.YtmhpnkfibecnmaaDoor
open Go Go.RowKit
open M
set_option linter.unusedVariables false

abbrev zeroS : Value := .agg #[.int .u64 0, .int .u64 0, .int .u64 0, .int .u64 0]
/-- what rootsWith answers -/
def RWOut (w : World) (p : Pg) (st : List Int) (e : Ending) (w' : World) : Prop :=
  ((goodS p st = true ∧ ∃ P : Nat, e = .returned (.tuple #[ptr P, aggS st]) ∧ Rooted w' (fun k => w.heap.size ≤ k ∧ k < w'.heap.size) p P) ∨ (goodS p st = false ∧ e = .returned (.tuple #[.pointer none, zeroS]))) ∧ Below w.heap.size w w'
theorem rwOut_no {w w' : World} {p : Pg} {st : List Int} (h : goodS p st = false) (hb : Below w.heap.size w w') : RWOut w p st (.returned (.tuple #[.pointer none, zeroS])) w' := ⟨Or.inr ⟨h, rfl⟩, hb⟩
theorem rwOut_yes {w w' : World} {p : Pg} {st : List Int} (P : Nat) (a b c d : Int) (h : goodS p st = true) (e : a = padW st 0 ∧ b = padW st 1 ∧ c = padW st 2 ∧ d = padW st 3) (hr : Rooted w' (fun k => w.heap.size ≤ k ∧ k < w'.heap.size) p P) (hb : Below w.heap.size w w') : RWOut w p st (.returned (.tuple #[.pointer (some ⟨P, 0, none⟩), .agg #[.int .u64 a, .int .u64 b, .int .u64 c, .int .u64 d]])) w' := by
  obtain ⟨rfl, rfl, rfl, rfl⟩ := e
  exact ⟨Or.inl ⟨h, P, rfl, hr⟩, hb⟩
theorem Rooted.frame {w w' : World} {S S' : Nat → Prop} {p : Pg} {P : Nat} (h : Rooted w S p P) (hz : w.heap.size ≤ w'.heap.size) (hs : ∀ k, S k → S' k) (hk : ∀ k, S k → w'.heap[k]? = w.heap[k]?) : Rooted w' S' p P := by
  obtain ⟨h0, x, y, h1, h2, h3⟩ := h
  exact ⟨hs P h0, x, y, ⟨by rw [hk P h0]; exact h1.heap⟩, h2.frame hs hk, h3.frame hz hs hk⟩
theorem goodS_open {p : Pg} {st : List Int} (h0 : ∀ s ∈ st, 0 ≤ s) (h : goodS p st = true) : goodP p = true ∧ ∃ k v : Nat, p.1 = k ∧ p.2.1 = v ∧ WordsIn k v st := by
  unfold goodS at h
  rw [Bool.and_eq_true] at h
  obtain ⟨h1, h2⟩ := h
  obtain ⟨k, v, e1, e2, q1, q2, q3, q4⟩ := goodP_nats h1
  obtain ⟨h3, h4⟩ := stateP_open h2
  refine ⟨h1, k, v, e1, e2, q1, q2, q3, q4, by omega, h0, ?_⟩
  rw [← e1]
  exact h4
theorem results_b4 {fn : Func} {p u : Tmp} (h : fn.results = #[.tmp u, .cell p 86]) (tmps : Array Value) (w : World) (g : Nat) (t : TypeId) (cs : Array Value) (fr : Nat × Nat)
    (hp : tmps.getD p undef = .pointer (some ⟨g, 0, none⟩)) (hg : w.heap[g]? = some (.cells cs t fr)) (hi : cs.size = 4 := by rfl) :
    (results fn tmps).run Tryd.prog w = .ok (.tuple #[tmps.getD u undef, .agg cs]) w := by
  have hp' : tmps[p]?.getD undef = .pointer (some ⟨g, 0, none⟩) := by simpa using hp
  have h4 : (Tryd.prog.info? 86).map (·.size) = some 4 := by kernel_rfl
  simp [results, h, hp', asAddr, run_loadVar_row w g t 86 cs fr _ hg Tryd.underlying86 rfl (by rw [hi]; exact h4)]
abbrev PBox (w : World) (a b : Int) (s c : Value) : World := w.alloc (.cells #[.int .i64 a, .int .i64 b, s, c] 27)
abbrev ZBox (w : World) : World := w.alloc (.cells #[.int .u64 0, .int .u64 0, .int .u64 0, .int .u64 0] 86)
abbrev BoxZ (w : World) (b : Nat) : Prop := Box4 w b 86 (.int .u64 0) (.int .u64 0) (.int .u64 0) (.int .u64 0)
set_option maxRecDepth 100000 in
set_option maxHeartbeats 4000000 in
theorem rootsWith_any (v sv : Value) (p : Pg) (ok : PgOk p) (st : List Int) (hst : ∀ s ∈ st, 0 ≤ s ∧ s ≤ 18446744073709551615) (hl : st.length ≤ 1048576) (w : World) (hT : Tab w) (h : AtProg w v p) (hs : StAt w sv st) :
    Calls Tryd.prog 52 #[v, sv] w (RWOut w p st) := by
  obtain ⟨sa, sn, sc, ca, cn, cc, rfl⟩ := h.shape
  have hb2 : Below w.heap.size w ((w.alloc (.cells #[.int .i64 p.1, .int .i64 p.2.1, .slice sa sn sc, .slice ca cn cc] 27)).alloc (.cells #[.int .u64 0, .int .u64 0, .int .u64 0, .int .u64 0] 86)) := ((Below.refl _ _).alloc (Nat.le_refl _) _).alloc (by rw [World.size_alloc]; omega) _
  have HB0 : Hid _ := hb2
  have x0 := (box4_alloc w 27 (.int .i64 p.1) (.int .i64 p.2.1) (.slice sa sn sc) (.slice ca cn cc)).alloc (.cells #[.int .u64 0, .int .u64 0, .int .u64 0, .int .u64 0] 86)
  have y0 := box4_alloc (w.alloc (.cells #[.int .i64 p.1, .int .i64 p.2.1, .slice sa sn sc, .slice ca cn cc] 27)) 86 (.int .u64 0) (.int .u64 0) (.int .u64 0) (.int .u64 0)
  simp only [World.size_alloc] at y0
  have g := rootsOf_full _ p ok _ (hT.below HB0.out hT.some) (h.below HB0.out)
  have HNO : Hid (∀ w' : World, goodS p st = false → Below w.heap.size w w' → RWOut w p st (.returned (.tuple #[.pointer none, zeroS])) w') := fun w' h1 h2 => rwOut_no h1 h2
  have HYE : Hid (∀ (w' : World) (P : Nat) (a b c d : Int), goodS p st = true → (a = padW st 0 ∧ b = padW st 1 ∧ c = padW st 2 ∧ d = padW st 3) → Rooted w' (fun k => w.heap.size ≤ k ∧ k < w'.heap.size) p P → Below w.heap.size w w' → RWOut w p st (.returned (.tuple #[.pointer (some ⟨P, 0, none⟩), .agg #[.int .u64 a, .int .u64 b, .int .u64 c, .int .u64 d]])) w') := fun w' P a b c d h1 h2 h3 h4 => rwOut_yes P a b c d h1 h2 h3 h4
  have HG : Hid (goodS p st = (goodP p && stateP p st)) := rfl
  have HF : Hid (∀ (w1 : World) (P : Nat) (x y : Value) (k u : Nat), goodP p = true → p.1 = k → p.2.1 = u → Below w.heap.size w w1 → Box4 w1 P 107 (.int .i64 p.1) (.int .i64 p.2.1) x y → Calls Tryd.prog 99 #[.pointer (some ⟨P, 0, none⟩), sv] w1 (StOut w1 k u st)) := fun w1 P x y k u hg e1 e2 hb hx => by
    obtain ⟨_, q0, q1, q2, q3, _⟩ := goodP_parts hg
    rw [e1, e2] at hx
    exact stateFrom_any k (by omega) (by omega) u (by omega) P x y sv st hst (by omega) w1 (hT.below hb hT.some) hx (hs.below hb)
  have HSB : Hid (∀ k u : Nat, p.1 = k → p.2.1 = u → stB k u st = stateP p st) := fun k u e1 e2 => by
    unfold stB stateP
    rw [e1, e2]
  have HNT : Hid (goodP p = true → ∃ k u : Nat, p.1 = k ∧ p.2.1 = u) := fun hg => by
    obtain ⟨k, u, e1, e2, _⟩ := goodP_nats hg
    exact ⟨k, u, e1, e2⟩
  obtain ⟨ua, uc, rfl⟩ := hs.shape
  have h4 : (Tryd.prog.info? 86).map (·.size) = some 4 := by kernel_rfl
  obtain ⟨a0, a1, a2, a3⟩ := x0.cells
  have ah := x0.heap
  have al := x0.lt
  have HY0 : Hid _ := y0
  clear h hT ok hs hst hb2 x0 y0
  generalize hOUT : RWOut w p st = OUT at *
  clear hOUT
  go_enter Tryd.func52, Tryd.ntmps52
  go_wp2_with fail
  refine g.mono ?_
  clear a0 a1 a2 a3 ah al
  generalize hw0 : (w.alloc (.cells #[.int .i64 p.1, .int .i64 p.2.1, .slice sa sn sc, .slice ca cn cc] 27)).alloc (.cells #[.int .u64 0, .int .u64 0, .int .u64 0, .int .u64 0] 86) = w0 at *
  have hz0 : w0.heap.size = w.heap.size + 2 := by rw [← hw0, World.size_alloc, World.size_alloc]
  clear hw0
  rintro e w1 ⟨ho, hb1⟩
  have HB1 : Hid (Below w.heap.size w w1) := HB0.out.trans (hb1.mono (by omega))
  have HY1 : Hid _ := HY0.out.below hb1 (by omega)
  have hz1 := hb1.size
  obtain ⟨q0, q1, q2, q3⟩ := HY1.out.cells
  have qh := HY1.out.heap
  have ql := HY1.out.lt
  have f0 := HY1.out.frozen 0
  have f1 := HY1.out.frozen 1
  have f2 := HY1.out.frozen 2
  have f3 := HY1.out.frozen 3
  rcases ho with ⟨hg, P, rfl, hroot⟩ | ⟨hg, rfl⟩
  · obtain ⟨k, u, e1, e2⟩ := HNT.out hg
    have HR : Hid (Rooted w1 (fun k => w0.heap.size ≤ k ∧ k < w1.heap.size) p P) := hroot
    obtain ⟨hPS, x, y, hbx, _, _⟩ := hroot
    have gf := HF.out w1 P x y k u hg e1 e2 HB1.out hbx
    have HGP : Hid (goodS p st = stB k u st) := by
      show goodS p st = stB k u st
      rw [HG.out, hg, Bool.true_and, HSB.out k u e1 e2]
    clear g HF HSB HNT HG hg hbx e1 e2 hPS
    go_wp2_with fail
    refine gf.mono ?_
    rintro e w2 ⟨a, b, c, d, rfl, habcd, hb2⟩
    have HB2 : Hid (Below w.heap.size w w2) := HB1.out.trans (hb2.mono HB1.out.size)
    have hz2 := hb2.size
    have HY2 : Hid _ := HY1.out.below hb2 (by omega)
    have HR2 : Hid (Rooted w2 (fun k => w.heap.size + 2 ≤ k ∧ k < w2.heap.size) p P) := Rooted.frame HR.out hb2.size (fun k hk => ⟨by omega, by omega⟩) (fun k hk => hb2.block k hk.2)
    have HA : Hid _ := habcd
    have hb3 : Below w2.heap.size w2 (w2.alloc (.cells #[.int .u64 a, .int .u64 b, .int .u64 c, .int .u64 d] 86)) := (Below.refl _ _).alloc (Nat.le_refl _) _
    have HB3 : Hid _ := HB2.out.trans (hb3.mono HB2.out.size)
    have hz3 := hb3.size
    have HR3 : Hid (Rooted (w2.alloc (.cells #[.int .u64 a, .int .u64 b, .int .u64 c, .int .u64 d] 86)) (fun k => w.heap.size + 2 ≤ k ∧ k < (w2.alloc (.cells #[.int .u64 a, .int .u64 b, .int .u64 c, .int .u64 d] 86)).heap.size) p P) := Rooted.frame HR2.out (S' := fun k => w.heap.size + 2 ≤ k ∧ k < (w2.alloc (.cells #[.int .u64 a, .int .u64 b, .int .u64 c, .int .u64 d] 86)).heap.size) hb3.size (fun k hk => ⟨hk.1, by omega⟩) (fun k hk => hb3.block k hk.2)
    have HY3 : Hid _ := HY2.out.alloc (.cells #[.int .u64 a, .int .u64 b, .int .u64 c, .int .u64 d] 86)
    have x3 := box4_alloc w2 86 (.int .u64 a) (.int .u64 b) (.int .u64 c) (.int .u64 d)
    clear q0 q1 q2 q3 qh ql f0 f1 f2 f3
    obtain ⟨q0, q1, q2, q3⟩ := HY3.out.cells
    have qh := HY3.out.heap
    have ql := HY3.out.lt
    have f0 := HY3.out.frozen 0
    have f1 := HY3.out.frozen 1
    have f2 := HY3.out.frozen 2
    have f3 := HY3.out.frozen 3
    obtain ⟨r0, r1, r2, r3⟩ := x3.cells
    have rh := x3.heap
    have rl := x3.lt
    clear gf HR hb2 habcd x3 HR2 HY2 HB2
    cases hB : stB k u st with
    | true =>
      rw [hB] at HA HGP
      go_wp2_with fail
      go_region
      all_goals
        go_wp2_with fail
        refine bodyPost_ret (results_b4 rfl _ _ _ _ _ _ rfl ((((HY3.out.set0 (.int .u64 a)).set1 (.int .u64 b)).set2 (.int .u64 c)).set3 (.int .u64 d)).heap) rfl ?_
        exact HYE.out _ _ _ _ _ _ HGP.out (HA.out (by trivial)) (Rooted.frame HR3.out (Nat.le_of_eq (set4_size _ _ _ _ _ _).symm) (fun k hk => ⟨by omega, Nat.lt_of_lt_of_eq hk.2 (set4_size _ _ _ _ _ _).symm⟩) (fun k hk => set4_other (by omega) _ _ _ _)) (set4_below HB3.out (Nat.le_succ _) _ _ _ _).drew
    | false =>
      rw [hB] at HGP
      go_wp2_with fail
      refine bodyPost_ret (results_b4 rfl _ _ _ _ _ _ rfl ((((HY3.out.set0 (.int .u64 0)).set1 (.int .u64 0)).set2 (.int .u64 0)).set3 (.int .u64 0)).heap) rfl ?_
      exact HNO.out _ HGP.out ((((HB3.out.setCell (Nat.le_succ _) (.int .u64 0)).setCell (Nat.le_succ _) (.int .u64 0)).setCell (Nat.le_succ _) (.int .u64 0)).setCell (Nat.le_succ _) (.int .u64 0))
  · have HN : Hid (goodS p st = false) := by
      show goodS p st = false
      rw [HG.out, hg, Bool.false_and]
    clear g HF HSB HNT HG hg hb1
    go_wp2_with fail
    refine bodyPost_ret (results_b4 rfl _ _ _ _ _ _ rfl ((((HY1.out.set0 (.int .u64 0)).set1 (.int .u64 0)).set2 (.int .u64 0)).set3 (.int .u64 0)).heap) rfl ?_
    exact HNO.out _ HN.out ((((HB1.out.setCell (Nat.le_succ _) (.int .u64 0)).setCell (Nat.le_succ _) (.int .u64 0)).setCell (Nat.le_succ _) (.int .u64 0)).setCell (Nat.le_succ _) (.int .u64 0))
end Go.Proofs.YtmhpnkfibecnmaaDoor

namespace Go.Proofs.YtmhpnkfibecnmaaDoor
open Go Go.RowKit
open M
set_option linter.unusedVariables false

theorem indexW_at (st : List Int) (j : Nat) (hj : j < 4) (w : World) : Sem.run Tryd.prog (Instr.index 86 (aggS st) (.int .i64 (j : Int))) w = .ok (.int .u64 (padW st j)) w := by
  rcases (show j = 0 ∨ j = 1 ∨ j = 2 ∨ j = 3 by omega) with rfl | rfl | rfl | rfl
  · exact indexW_0 _ _ _ _ w
  · exact indexW_1 _ _ _ _ w
  · exact indexW_2 _ _ _ _ w
  · exact indexW_3 _ _ _ _ w
set_option maxRecDepth 100000 in
set_option maxHeartbeats 2000000 in
theorem number_any {k vars : Nat} (hk5 : k ≤ 5) {st : List Int} (hw : WordsIn k vars st) (P : Nat) (u y : Value) (w : World) (hP : Box4 w P 107 (.int .i64 k) (.int .i64 vars) u y) :
    Calls Tryd.prog 76 #[ptr P, aggS st] w fun e w' => e = .returned (.int .i64 (noL k st)) ∧ Below w.heap.size w w' := by
  have hp := padL_words hw
  have hl4 : st.length ≤ 4 := by obtain ⟨_, _, _, h4, h5, _⟩ := hw; omega
  have hb0 : Below w.heap.size w (w.alloc (.cells #[.int .u64 (padW st 0), .int .u64 (padW st 1), .int .u64 (padW st 2), .int .u64 (padW st 3)] 86)) := (Below.refl _ _).alloc (Nat.le_refl _) _
  have y0 := box4_alloc w 86 (.int .u64 (padW st 0)) (.int .u64 (padW st 1)) (.int .u64 (padW st 2)) (.int .u64 (padW st 3))
  have HB0 : Hid _ := hb0
  have hP2 := hP.below hb0 hP.lt
  obtain ⟨p0, p1, p2, p3⟩ := hP2.cells
  have ph := hP2.heap
  have pl := hP2.lt
  obtain ⟨q0, q1, q2, q3⟩ := y0.cells
  have qh := y0.heap
  have ql := y0.lt
  have h4 : (Tryd.prog.info? 86).map (·.size) = some 4 := by kernel_rfl
  have hbd : ∀ j, j ≤ 4 → 0 ≤ noL k ((padL st).take j) ∧ noL k ((padL st).take j) < 1048576 := by
    intro j hj
    obtain ⟨a, b⟩ := noL_in k ((padL st).take j) (fun s hs => by
      have := hp s (List.mem_of_mem_take hs)
      rw [pw_int]
      exact this)
    refine ⟨a, Int.lt_of_lt_of_le b ?_⟩
    have hl : ((padL st).take j).length ≤ 4 := by rw [List.length_take]; exact Nat.le_trans (Nat.min_le_left _ _) hj
    have hm : k * ((padL st).take j).length ≤ 20 := Nat.le_trans (Nat.mul_le_mul hk5 hl) (by omega)
    rw [pw_int, show (1048576 : Int) = pw 20 from by decide]
    exact pw_mono _ _ hm
  have hsn : ∀ j, j < 4 → noL k ((padL st).take (j + 1)) = noL k ((padL st).take j) + padW st j * 2 ^ (k * j) := by
    intro j hj
    rw [List.take_add_one, padL_at st j hj]
    show noL k ((padL st).take j ++ [padW st j]) = _
    rw [noL_snoc, List.length_take, Nat.min_eq_left (by show j ≤ 4; omega)]
  have hwd : ∀ j, 0 ≤ padW st j ∧ padW st j < 32 := by
    intro j
    have h1 : 0 ≤ padW st j ∧ padW st j < pw k := by
      rcases padW_mem st j with e | e
      · rw [e]
        exact ⟨Int.le_refl _, by have := pw_pos k; omega⟩
      · obtain ⟨_, _, _, _, _, h0, hg⟩ := hw
        have := good_two k _ (h0 _ e) (hg _ e)
        rw [pw_int] at this
        exact this
    have h2 := pw_mono k 5 hk5
    have h3 : pw 5 = 32 := by decide
    omega
  have HBD : Hid _ := hbd
  have HSN : Hid _ := hsn
  have HWD : Hid _ := hwd
  have HE : Hid (noL k ((padL st).take 4) = noL k st) := by
    show _ = _
    rw [show (padL st).take 4 = padL st from rfl, noL_pad k st hl4]
  clear hbd hsn hwd hp hw hP hP2 y0 hb0 hl4
  go_enter Tryd.func76, Tryd.ntmps76
  go_wp2_with fail
  go_loopw [5, 9] (fun m i wr => ∃ j : Nat, j ≤ 4 ∧ i = .int .i64 j ∧ m = .int .i64 (noL k ((padL st).take j)) ∧ wr = w.alloc (.cells #[.int .u64 (padW st 0), .int .u64 (padW st 1), .int .u64 (padW st 2), .int .u64 (padW st 3)] 86)) (fun _ i _ => 4 - (intOf i).toNat)
  case atStart => exact ⟨0, by omega, rfl, rfl, rfl⟩
  case round =>
    obtain ⟨j, hj, rfl, rfl, rfl⟩ := hrel
    obtain ⟨b0, b1⟩ := HBD.out j hj
    by_cases hlt : j < 4
    · have ix := indexW_at st j hlt
      obtain ⟨x0, x1⟩ := HWD.out j
      obtain ⟨c0, c1⟩ := HBD.out (j + 1) hlt
      have hs := HSN.out j hlt
      have hkj : k * j ≤ 15 := Nat.le_trans (Nat.mul_le_mul hk5 (by omega : j ≤ 3)) (by omega)
      have hm : IntKind.i64.wrap ((k : Int) * (j : Int)) = ((k * j : Nat) : Int) := by
        rw [← Int.natCast_mul]
        exact IntWalk.i64_in _ ⟨by omega, by omega⟩
      have hx : IntKind.i64.wrap (padW st j) = padW st j := IntWalk.i64_in _ ⟨by omega, by omega⟩
      go_wp2_with fail
      go_roundw
      case rel => exact ⟨j + 1, by omega, by go_num, by rw [hs], trivial⟩
      case measure => simp [intOf]; omega
    · obtain rfl : j = 4 := by omega
      have HE2 := HE.out
      clear HBD HSN HWD
      go_wp2_with fail
      go_ret
      exact ⟨by rw [← HE2]; rfl, HB0.out⟩
end Go.Proofs.YtmhpnkfibecnmaaDoor

namespace Go.Proofs.YtmhpnkfibecnmaaDoor
open Go Go.RowKit
open M
set_option linter.unusedVariables false

set_option maxRecDepth 100000 in
theorem iGoodProg_any (v : Value) (p : Pg) (ok : PgOk p) (w : World) (hT : Tab w) (h : AtProg w v p) :
    Calls Tryd.prog 13 #[v] w fun e w' => e = .returned (.bool (goodP p)) ∧ Below w.heap.size w w' := by
  obtain ⟨sa, sn, sc, ca, cn, cc, rfl⟩ := h.shape
  have HB0 : Hid (Below w.heap.size w (w.alloc (.cells #[.int .i64 p.1, .int .i64 p.2.1, .slice sa sn sc, .slice ca cn cc] 27))) := (Below.refl _ _).alloc (Nat.le_refl _) _
  have g := rootsOf_any _ p ok _ (hT.below HB0.out hT.some) (h.below HB0.out)
  clear h hT ok
  generalize hgp : goodP p = GP at *
  have HGP : Hid _ := hgp
  clear hgp
  have HO : Hid (∀ (w0 : World) e w', RootsOut w0 p e w' → ((GP = true ∧ ∃ P : Nat, e = .returned (ptr P)) ∨ (GP = false ∧ e = .returned (.pointer none))) ∧ Below w0.heap.size w0 w') := fun w0 e w' ho => by
    obtain ⟨h1, h2⟩ := ho
    refine ⟨?_, h2⟩
    rcases h1 with ⟨a, P, x, y, b, _⟩ | ⟨a, b⟩
    · exact Or.inl ⟨HGP.out.symm.trans a, P, b⟩
    · exact Or.inr ⟨HGP.out.symm.trans a, b⟩
  clear HGP
  generalize hro : RootsOut (w.alloc (.cells #[.int .i64 p.1, .int .i64 p.2.1, .slice sa sn sc, .slice ca cn cc] 27)) p = OUT at g
  have HO2 : Hid (∀ e w', OUT e w' → ((GP = true ∧ ∃ P : Nat, e = .returned (ptr P)) ∨ (GP = false ∧ e = .returned (.pointer none))) ∧ Below (w.alloc (.cells #[.int .i64 p.1, .int .i64 p.2.1, .slice sa sn sc, .slice ca cn cc] 27)).heap.size (w.alloc (.cells #[.int .i64 p.1, .int .i64 p.2.1, .slice sa sn sc, .slice ca cn cc] 27)) w') := fun e w' ho => HO.out _ e w' (by rw [hro]; exact ho)
  clear HO hro
  generalize p.1 = pw at *
  generalize p.2.1 = pv at *
  go_enter Tryd.func13, Tryd.ntmps13
  go_wp2_with fail
  refine g.mono ?_
  rintro e w1 ho
  obtain ⟨h1, hs⟩ := HO2.out e w1 ho
  have HB1 : Hid (Below w.heap.size w w1) := Below.step HB0.out HB0.out.size hs
  clear hs ho g HO2 HB0
  rcases h1 with ⟨rfl, P, rfl⟩ | ⟨rfl, rfl⟩
  · go_wp2_with fail
    go_ret
    exact ⟨rfl, HB1.out⟩
  · go_wp2_with fail
    go_ret
    exact ⟨rfl, HB1.out⟩
end Go.Proofs.YtmhpnkfibecnmaaDoor

namespace Go.Proofs.YtmhpnkfibecnmaaDoor
open Go Go.RowKit
open M
set_option linter.unusedVariables false

set_option maxRecDepth 100000 in
theorem bits_any (P : Nat) (pw pv M : Int) (x y : Value) (w : World) (h : Box4 w P 107 (.int .i64 pw) (.int .i64 pv) x y) (hM : pw * pv = M) (h0 : 0 ≤ M) (h1 : M ≤ 100000) :
    Calls Tryd.prog 111 #[ptr P] w fun e w' => e = .returned (.int .i64 M) ∧ ∃ n, w' = w.drewN n := by
  obtain ⟨a0, a1, a2, a3⟩ := h.cells
  have ah := h.heap
  have al := h.lt
  have hMw : IntKind.i64.wrap (pw * pv) = M := by rw [hM]; exact IntWalk.i64_in _ ⟨by omega, by omega⟩
  have hMw2 : IntKind.i64.wrap M = M := IntWalk.i64_in _ ⟨by omega, by omega⟩
  clear h
  go_enter Tryd.func111, Tryd.ntmps111
  go_wp2_with fail
  go_quiet (fail)
  go_wp2_with fail
  go_ret
  exact ⟨rfl, _, rfl⟩

set_option maxRecDepth 100000 in
theorem small_any (P : Nat) (pw pv M : Int) (x y : Value) (w : World) (h : Box4 w P 107 (.int .i64 pw) (.int .i64 pv) x y) (hM : pw * pv = M) (h0 : 0 ≤ M) (h1 : M ≤ 100000) :
    Calls Tryd.prog 75 #[ptr P] w fun e w' => e = .returned (.bool (decide (M ≤ 5))) ∧ Below w.heap.size w w' := by
  have g := bits_any P pw pv M x y w h hM h0 h1
  clear h hM
  go_enter Tryd.func75, Tryd.ntmps75
  go_wp2_with fail
  refine g.mono ?_
  rintro e w1 ⟨rfl, n, hn⟩
  have HB : Hid (Below w.heap.size w w1) := by rw [hn]; exact below_drew7 _ _ _
  clear hn g
  go_wp2_with fail
  go_ret
  exact ⟨rfl, HB.out⟩
set_option maxRecDepth 100000 in
theorem iIsSmall_any (v : Value) (p : Pg) (ok : PgOk p) (w : World) (hT : Tab w) (h : AtProg w v p) :
    Calls Tryd.prog 34 #[v] w fun e w' => e = .returned (.tuple #[.bool (smallP p), .bool (goodP p)]) ∧ Below w.heap.size w w' := by
  obtain ⟨sa, sn, sc, ca, cn, cc, rfl⟩ := h.shape
  have HB0 : Hid (Below w.heap.size w (w.alloc (.cells #[.int .i64 p.1, .int .i64 p.2.1, .slice sa sn sc, .slice ca cn cc] 27))) := (Below.refl _ _).alloc (Nat.le_refl _) _
  have g := rootsOf_any _ p ok _ (hT.below HB0.out hT.some) (h.below HB0.out)
  have hparts := @goodP_parts p
  have hsm : smallP p = (goodP p && decide (p.1 * p.2.1 ≤ 5)) := rfl
  clear h hT ok
  generalize hgp : goodP p = GP at *
  have HGP : Hid _ := hgp
  clear hgp
  have HO : Hid (∀ (w0 : World) e w', RootsOut w0 p e w' → ((GP = true ∧ ∃ (P : Nat) (x y : Value), e = .returned (ptr P) ∧ Box4 w' P 107 (.int .i64 p.1) (.int .i64 p.2.1) x y) ∨ (GP = false ∧ e = .returned (.pointer none))) ∧ Below w0.heap.size w0 w') := fun w0 e w' ho => by
    obtain ⟨h1, h2⟩ := ho
    refine ⟨?_, h2⟩
    rcases h1 with ⟨a, P, x, y, b, _, c⟩ | ⟨a, b⟩
    · exact Or.inl ⟨HGP.out.symm.trans a, P, x, y, b, c⟩
    · exact Or.inr ⟨HGP.out.symm.trans a, b⟩
  clear HGP
  generalize hro : RootsOut (w.alloc (.cells #[.int .i64 p.1, .int .i64 p.2.1, .slice sa sn sc, .slice ca cn cc] 27)) p = OUT at g
  have HO2 : Hid (∀ e w', OUT e w' → ((GP = true ∧ ∃ (P : Nat) (x y : Value), e = .returned (ptr P) ∧ Box4 w' P 107 (.int .i64 p.1) (.int .i64 p.2.1) x y) ∨ (GP = false ∧ e = .returned (.pointer none))) ∧ Below (w.alloc (.cells #[.int .i64 p.1, .int .i64 p.2.1, .slice sa sn sc, .slice ca cn cc] 27)).heap.size (w.alloc (.cells #[.int .i64 p.1, .int .i64 p.2.1, .slice sa sn sc, .slice ca cn cc] 27)) w') := fun e w' ho => HO.out _ e w' (by rw [hro]; exact ho)
  clear HO hro
  have HPT : Hid (GP = true → 1 ≤ p.1 ∧ p.1 ≤ 64 ∧ 1 ≤ p.2.1 ∧ p.2.1 ≤ 4) := fun hg => by
    obtain ⟨_, q0, q1, q2, q3, _⟩ := hparts hg
    exact ⟨q0, q1, q2, q3⟩
  rw [hsm]
  clear hparts hsm
  generalize p.1 = pw at *
  generalize p.2.1 = pv at *
  go_enter Tryd.func34, Tryd.ntmps34
  go_wp2_with fail
  refine g.mono ?_
  rintro e w1 ho
  obtain ⟨h1, hs⟩ := HO2.out e w1 ho
  have HB1 : Hid (Below w.heap.size w w1) := Below.step HB0.out HB0.out.size hs
  clear hs ho g HO2 HB0
  rcases h1 with ⟨rfl, P, x, y, rfl, hbx⟩ | ⟨rfl, rfl⟩
  · obtain ⟨q0, q1, q2, q3⟩ := HPT.out rfl
    have hm0 : 1 ≤ pw * pv := Int.le_trans (by omega : (1 : Int) ≤ 1 * 1) (Int.mul_le_mul q0 q2 (by omega) (by omega))
    have hm1 : pw * pv ≤ 256 := Int.le_trans (Int.mul_le_mul q1 q3 (by omega) (by omega)) (by omega)
    obtain ⟨M, hM⟩ : ∃ M : Int, pw * pv = M := ⟨_, rfl⟩
    have gs := small_any P pw pv M x y w1 hbx hM (by omega) (by omega)
    have HM : Hid (pw * pv = M) := hM
    clear hbx HPT hM hm0 hm1
    go_wp2_with fail
    refine gs.mono ?_
    rintro e w2 ⟨rfl, hs⟩
    have HB2 : Hid (Below w.heap.size w w2) := HB1.out.trans (hs.mono HB1.out.size)
    clear hs gs
    go_wp2_with fail
    go_ret2
    exact ⟨by rw [HM.out]; rfl, HB2.out⟩
  · clear HPT
    go_wp2_with fail
    go_ret2
    exact ⟨rfl, HB1.out⟩
end Go.Proofs.YtmhpnkfibecnmaaDoor

namespace Go.Proofs.YtmhpnkfibecnmaaDoor
open Go Go.RowKit
open M
set_option linter.unusedVariables false

theorem ns_pos {t : List Nd} (h : NsOk t) : ∀ x ∈ t, 0 ≤ x.2 := fun x hx => (h.1 x hx).2.2.1
theorem Rooted.old {w w' : World} {B : Nat} {p : Pg} {P : Nat} (h : Rooted w (fun k => B ≤ k ∧ k < w.heap.size) p P) (hb : Below w.heap.size w w') : Rooted w' (Old w') p P :=
  Rooted.frame h hb.size (fun k hk => Nat.lt_of_lt_of_le hk.2 hb.size) (fun k hk => hb.block k hk.2)
theorem Rooted.below {w w' : World} {p : Pg} {P : Nat} (h : Rooted w (Old w) p P) (hb : Below w.heap.size w w') : Rooted w' (Old w') p P :=
  Rooted.frame h hb.size (fun k hk => Nat.lt_of_lt_of_le hk hb.size) (fun k hk => hb.block k hk)
set_option maxRecDepth 100000 in
set_option maxHeartbeats 2000000 in
theorem isStart_any {k vars : Nat} {st : List Int} (hw : WordsIn k vars st) (p : Pg) (hp1 : p.1 = k) (hp2 : p.2.1 = vars) (hpos : ∀ x ∈ p.2.2.1, 0 ≤ x.2) (P : Nat) (w : World) (hT : Tab w) (hR : Rooted w (Old w) p P) :
    Calls Tryd.prog 66 #[ptr P, aggS st] w fun e w' => e = .returned (.bool (holdsL p.1 p.2.2.1 st)) ∧ Below w.heap.size w w' := by
  unfold aggS
  have HB0 : Hid (Below w.heap.size w (w.alloc (.cells #[.int .u64 (padW st 0), .int .u64 (padW st 1), .int .u64 (padW st 2), .int .u64 (padW st 3)] 86))) := (Below.refl _ _).alloc (Nat.le_refl _) _
  have y0 := box4_alloc w 86 (.int .u64 (padW st 0)) (.int .u64 (padW st 1)) (.int .u64 (padW st 2)) (.int .u64 (padW st 3))
  have HBD : Hid (Below w.heap.size w (w.alloc (.cells #[.int .u64 (padW st 0), .int .u64 (padW st 1), .int .u64 (padW st 2), .int .u64 (padW st 3)] 86)).drew) := HB0.out.drew
  obtain ⟨_, x, y, hx2, hrx, _⟩ := hR.below HBD.out
  obtain ⟨_, x', y', hx0, _, _⟩ := hR
  have hx1 := hx0.below HB0.out hx0.lt
  have hxe := hx0.below HBD.out hx0.lt
  have he := hxe.heap.symm.trans hx2.heap
  simp only [Option.some.injEq, Obj.cells.injEq, Array.mk.injEq, List.cons.injEq, and_true, true_and] at he
  obtain ⟨rfl, rfl⟩ := he
  rw [hp1, hp2] at hx1 hx2 hrx
  rw [hp1]
  have GC : Hid (Calls Tryd.prog 100 #[ptr P, x', .agg #[.int .u64 (padW st 0), .int .u64 (padW st 1), .int .u64 (padW st 2), .int .u64 (padW st 3)]] _ _) := holds_any hpos hw P x' y' x' _ (hT.below HBD.out hT.some) hx2 hrx
  obtain ⟨p0, p1, p2, p3⟩ := hx1.cells
  have ph := hx1.heap
  have pl := hx1.lt
  obtain ⟨q0, q1, q2, q3⟩ := y0.cells
  have qh := y0.heap
  have ql := y0.lt
  have h4 : (Tryd.prog.info? 86).map (·.size) = some 4 := by kernel_rfl
  clear hx0 hx1 hx2 hxe hrx y0 hT hpos hw
  generalize holdsL k p.2.2.1 st = V at *
  generalize padW st 0 = x0 at *
  generalize padW st 1 = x1 at *
  generalize padW st 2 = x2 at *
  generalize padW st 3 = x3 at *
  go_enter Tryd.func66, Tryd.ntmps66
  go_wp2_with fail
  go_region_with (go_at_call 100; refine Calls.mono GC.out ?_; rintro e w1 ⟨rfl, hs⟩; have HB1 : Hid (Below w.heap.size w w1) := Below.step HBD.out HBD.out.size hs; clear hs)
  all_goals
    go_wp2_with fail
    go_ret
    exact ⟨rfl, HB1.out⟩
end Go.Proofs.YtmhpnkfibecnmaaDoor

namespace Go.Proofs.YtmhpnkfibecnmaaDoor
open Go Go.RowKit
open M
set_option linter.unusedVariables false

theorem two_small {m : Nat} (h : m ≤ 5) : 1 ≤ (2 : Int) ^ m ∧ (2 : Int) ^ m ≤ 32 := by
  have h1 := two_pos m
  have h2 := two_mono h
  have h3 : (2 : Int) ^ 5 = 32 := by decide
  omega
set_option maxRecDepth 100000 in
theorem count_any (P m : Nat) (pw pv : Int) (x y : Value) (w : World) (h : Box4 w P 107 (.int .i64 pw) (.int .i64 pv) x y) (hM : pw * pv = (m : Int)) (hm : m ≤ 5) :
    Calls Tryd.prog 112 #[ptr P] w fun e w' => e = .returned (.int .i64 (2 ^ m)) ∧ Below w.heap.size w w' := by
  have g := bits_any P pw pv m x y w h hM (by omega) (by omega)
  obtain ⟨t1, t2⟩ := two_small hm
  have ew : wrap64 ((2 : Int) ^ m) = 2 ^ m := wrap64_in _ (by omega) (by omega)
  clear h hM
  go_enter Tryd.func112, Tryd.ntmps112
  go_wp2_with fail
  refine g.mono ?_
  rintro e w1 ⟨rfl, n, hn⟩
  have HB : Hid (Below w.heap.size w w1) := by rw [hn]; exact below_drew7 _ _ _
  clear hn g
  go_wp2_with fail
  go_ret
  exact ⟨rfl, HB.out⟩
set_option maxRecDepth 100000 in
theorem hasState_any (P m : Nat) (pw pv : Int) (x y : Value) (no : Int) (w : World) (h : Box4 w P 107 (.int .i64 pw) (.int .i64 pv) x y) (hM : pw * pv = (m : Int)) (hm : m ≤ 5) :
    Calls Tryd.prog 80 #[ptr P, .int .i64 no] w fun e w' => e = .returned (.bool (decide (0 ≤ no ∧ no < 2 ^ m))) ∧ Below w.heap.size w w' := by
  have g := count_any P m pw pv x y w h hM hm
  obtain ⟨t1, t2⟩ := two_small hm
  clear h hM
  by_cases h0 : 0 ≤ no
  · have he : decide (0 ≤ no ∧ no < 2 ^ m) = decide (no < 2 ^ m) := by simp [h0]
    rw [he]
    clear he
    generalize (2 : Int) ^ m = M at *
    go_enter Tryd.func80, Tryd.ntmps80
    go_wp2_with fail
    refine g.mono ?_
    rintro e w1 ⟨rfl, hs⟩
    have HB : Hid _ := hs
    clear hs g
    go_wp2_with fail
    go_ret
    exact ⟨rfl, HB.out⟩
  · have he : decide (0 ≤ no ∧ no < 2 ^ m) = false := decide_eq_false (by omega)
    rw [he]
    clear he g
    go_enter Tryd.func80, Tryd.ntmps80
    go_wp2_with fail
    go_ret
    exact ⟨rfl, Below.refl _ _⟩
set_option maxRecDepth 100000 in
theorem hasCommand_any (P : Nat) (x y z : Value) (a : Option Addr) (n c : Nat) (k : Int) (w : World) (h : Box4 w P 107 x y z (.slice a n c)) :
    Calls Tryd.prog 62 #[ptr P, .int .i64 k] w fun e w' => e = .returned (.bool (decide (0 ≤ k ∧ k < n))) ∧ Below w.heap.size w w' := by
  obtain ⟨p0, p1, p2, p3⟩ := h.cells
  have ph := h.heap
  have pl := h.lt
  clear h
  by_cases h0 : 0 ≤ k
  · have he : decide (0 ≤ k ∧ k < (n : Int)) = decide (k < (n : Int)) := by simp [h0]
    rw [he]
    clear he
    go_enter Tryd.func62, Tryd.ntmps62
    go_wp2_with fail
    go_ret
    exact ⟨rfl, Below.refl _ _⟩
  · have he : decide (0 ≤ k ∧ k < (n : Int)) = false := decide_eq_false (by omega)
    rw [he]
    clear he
    go_enter Tryd.func62, Tryd.ntmps62
    go_wp2_with fail
    go_ret
    exact ⟨rfl, Below.refl _ _⟩
/-- what smallRootsOf answers -/
def SROut (w : World) (p : Pg) (e : Ending) (w' : World) : Prop :=
  ((smallP p = true ∧ ∃ P : Nat, e = .returned (ptr P) ∧ Rooted w' (fun k => w.heap.size ≤ k ∧ k < w'.heap.size) p P) ∨ (smallP p = false ∧ e = .returned (.pointer none))) ∧ Below w.heap.size w w'
set_option maxRecDepth 100000 in
set_option maxHeartbeats 2000000 in
theorem smallRootsOf_any (v : Value) (p : Pg) (ok : PgOk p) (w : World) (hT : Tab w) (h : AtProg w v p) :
    Calls Tryd.prog 79 #[v] w (SROut w p) := by
  obtain ⟨sa, sn, sc, ca, cn, cc, rfl⟩ := h.shape
  have HB0 : Hid (Below w.heap.size w (w.alloc (.cells #[.int .i64 p.1, .int .i64 p.2.1, .slice sa sn sc, .slice ca cn cc] 27))) := (Below.refl _ _).alloc (Nat.le_refl _) _
  have hz0 : (w.alloc (.cells #[.int .i64 p.1, .int .i64 p.2.1, .slice sa sn sc, .slice ca cn cc] 27)).heap.size = w.heap.size + 1 := World.size_alloc _ _
  have g := rootsOf_full _ p ok _ (hT.below HB0.out hT.some) (h.below HB0.out)
  clear h hT ok
  go_enter Tryd.func79, Tryd.ntmps79
  go_wp2_with fail
  refine g.mono ?_
  generalize w.alloc (.cells #[.int .i64 p.1, .int .i64 p.2.1, .slice sa sn sc, .slice ca cn cc] 27) = w0 at *
  rintro e w1 ⟨ho, hb1⟩
  have HB1 : Hid (Below w.heap.size w w1) := Below.step HB0.out HB0.out.size hb1
  clear g
  rcases ho with ⟨hg, P, rfl, hroot⟩ | ⟨hg, rfl⟩
  · obtain ⟨k, u, e1, e2, q1, q2, q3, q4⟩ := goodP_nats hg
    have hsm : smallP p = decide (p.1 * p.2.1 ≤ 5) := by
      unfold smallP
      rw [hg, Bool.true_and]
    have HR : Hid (Rooted w1 (fun i => w0.heap.size ≤ i ∧ i < w1.heap.size) p P) := hroot
    obtain ⟨_, x, y, hx, _, _⟩ := hroot
    have hm0 : 0 ≤ p.1 * p.2.1 := Int.mul_nonneg (by omega) (by omega)
    have hm1 : p.1 * p.2.1 ≤ 64 * 4 := Int.mul_le_mul (by omega) (by omega) (by omega) (by omega)
    have gs := small_any P p.1 p.2.1 _ x y w1 hx rfl hm0 (by omega)
    have HSM : Hid (smallP p = decide (p.1 * p.2.1 ≤ 5)) := hsm
    have hz1 := hb1.size
    clear hx hg hsm hb1
    generalize hM : p.1 * p.2.1 = M at *
    go_wp2_with fail
    refine gs.mono ?_
    rintro e w2 ⟨rfl, hs2⟩
    have HB2 : Hid (Below w.heap.size w w2) := HB1.out.trans (hs2.mono HB1.out.size)
    have hz2 := hs2.size
    have HR2 : Hid (Rooted w2 (fun i => w.heap.size ≤ i ∧ i < w2.heap.size) p P) := Rooted.frame HR.out hs2.size (fun i hi => ⟨by omega, by omega⟩) (fun i hi => hs2.block i hi.2)
    clear gs hs2 HR
    by_cases h5 : M ≤ 5
    · rw [decide_eq_true h5] at HSM ⊢
      go_wp2_with fail
      go_ret
      exact ⟨Or.inl ⟨HSM.out, P, rfl, HR2.out⟩, HB2.out⟩
    · rw [decide_eq_false h5] at HSM ⊢
      go_wp2_with fail
      go_ret
      exact ⟨Or.inr ⟨HSM.out, rfl⟩, HB2.out⟩
  · have HSM : Hid (smallP p = false) := by
      show smallP p = false
      unfold smallP
      rw [hg, Bool.false_and]
    clear hg hb1
    go_wp2_with fail
    go_ret
    exact ⟨Or.inr ⟨HSM.out, rfl⟩, HB1.out⟩
end Go.Proofs.YtmhpnkfibecnmaaDoor

namespace Go.Proofs.YtmhpnkfibecnmaaDoor
open Go Go.RowKit
open M
set_option linter.unusedVariables false

/-- a word, laid once its place has been met -/
def shJ (k : Nat) (no : Int) (i j : Nat) : Value := if i < j then .int .u64 (no / 2 ^ (k * i)) else .int .u64 0
theorem results_c4 {fn : Func} {p : Tmp} (h : fn.results = #[.cell p 86]) (tmps : Array Value) (w : World) (g : Nat) (t : TypeId) (cs : Array Value) (fr : Nat × Nat)
    (hp : tmps.getD p undef = .pointer (some ⟨g, 0, none⟩)) (hg : w.heap[g]? = some (.cells cs t fr)) (hi : cs.size = 4 := by rfl) :
    (results fn tmps).run Tryd.prog w = .ok (.agg cs) w := by
  have hp' : tmps[p]?.getD undef = .pointer (some ⟨g, 0, none⟩) := by simpa using hp
  have h4 : (Tryd.prog.info? 86).map (·.size) = some 4 := by kernel_rfl
  simp [results, h, hp', asAddr, run_loadVar_row w g t 86 cs fr _ hg Tryd.underlying86 rfl (by rw [hi]; exact h4)]
set_option maxRecDepth 100000 in
set_option maxHeartbeats 4000000 in
theorem numbered_any {k vars : Nat} (hk1 : 1 ≤ k) (hk5 : k ≤ 5) (hm5 : k * vars ≤ 5) (P : Nat) (u y : Value) (no : Int) (h0 : 0 ≤ no) (h1 : no < 2 ^ (k * vars)) (w : World) (hT : Tab w) (hPx : Box4 w P 107 (.int .i64 k) (.int .i64 vars) u y) :
    Calls Tryd.prog 81 #[ptr P, .int .i64 no] w fun e w' => e = .returned (aggS (ofL k vars no)) ∧ Below w.heap.size w w' := by
  have hno : no < 32 := Int.lt_of_lt_of_le h1 (by have := two_mono hm5; omega)
  have hb2 : Below w.heap.size w ((w.alloc (.cells #[.int .u64 0, .int .u64 0, .int .u64 0, .int .u64 0] 86)).alloc (.cells #[.int .u64 0, .int .u64 0, .int .u64 0, .int .u64 0] 86)) := ((Below.refl _ _).alloc (Nat.le_refl _) _).alloc (by rw [World.size_alloc]; omega) _
  have z0 := (box4_alloc w 86 (.int .u64 0) (.int .u64 0) (.int .u64 0) (.int .u64 0)).alloc (.cells #[.int .u64 0, .int .u64 0, .int .u64 0, .int .u64 0] 86)
  have x0 := box4_alloc (w.alloc (.cells #[.int .u64 0, .int .u64 0, .int .u64 0, .int .u64 0] 86)) 86 (.int .u64 0) (.int .u64 0) (.int .u64 0) (.int .u64 0)
  simp only [World.size_alloc] at x0
  have HX0 : Hid (Box4 ((w.alloc (.cells #[.int .u64 0, .int .u64 0, .int .u64 0, .int .u64 0] 86)).alloc (.cells #[.int .u64 0, .int .u64 0, .int .u64 0, .int .u64 0] 86)) (w.heap.size + 1) 86 (shJ k no 0 0) (shJ k no 1 0) (shJ k no 2 0) (shJ k no 3 0)) := x0
  have HZ0 : Hid (Box4 ((w.alloc (.cells #[.int .u64 0, .int .u64 0, .int .u64 0, .int .u64 0] 86)).alloc (.cells #[.int .u64 0, .int .u64 0, .int .u64 0, .int .u64 0] 86)) w.heap.size 86 (.int .u64 0) (.int .u64 0) (.int .u64 0) (.int .u64 0)) := z0
  have HB0 : Hid _ := hb2
  have HP : Hid (∀ w1 : World, Below w.heap.size w w1 → Box4 w1 P 107 (.int .i64 k) (.int .i64 vars) u y) := fun w1 hb => hPx.below hb hPx.lt
  have HSH : Hid (∀ j : Nat, 0 ≤ no / 2 ^ (k * j) ∧ no / 2 ^ (k * j) ≤ 31) := fun j => by
    have hp := two_pos (k * j)
    have h2 := Int.ediv_le_self (2 ^ (k * j)) h0
    exact ⟨Int.ediv_nonneg h0 (by omega), by omega⟩
  have HM : Hid (∀ j : Nat, j < 4 → IntKind.i64.wrap ((k : Int) * (j : Int)) = ((k * j : Nat) : Int)) := fun j hj => by
    have : k * j ≤ 15 := Nat.le_trans (Nat.mul_le_mul hk5 (by omega : j ≤ 3)) (by omega)
    rw [← Int.natCast_mul]
    exact IntWalk.i64_in _ ⟨by omega, by omega⟩
  have hns : no / 2 ^ (k * 0) = no := by simp
  clear z0 x0 hb2 hPx
  go_enter Tryd.func81, Tryd.ntmps81
  go_wp2_with fail
  go_loopw [7] (fun i wr => ∃ j : Nat, j ≤ 4 ∧ i = .int .i64 j ∧ Hid (Box4 wr (w.heap.size + 1) 86 (shJ k no 0 j) (shJ k no 1 j) (shJ k no 2 j) (shJ k no 3 j)) ∧ Hid (Box4 wr w.heap.size 86 (.int .u64 0) (.int .u64 0) (.int .u64 0) (.int .u64 0)) ∧ Hid (Below w.heap.size w wr)) (fun i _ => 4 - (intOf i).toNat)
  case atStart => exact ⟨0, by omega, rfl, HX0, HZ0, HB0⟩
  case round =>
    obtain ⟨j, hj, rfl, HX, HZ, HB⟩ := hrel
    clear HX0 HZ0 HB0
    by_cases hlt : j < 4
    · rcases (show j = 0 ∨ j = 1 ∨ j = 2 ∨ j = 3 by omega) with rfl | rfl | rfl | rfl
      · have e1 : 0 ≤ no ∧ no ≤ 31 := ⟨h0, by omega⟩
        have HX2 : Hid (Box4 (wr.setCell ⟨w.heap.size + 1, 0, none⟩ (.int .u64 no)) (w.heap.size + 1) 86 (shJ k no 0 1) (shJ k no 1 1) (shJ k no 2 1) (shJ k no 3 1)) := by
          have h := HX.out.set0 (.int .u64 no)
          simp [shJ] at h ⊢
          exact h
        have HZ2 : Hid _ := HZ.out.other (o := 0) (b' := w.heap.size + 1) (by omega) (.int .u64 no)
        have HB2 : Hid (Below w.heap.size w (wr.setCell ⟨w.heap.size + 1, 0, none⟩ (.int .u64 no))) := HB.out.setCell (Nat.le_succ _) _
        have hf := HX.out.frozen 0
        obtain ⟨c0, c1, c2, c3⟩ := HX.out.cells
        have ch := HX.out.heap
        have cl := HX.out.lt
        obtain ⟨p0, p1, p2, p3⟩ := (HP.out wr HB.out).cells
        have ph := (HP.out wr HB.out).heap
        have pl := (HP.out wr HB.out).lt
        have hm := HM.out 0 (by omega)
        clear HX HZ HB hT
        go_wp2_with fail
        go_roundw
        case rel => exact ⟨1, by omega, by go_num, HX2, HZ2, HB2⟩
        case measure => simp [intOf]
      · have e1 : 0 ≤ no / 2 ^ k ∧ no / 2 ^ k ≤ 31 := by
          have := HSH.out 1
          rwa [Nat.mul_one] at this
        have HX2 : Hid (Box4 (wr.setCell ⟨w.heap.size + 1, 1, none⟩ (.int .u64 (no / 2 ^ k))) (w.heap.size + 1) 86 (shJ k no 0 2) (shJ k no 1 2) (shJ k no 2 2) (shJ k no 3 2)) := by
          have h := HX.out.set1 (.int .u64 (no / 2 ^ k))
          simp [shJ] at h ⊢
          exact h
        have HZ2 : Hid _ := HZ.out.other (o := 1) (b' := w.heap.size + 1) (by omega) (.int .u64 (no / 2 ^ k))
        have HB2 : Hid (Below w.heap.size w (wr.setCell ⟨w.heap.size + 1, 1, none⟩ (.int .u64 (no / 2 ^ k)))) := HB.out.setCell (Nat.le_succ _) _
        have hf := HX.out.frozen 1
        obtain ⟨c0, c1, c2, c3⟩ := HX.out.cells
        have ch := HX.out.heap
        have cl := HX.out.lt
        obtain ⟨p0, p1, p2, p3⟩ := (HP.out wr HB.out).cells
        have ph := (HP.out wr HB.out).heap
        have pl := (HP.out wr HB.out).lt
        have hm := HM.out 1 (by omega)
        clear HX HZ HB hT
        go_wp2_with fail
        go_roundw
        case rel => exact ⟨2, by omega, by go_num, HX2, HZ2, HB2⟩
        case measure => simp [intOf]
      · have e1 := HSH.out 2
        have HX2 : Hid (Box4 (wr.setCell ⟨w.heap.size + 1, 2, none⟩ (.int .u64 (no / 2 ^ (k * 2)))) (w.heap.size + 1) 86 (shJ k no 0 3) (shJ k no 1 3) (shJ k no 2 3) (shJ k no 3 3)) := by
          have h := HX.out.set2 (.int .u64 (no / 2 ^ (k * 2)))
          simp only [shJ] at h ⊢
          exact h
        have HZ2 : Hid _ := HZ.out.other (o := 2) (b' := w.heap.size + 1) (by omega) (.int .u64 (no / 2 ^ (k * 2)))
        have HB2 : Hid (Below w.heap.size w (wr.setCell ⟨w.heap.size + 1, 2, none⟩ (.int .u64 (no / 2 ^ (k * 2))))) := HB.out.setCell (Nat.le_succ _) _
        have hf := HX.out.frozen 2
        obtain ⟨c0, c1, c2, c3⟩ := HX.out.cells
        have ch := HX.out.heap
        have cl := HX.out.lt
        obtain ⟨p0, p1, p2, p3⟩ := (HP.out wr HB.out).cells
        have ph := (HP.out wr HB.out).heap
        have pl := (HP.out wr HB.out).lt
        have hm := HM.out 2 (by omega)
        clear HX HZ HB hT
        go_wp2_with fail
        go_roundw
        case rel => exact ⟨3, by omega, by go_num, HX2, HZ2, HB2⟩
        case measure => simp [intOf]
      · have e1 := HSH.out 3
        have HX2 : Hid (Box4 (wr.setCell ⟨w.heap.size + 1, 3, none⟩ (.int .u64 (no / 2 ^ (k * 3)))) (w.heap.size + 1) 86 (shJ k no 0 4) (shJ k no 1 4) (shJ k no 2 4) (shJ k no 3 4)) := by
          have h := HX.out.set3 (.int .u64 (no / 2 ^ (k * 3)))
          simp only [shJ] at h ⊢
          exact h
        have HZ2 : Hid _ := HZ.out.other (o := 3) (b' := w.heap.size + 1) (by omega) (.int .u64 (no / 2 ^ (k * 3)))
        have HB2 : Hid (Below w.heap.size w (wr.setCell ⟨w.heap.size + 1, 3, none⟩ (.int .u64 (no / 2 ^ (k * 3))))) := HB.out.setCell (Nat.le_succ _) _
        have hf := HX.out.frozen 3
        obtain ⟨c0, c1, c2, c3⟩ := HX.out.cells
        have ch := HX.out.heap
        have cl := HX.out.lt
        obtain ⟨p0, p1, p2, p3⟩ := (HP.out wr HB.out).cells
        have ph := (HP.out wr HB.out).heap
        have pl := (HP.out wr HB.out).lt
        have hm := HM.out 3 (by omega)
        clear HX HZ HB hT
        go_wp2_with fail
        go_roundw
        case rel => exact ⟨4, by omega, by go_num, HX2, HZ2, HB2⟩
        case measure => simp [intOf]
    · obtain rfl : j = 4 := by omega
      have hx : Box4 wr (w.heap.size + 1) 86 (.int .u64 (no / 2 ^ (k * 0))) (.int .u64 (no / 2 ^ (k * 1))) (.int .u64 (no / 2 ^ (k * 2))) (.int .u64 (no / 2 ^ (k * 3))) := HX.out
      obtain ⟨c0, c1, c2, c3⟩ := hx.cells
      have ch := hx.heap
      have cl := hx.lt
      obtain ⟨p0, p1, p2, p3⟩ := (HP.out wr HB.out).cells
      have ph := (HP.out wr HB.out).heap
      have pl := (HP.out wr HB.out).lt
      obtain ⟨z0, z1, z2, z3⟩ := HZ.out.cells
      have zh := HZ.out.heap
      have zl := HZ.out.lt
      have HBD : Hid (Below w.heap.size w wr.drew) := HB.out.drew
      have HZD : Hid (Box4 wr.drew w.heap.size 86 (.int .u64 0) (.int .u64 0) (.int .u64 0) (.int .u64 0)) := ⟨HZ.out.heap⟩
      have HSZ : Hid (w.heap.size + 2 ≤ wr.heap.size) := by
        have : w.heap.size + 1 < wr.heap.size := cl
        show w.heap.size + 2 ≤ wr.heap.size
        omega
      have u3 : ∀ j : Nat, 0 ≤ no / 2 ^ (k * j) ∧ no / 2 ^ (k * j) ≤ 18446744073709551615 := fun j => ⟨(HSH.out j).1, by have := (HSH.out j).2; omega⟩
      have GC : Hid (Calls Tryd.prog 113 #[.agg #[.int .u64 (no / 2 ^ (k * 0)), .int .u64 (no / 2 ^ (k * 1)), .int .u64 (no / 2 ^ (k * 2)), .int .u64 (no / 2 ^ (k * 3))], .int .i64 k] wr.drew _) := cutS_any k hk1 (by omega) _ _ _ _ (u3 0) (u3 1) (u3 2) (u3 3) wr.drew (hT.below HBD.out hT.some)
      have he : ∀ j : Nat, cut k (no / 2 ^ (k * j)) = padW (ofL k vars no) j := fun j => by
        rw [padW_ofL h0 h1 j]
        unfold cut ofW
        rw [pw_int k]
      have HE : Hid (Value.agg #[.int .u64 (cut k (no / 2 ^ (k * 0))), .int .u64 (cut k (no / 2 ^ (k * 1))), .int .u64 (cut k (no / 2 ^ (k * 2))), .int .u64 (cut k (no / 2 ^ (k * 3)))] = aggS (ofL k vars no)) := by
        show Value.agg #[.int .u64 (cut k (no / 2 ^ (k * 0))), .int .u64 (cut k (no / 2 ^ (k * 1))), .int .u64 (cut k (no / 2 ^ (k * 2))), .int .u64 (cut k (no / 2 ^ (k * 3)))] = aggS (ofL k vars no)
        rw [he, he, he, he]
      have h4 : (Tryd.prog.info? 86).map (·.size) = some 4 := by kernel_rfl
      clear he hx HX HZ HB HP HSH HM hT u3 hns
      generalize no / 2 ^ (k * 0) = n0 at *
      generalize no / 2 ^ (k * 1) = n1 at *
      generalize no / 2 ^ (k * 2) = n2 at *
      generalize no / 2 ^ (k * 3) = n3 at *
      go_wp2_with fail
      go_region_with (go_at_call 113; refine Calls.mono GC.out ?_; rintro e w2 ⟨rfl, hb2⟩; have HB2 : Hid (Below w.heap.size w w2) := HBD.out.trans (hb2.mono HBD.out.size); have HZ2 : Hid _ := HZD.out.below hb2 HZD.out.lt; obtain ⟨z0', z1', z2', z3'⟩ := HZ2.out.cells; have zh' := HZ2.out.heap; have zl' := HZ2.out.lt; have f0' := HZ2.out.frozen 0; have f1' := HZ2.out.frozen 1; have f2' := HZ2.out.frozen 2; have f3' := HZ2.out.frozen 3; clear hb2)
      all_goals
        go_wp2_with fail
        refine bodyPost_ret (results_c4 rfl _ _ _ _ _ _ rfl ((((HZ2.out.set0 (.int .u64 (cut k n0))).set1 (.int .u64 (cut k n1))).set2 (.int .u64 (cut k n2))).set3 (.int .u64 (cut k n3))).heap) rfl ?_
        exact ⟨by rw [← HE.out], set4_below HB2.out (Nat.le_refl _) _ _ _ _⟩
end Go.Proofs.YtmhpnkfibecnmaaDoor

namespace Go.Proofs.YtmhpnkfibecnmaaDoor
open Go Go.RowKit
open M
set_option linter.unusedVariables false

theorem padL_take {st : List Int} (h : st.length ≤ 4) (j : Nat) (u : Value) (hu : (st.map (Value.int .u64))[j]? = some u) : j < 4 ∧ u = .int .u64 (padW st j) := by
  rw [List.getElem?_map] at hu
  cases e : st[j]? with
  | none => rw [e] at hu; simp at hu
  | some x =>
    rw [e] at hu
    obtain rfl := Option.some.inj hu
    have hl := (List.getElem?_eq_some_iff.1 e).1
    refine ⟨by omega, ?_⟩
    unfold padW
    rw [List.getD_eq_getElem?_getD, e]
    rfl
theorem words_one (t : List Int) : ∀ u ∈ t.map (Value.int .u64), u.oneCell' = true := by
  intro u hu
  obtain ⟨x, _, rfl⟩ := List.mem_map.1 hu
  rfl
theorem sliceW (b vars : Nat) (h1 : 1 ≤ vars) (h4 : vars ≤ 4) (w : World) : Sem.run Tryd.prog (Instr.sliceAt 86 (.pointer (some ⟨b, 0, none⟩)) none (some (.int .i64 (vars : Int))) none) w = .ok (.slice (some ⟨b, 0, none⟩) vars 4) w := by
  rcases (show vars = 1 ∨ vars = 2 ∨ vars = 3 ∨ vars = 4 by omega) with rfl | rfl | rfl | rfl <;> kernel_rfl
set_option maxRecDepth 100000 in
set_option maxHeartbeats 2000000 in
theorem list_any {k vars : Nat} {st : List Int} (hw : WordsIn k vars st) (P : Nat) (u y : Value) (w : World) (hP : Box4 w P 107 (.int .i64 k) (.int .i64 vars) u y) :
    Calls Tryd.prog 54 #[ptr P, aggS st] w fun e w' => ∃ r, e = .returned r ∧ OwnUS w' w.heap.size w'.heap.size r st ∧ Below w.heap.size w w' := by
  unfold aggS
  obtain ⟨_, _, hv1, hv4, hlen, _⟩ := hw
  have hb0 : Below w.heap.size w (w.alloc (.cells #[.int .u64 (padW st 0), .int .u64 (padW st 1), .int .u64 (padW st 2), .int .u64 (padW st 3)] 86)) := (Below.refl _ _).alloc (Nat.le_refl _) _
  have y0 := box4_alloc w 86 (.int .u64 (padW st 0)) (.int .u64 (padW st 1)) (.int .u64 (padW st 2)) (.int .u64 (padW st 3))
  have HB0 : Hid _ := hb0
  have hP2 := hP.below hb0 hP.lt
  obtain ⟨p0, p1, p2, p3⟩ := hP2.cells
  have ph := hP2.heap
  have pl := hP2.lt
  obtain ⟨q0, q1, q2, q3⟩ := y0.cells
  have qh := y0.heap
  have ql := y0.lt
  have h4 : (Tryd.prog.info? 86).map (·.size) = some 4 := by kernel_rfl
  obtain ⟨i0, hi, hz0, hz1, hz2⟩ := info_parts infoU64
  have hnews : ∀ (j : Nat) (u : Value), (st.map (Value.int .u64))[j]? = some u → (w.alloc (.cells #[.int .u64 (padW st 0), .int .u64 (padW st 1), .int .u64 (padW st 2), .int .u64 (padW st 3)] 86)).cell? ((⟨w.heap.size, 0, none⟩ : Addr).add j) = some u := by
    intro j u hu
    obtain ⟨hj, rfl⟩ := padL_take (by omega) j u hu
    rcases (show j = 0 ∨ j = 1 ∨ j = 2 ∨ j = 3 by omega) with rfl | rfl | rfl | rfl
    · exact q0
    · exact q1
    · exact q2
    · exact q3
  have hnl : (st.map (Value.int .u64)).length = vars * 1 := by rw [List.length_map]; omega
  have own0 : (w.alloc (.cells #[.int .u64 (padW st 0), .int .u64 (padW st 1), .int .u64 (padW st 2), .int .u64 (padW st 3)] 86)).ownsRow (w.heap.size + 1) 46 1 (.slice none 0 0) 0 [] := World.ownsRow_nil _ _ _ _
  have hz : (w.alloc (.cells #[.int .u64 (padW st 0), .int .u64 (padW st 1), .int .u64 (padW st 2), .int .u64 (padW st 3)] 86)).heap.size = w.heap.size + 1 := World.size_alloc _ _
  have HN : Hid _ := hnews
  have sl := sliceW w.heap.size vars hv1 hv4
  clear hP hP2 y0 hb0 hnews
  go_enter Tryd.func54, Tryd.ntmps54
  go_wp2_with (at_builtin; refine wpList_append_own _ rfl _ _ 28 rfl (w.heap.size + 1) 46 i0 (.int .u64 0) 1 8 Tryd.underlying28 hi hz0 hz1 hz2 rfl (by decide) (.slice none 0 0) 0 [] rfl own0 ⟨w.heap.size, 0, none⟩ vars 4 (st.map (Value.int .u64)) rfl hnl HN.out (words_one st) (by unfold maxLen; omega) (by omega) (by omega) ?_)
  intro v7 w7 own7 grow7 _
  have HB7 : Hid (Below w.heap.size w w7) := HB0.out.grown grow7 (by omega) (fun k hk => by simp [Value.ownBlock] at hk)
  have HO7 : Hid (OwnUS w7 w.heap.size w7.heap.size v7 st) := by
    show RowIn w7 w.heap.size w7.heap.size _ 1 v7 st.length (st.map (Value.int .u64))
    rw [← hlen] at own7
    exact RowIn.weak (rowIn_of own7) (Nat.le_succ _) (Nat.le_refl _) (Nat.le_refl _)
  clear own7 grow7 own0
  go_wp2_with fail
  go_ret
  exact ⟨_, rfl, HO7.out, HB7.out⟩
end Go.Proofs.YtmhpnkfibecnmaaDoor

namespace Go.Proofs.YtmhpnkfibecnmaaDoor
open Go Go.RowKit
open M
set_option linter.unusedVariables false

def ofB (p : Pg) (no : Int) : Bool := smallP p && decide (0 ≤ no ∧ no < 2 ^ (p.1 * p.2.1).toNat)
def ofP (p : Pg) (no : Int) : List Int := if ofB p no = true then ofL p.1.toNat p.2.1.toNat no else []
theorem good_of (k : Nat) (hk1 : 1 ≤ k) (hk : k ≤ 64) (a : Int) (h : a < 2 ^ k) : goodB k a = true := by
  unfold goodB
  refine decide_eq_true ⟨by omega, by omega, ?_⟩
  rw [Int.toNat_natCast, ← pw_int]
  exact h
theorem ofL_words {k u : Nat} (h1 : 1 ≤ k) (h2 : k ≤ 64) (h3 : 1 ≤ u) (h4 : u ≤ 4) (no : Int) : WordsIn k u (ofL k u no) :=
  ⟨h1, h2, h3, h4, ofL_len k u no, fun s hs => (ofL_mem s hs).1, fun s hs => good_of k h1 h2 s (ofL_mem s hs).2⟩
theorem ownUS_nil (w : World) (lo : Nat) (h : lo ≤ w.heap.size) : OwnUS w lo w.heap.size (.slice none 0 0) [] := rowIn_of (World.ownsRow_nil _ _ _ _)
theorem OwnUS.lower {w : World} {lo lo' hi : Nat} {v : Value} {t : List Int} (h : OwnUS w lo hi v t) (hl : lo' ≤ lo) : OwnUS w lo' hi v t := RowIn.weak h hl (Nat.le_refl _) h.2.2
theorem small_nats {p : Pg} (h : smallP p = true) : ∃ k u : Nat, p.1 = k ∧ p.2.1 = u ∧ 1 ≤ k ∧ k ≤ 64 ∧ 1 ≤ u ∧ u ≤ 4 ∧ k ≤ 5 ∧ k * u ≤ 5 ∧ p.1 * p.2.1 = ((k * u : Nat) : Int) := by
  obtain ⟨hg, hm⟩ := smallP_open h
  obtain ⟨k, u, e1, e2, q1, q2, q3, q4⟩ := goodP_nats hg
  have e3 : p.1 * p.2.1 = ((k * u : Nat) : Int) := by rw [e1, e2, Int.natCast_mul]
  have h5 : k * u ≤ 5 := by rw [e3] at hm; omega
  exact ⟨k, u, e1, e2, q1, q2, q3, q4, Nat.le_trans (Nat.le_mul_of_pos_right k q3) h5, h5, e3⟩
set_option maxRecDepth 100000 in
set_option maxHeartbeats 4000000 in
theorem iStateOf_any (v : Value) (p : Pg) (ok : PgOk p) (no : Int) (w : World) (hT : Tab w) (h : AtProg w v p) :
    Calls Tryd.prog 36 #[v, .int .i64 no] w fun e w' => ∃ r0, e = .returned (.tuple #[r0, .bool (ofB p no)]) ∧ OwnUS w' w.heap.size w'.heap.size r0 (ofP p no) ∧ Below w.heap.size w w' := by
  obtain ⟨sa, sn, sc, ca, cn, cc, rfl⟩ := h.shape
  have HB0 : Hid (Below w.heap.size w (w.alloc (.cells #[.int .i64 p.1, .int .i64 p.2.1, .slice sa sn sc, .slice ca cn cc] 27))) := (Below.refl _ _).alloc (Nat.le_refl _) _
  have g := smallRootsOf_any _ p ok _ (hT.below HB0.out hT.some) (h.below HB0.out)
  have HT : Hid (Tab w) := hT
  clear h hT ok
  go_enter Tryd.func36, Tryd.ntmps36
  go_wp2_with fail
  refine g.mono ?_
  generalize w.alloc (.cells #[.int .i64 p.1, .int .i64 p.2.1, .slice sa sn sc, .slice ca cn cc] 27) = w0 at *
  rintro e w1 ⟨ho, hb1⟩
  have HB1 : Hid (Below w.heap.size w w1) := Below.step HB0.out HB0.out.size hb1
  clear g
  rcases ho with ⟨hs, P, rfl, hroot⟩ | ⟨hs, rfl⟩
  · obtain ⟨k, u, e1, e2, q1, q2, q3, q4, hk5, hm5, hM⟩ := small_nats hs
    have hr1 : Rooted w1 (Old w1) p P := Rooted.old hroot (Below.refl _ _)
    obtain ⟨_, x, y, hx, _, _⟩ := id hr1
    have g1 := hasState_any P (k * u) p.1 p.2.1 x y no w1 hx hM hm5
    have hofb : ofB p no = decide (0 ≤ no ∧ no < 2 ^ (k * u)) := by
      unfold ofB
      rw [hs, Bool.true_and, hM, Int.toNat_natCast]
    have hofp : ofP p no = if ofB p no = true then ofL k u no else [] := by
      unfold ofP
      rw [e1, e2, Int.toNat_natCast, Int.toNat_natCast]
    have HFB : Hid _ := hofb
    have HFP : Hid (ofP p no = if ofB p no = true then ofL k u no else []) := hofp
    have HX : Hid (Box4 w1 P 107 (.int .i64 k) (.int .i64 u) x y) := by
      rw [e1, e2] at hx
      exact hx
    have HW : Hid (WordsIn k u (ofL k u no)) := ofL_words q1 q2 q3 q4 no
    clear hx hr1 hroot hs hM hofb hofp hb1
    go_wp2_with fail
    refine g1.mono ?_
    rintro e w2 ⟨rfl, hs2⟩
    have HB2 : Hid (Below w.heap.size w w2) := HB1.out.trans (hs2.mono HB1.out.size)
    have HX2 : Hid _ := HX.out.below hs2 HX.out.lt
    clear g1 hs2
    by_cases hin : 0 ≤ no ∧ no < 2 ^ (k * u)
    · rw [decide_eq_true hin] at HFB
      have HE : Hid (ofP p no = ofL k u no) := by
        show ofP p no = ofL k u no
        rw [HFP.out, HFB.out, if_pos rfl]
      have g2 := numbered_any q1 hk5 hm5 P x y no hin.1 hin.2 w2 (HT.out.below HB2.out HT.out.some) HX2.out
      unfold aggS at g2
      rw [decide_eq_true hin]
      have GL : Hid (∀ w3, Box4 w3 P 107 (.int .i64 k) (.int .i64 u) x y → Calls Tryd.prog 54 #[ptr P, aggS (ofL k u no)] w3 fun e w' => ∃ r, e = .returned r ∧ OwnUS w' w3.heap.size w'.heap.size r (ofL k u no) ∧ Below w3.heap.size w3 w') := fun w3 h3 => list_any HW.out P x y w3 h3
      unfold aggS at GL
      clear HFP HT hin HW
      generalize ofL k u no = L at *
      generalize padW L 0 = l0 at *
      generalize padW L 1 = l1 at *
      generalize padW L 2 = l2 at *
      generalize padW L 3 = l3 at *
      go_wp2_with fail
      refine g2.mono ?_
      rintro e w3 ⟨rfl, hs3⟩
      have HB3 : Hid (Below w.heap.size w w3) := HB2.out.trans (hs3.mono HB2.out.size)
      have g3 := GL.out w3 (HX2.out.below hs3 HX2.out.lt)
      clear g2 hs3 GL
      go_wp2_with fail
      refine g3.mono ?_
      rintro e w4 ⟨r, rfl, ho4, hs4⟩
      have HB4 : Hid (Below w.heap.size w w4) := HB3.out.trans (hs4.mono HB3.out.size)
      have HO4 : Hid (OwnUS w4 w.heap.size w4.heap.size r L) := OwnUS.lower ho4 HB3.out.size
      clear g3 hs4 ho4
      go_wp2_with fail
      go_ret2
      exact ⟨_, by rw [HFB.out]; rfl, by rw [HE.out]; exact HO4.out, HB4.out⟩
    · rw [decide_eq_false hin] at HFB
      have HE : Hid (ofP p no = []) := by
        show ofP p no = []
        rw [HFP.out, HFB.out, if_neg (by decide)]
      rw [decide_eq_false hin]
      clear HFP HT hin HW
      go_wp2_with fail
      go_ret2
      exact ⟨_, by rw [HFB.out]; rfl, by rw [HE.out]; exact ownUS_nil _ _ HB2.out.size, HB2.out⟩
  · have HFB : Hid (ofB p no = false) := by
      show ofB p no = false
      unfold ofB
      rw [hs, Bool.false_and]
    have HE : Hid (ofP p no = []) := by
      show ofP p no = []
      unfold ofP
      rw [HFB.out, if_neg (by decide)]
    clear hs hb1 HT
    go_wp2_with fail
    go_ret2
    exact ⟨_, by rw [HFB.out]; rfl, by rw [HE.out]; exact ownUS_nil _ _ HB1.out.size, HB1.out⟩
end Go.Proofs.YtmhpnkfibecnmaaDoor

namespace Go.Proofs.YtmhpnkfibecnmaaDoor
open Go Go.RowKit
open M
set_option linter.unusedVariables false

theorem i64_and_nat (a b : Nat) (ha : a < 4611686018427387904) (hb : b < 4611686018427387904) : bits .and .i64 (a : Int) (b : Int) = ((a &&& b : Nat) : Int) := by
  have hx : a &&& b < 2 ^ 62 := Nat.and_lt_two_pow a (by omega)
  show IntKind.i64.wrap ((BitVec.ofInt 64 (a : Int) &&& BitVec.ofInt 64 (b : Int)).toNat : Int) = _
  rw [BitVec.toNat_and, ofInt_u64 a (by omega), ofInt_u64 b (by omega)]
  exact IntWalk.i64_in _ ⟨by omega, by omega⟩
theorem and_two (k : Nat) (hk : k ≤ 5) (a : Int) (h0 : 0 ≤ a) (h1 : a ≤ 31) : bits .and .i64 a (2 ^ k - 1) = a % 2 ^ k := by
  obtain ⟨n, rfl⟩ := Int.eq_ofNat_of_zero_le h0
  have e0 : ((2 : Int) ^ k) = ((2 ^ k : Nat) : Int) := by simp
  have hp := Nat.two_pow_pos k
  have hk2 : (2 : Nat) ^ k ≤ 2 ^ 5 := Nat.pow_le_pow_right (by omega) hk
  have e1 : ((2 : Int) ^ k) - 1 = ((2 ^ k - 1 : Nat) : Int) := by rw [e0]; omega
  rw [e1, i64_and_nat n (2 ^ k - 1) (by omega) (by omega), Nat.and_two_pow_sub_one_eq_mod, e0]
  exact Int.natCast_emod n (2 ^ k)
set_option maxRecDepth 100000 in
set_option maxHeartbeats 2000000 in
theorem sMany_any (v : Value) (p : Pg) (m : Nat) (hM : p.1 * p.2.1 = (m : Int)) (hm : m ≤ 5) (w : World) (h : AtProg w v p) :
    Calls Tryd.prog 82 #[v] w fun e w' => e = .returned (.int .i64 (2 ^ m)) ∧ Below w.heap.size w w' := by
  obtain ⟨sa, sn, sc, ca, cn, cc, rfl⟩ := h.shape
  have HB0 : Hid (Below w.heap.size w (w.alloc (.cells #[.int .i64 p.1, .int .i64 p.2.1, .slice sa sn sc, .slice ca cn cc] 27))) := (Below.refl _ _).alloc (Nat.le_refl _) _
  obtain ⟨t1, t2⟩ := two_small hm
  have ew : wrap64 ((2 : Int) ^ m) = 2 ^ m := wrap64_in _ (by omega) (by omega)
  have e1 : IntKind.i64.wrap (p.1 * p.2.1) = (m : Int) := by rw [hM]; exact IntWalk.i64_in _ ⟨by omega, by omega⟩
  clear h hM
  go_enter Tryd.func82, Tryd.ntmps82
  go_wp2_with fail
  go_ret
  exact ⟨rfl, HB0.out⟩
set_option maxRecDepth 100000 in
set_option maxHeartbeats 2000000 in
theorem sOf_any (v : Value) (p : Pg) (k u : Nat) (hp1 : p.1 = k) (hp2 : p.2.1 = u) (hk1 : 1 ≤ k) (hk5 : k ≤ 5) (hu4 : u ≤ 4) (no : Int) (h0 : 0 ≤ no) (h1 : no ≤ 31) (w : World) (h : AtProg w v p) :
    Calls Tryd.prog 83 #[v, .int .i64 no] w fun e w' => ∃ r, e = .returned r ∧ OwnUS w' w.heap.size w'.heap.size r (ofL k u no) ∧ Below w.heap.size w w' := by
  obtain ⟨sa, sn, sc, ca, cn, cc, rfl⟩ := h.shape
  rw [hp1, hp2]
  have HB0 : Hid (Below w.heap.size w (w.alloc (.cells #[.int .i64 k, .int .i64 u, .slice sa sn sc, .slice ca cn cc] 27))) := (Below.refl _ _).alloc (Nat.le_refl _) _
  have x0 := box4_alloc w 27 (.int .i64 k) (.int .i64 u) (.slice sa sn sc) (.slice ca cn cc)
  have HXP : Hid (∀ w3, Below (w.heap.size + 1) (w.alloc (.cells #[.int .i64 k, .int .i64 u, .slice sa sn sc, .slice ca cn cc] 27)) w3 → Box4 w3 w.heap.size 27 (.int .i64 k) (.int .i64 u) (.slice sa sn sc) (.slice ca cn cc)) := fun w3 hb3 => x0.below hb3 (by omega)
  have HBX0 : Hid (Below (w.heap.size + 1) (w.alloc (.cells #[.int .i64 k, .int .i64 u, .slice sa sn sc, .slice ca cn cc] 27)) (w.alloc (.cells #[.int .i64 k, .int .i64 u, .slice sa sn sc, .slice ca cn cc] 27))) := Below.refl _ _
  have hw0z : (w.alloc (.cells #[.int .i64 k, .int .i64 u, .slice sa sn sc, .slice ca cn cc] 27)).heap.size = w.heap.size + 1 := World.size_alloc _ _
  have HSH : Hid (∀ j : Nat, 0 ≤ no / 2 ^ (j * k) ∧ no / 2 ^ (j * k) ≤ 31) := fun j => by
    have hp := two_pos (j * k)
    have h2 := Int.ediv_le_self (2 ^ (j * k)) h0
    exact ⟨Int.ediv_nonneg h0 (by omega), by omega⟩
  have HM : Hid (∀ j : Nat, j < 4 → IntKind.i64.wrap ((j : Int) * (k : Int)) = ((j * k : Nat) : Int)) := fun j hj => by
    have : j * k ≤ 15 := Nat.le_trans (Nat.mul_le_mul (by omega : j ≤ 3) hk5) (by omega)
    rw [← Int.natCast_mul]
    exact IntWalk.i64_in _ ⟨by omega, by omega⟩
  obtain ⟨t1, t2⟩ := two_small hk5
  have ew : wrap64 ((2 : Int) ^ k) = 2 ^ k := wrap64_in _ (by omega) (by omega)
  obtain ⟨i0, hi, hz0, hz1, hz2⟩ := info_parts infoU64
  obtain ⟨a0, a1, a2, a3⟩ := x0.cells
  have ah := x0.heap
  have al := x0.lt
  clear h x0 hp1 hp2
  go_enter Tryd.func83, Tryd.ntmps83
  go_wp2_with fail
  generalize w.alloc (.cells #[.int .i64 k, .int .i64 u, .slice sa sn sc, .slice ca cn cc] 27) = w0 at *
  go_loopw [5, 6] (fun r i wr => ∃ j : Nat, j ≤ u ∧ i = .int .i64 j ∧ Hid (OwnUS wr (w.heap.size + 1) wr.heap.size r (ofL k j no)) ∧ Hid (Below w.heap.size w wr) ∧ Hid (Below (w.heap.size + 1) w0 wr)) (fun _ i _ => u - (intOf i).toNat)
  case atStart => exact ⟨0, by omega, rfl, ownUS_nil _ _ (by omega), HB0, HBX0⟩
  case round =>
    obtain ⟨j, hj, rfl, HO, HB, HBX⟩ := hrel
    clear HB0 HBX0 a0 a1 a2 a3 ah al
    obtain ⟨a0, a1, a2, a3⟩ := (HXP.out _ HBX.out).cells
    have ah := (HXP.out _ HBX.out).heap
    have al := (HXP.out _ HBX.out).lt
    by_cases hlt : j < u
    · have hm := HM.out j (by omega)
      obtain ⟨s1, s2⟩ := HSH.out j
      have ea := and_two k hk5 (no / 2 ^ (j * k)) s1 s2
      have hw1 := ofW_in k no j
      have eo : no / 2 ^ (j * k) % 2 ^ k = ofW k no j := by rw [Nat.mul_comm j k]; rfl
      rw [eo] at ea
      obtain ⟨w1a, w1b⟩ := hw1
      have hkj : j * k ≤ 15 := Nat.le_trans (Nat.mul_le_mul (by omega : j ≤ 3) hk5) (by omega)
      have hq : (j : Int) * (k : Int) = ((j * k : Nat) : Int) := (Int.natCast_mul j k).symm
      clear hm
      generalize j * k = Q at *
      have HE : Hid (ofL k (j + 1) no = ofL k j no ++ [ofW k no j]) := ofL_succ k j no
      have own1 : (wr.alloc (.cells #[.int .u64 (ofW k no j)] 46)).ownsRow (w.heap.size + 1) 46 1 u5 (ofL k j no).length ((ofL k j no).map (Value.int .u64)) := World.ownsRow.alloc HO.out.1 _
      have hle : (ofL k j no).length ≤ 4 := by rw [ofL_len]; omega
      have hszx := HBX.out.size
      have hszw := HB.out.size
      have HOx : Hid (wr.ownsRow (w.heap.size + 1) 46 1 u5 (ofL k j no).length (cellsU (ofL k j no))) := HO.out.1
      have cellsN : ∀ (q : Nat) (z : Value), ([.int .u64 (ofW k no j)] : List Value)[q]? = some z → (wr.alloc (.cells #[.int .u64 (ofW k no j)] 46)).cell? ((⟨wr.heap.size, 0, none⟩ : Addr).add q) = some z := by
        intro q z hz
        match q, hz with
        | 0, hz => simp at hz; subst hz; simp [Addr.add]
      clear eo HXP HSH HM HO
      generalize ofL k j no = R at *
      go_wp2_with (at_builtin; refine wpList_append_own _ rfl _ _ 28 rfl (w.heap.size + 1) 46 i0 (.int .u64 0) 1 8 Tryd.underlying28 hi hz0 hz1 hz2 rfl (by decide) _ _ _ rfl own1 ⟨wr.heap.size, 0, none⟩ 1 1 [.int .u64 (ofW k no j)] rfl rfl cellsN (words_one [ofW k no j]) (by unfold maxLen; omega) (by omega) (by simp; omega) ?_)
      intro v7 w7 own7 grow7 _
      have HB7 : Hid (Below w.heap.size w w7) := (HB.out.alloc HB.out.size _).grown grow7 (by simp; omega) (fun k hk => by have := (HOx.out.lt k hk).1; omega)
      have HBX7 : Hid (Below (w.heap.size + 1) w0 w7) := (HBX.out.alloc (by omega) _).grown grow7 (by simp; omega) (fun k hk => (HOx.out.lt k hk).1)
      have HO7 : Hid (OwnUS w7 (w.heap.size + 1) w7.heap.size v7 (ofL k (j + 1) no)) := by
        show RowIn _ _ _ _ _ _ _ _
        rw [HE.out]
        unfold cellsU
        rw [List.map_append, List.length_append]
        exact rowIn_of own7
      clear own1 own7 grow7 cellsN
      go_wp2_with fail
      go_roundw
      case rel => exact ⟨j + 1, by omega, by go_num, HO7, HB7, HBX7⟩
      case measure => simp [intOf]; omega
    · obtain rfl : j = u := by omega
      clear HXP HSH HM
      go_wp2_with fail
      go_ret
      exact ⟨_, rfl, OwnUS.lower HO.out (Nat.le_succ _), HB.out⟩
end Go.Proofs.YtmhpnkfibecnmaaDoor

namespace Go.Proofs.YtmhpnkfibecnmaaDoor
open Go Go.RowKit
open M
set_option linter.unusedVariables false

set_option maxRecDepth 100000 in
set_option maxHeartbeats 2000000 in
theorem sStateOf_any (v : Value) (p : Pg) (no : Int) (hno : Fit no) (w : World) (h : AtProg w v p) :
    Calls Tryd.prog 38 #[v, .int .i64 no] w fun e w' => ∃ r0, e = .returned (.tuple #[r0, .bool (ofB p no)]) ∧ OwnUS w' w.heap.size w'.heap.size r0 (ofP p no) ∧ Below w.heap.size w w' := by
  have HS : Hid (∀ w1 : World, Below w.heap.size w w1 → Calls Tryd.prog 77 #[v] w1 fun e w' => e = .returned (.bool (smallP p)) ∧ Below w1.heap.size w1 w') := fun w1 hb => sSmall_any v p w1 (h.below hb)
  obtain ⟨hno0, hno1⟩ := hno
  have HAT : Hid (∀ w1 : World, Below w.heap.size w w1 → AtProg w1 v p) := fun w1 hb => h.below hb
  obtain ⟨sa, sn, sc, ca, cn, cc, rfl⟩ := h.shape
  have HB0 : Hid (Below w.heap.size w (w.alloc (.cells #[.int .i64 p.1, .int .i64 p.2.1, .slice sa sn sc, .slice ca cn cc] 27))) := (Below.refl _ _).alloc (Nat.le_refl _) _
  have x0 := box4_alloc w 27 (.int .i64 p.1) (.int .i64 p.2.1) (.slice sa sn sc) (.slice ca cn cc)
  have HX0 : Hid _ := x0
  have hofp0 : ofP p no = if ofB p no = true then ofL p.1.toNat p.2.1.toNat no else [] := rfl
  have hofb0 : ofB p no = (smallP p && decide (0 ≤ no ∧ no < 2 ^ (p.1 * p.2.1).toNat)) := rfl
  clear h x0
  cases hsm : smallP p with
  | false =>
    have HFB : Hid (ofB p no = false) := by
      show ofB p no = false
      rw [hofb0, hsm, Bool.false_and]
    have HE : Hid (ofP p no = []) := by
      show ofP p no = []
      rw [hofp0, HFB.out, if_neg (by decide)]
    rw [hsm] at HS
    clear HAT HX0 hofp0 hofb0 hsm
    generalize p.1 = pw at *
    generalize p.2.1 = pv at *
    go_enter Tryd.func38, Tryd.ntmps38
    go_wp2_with fail
    refine (HS.out _ HB0.out).mono ?_
    rintro e w1 ⟨rfl, hs⟩
    have HB1 : Hid (Below w.heap.size w w1) := Below.step HB0.out HB0.out.size hs
    clear hs
    go_wp2_with fail
    go_ret2
    exact ⟨_, by rw [HFB.out]; rfl, by rw [HE.out]; exact ownUS_nil _ _ HB1.out.size, HB1.out⟩
  | true =>
    obtain ⟨k, u, e1, e2, q1, q2, q3, q4, hk5, hm5, hM⟩ := small_nats hsm
    obtain ⟨t1, t2⟩ := two_small hm5
    have hofb : ofB p no = decide (0 ≤ no ∧ no ≤ 2 ^ (k * u) - 1) := by
      rw [hofb0, hsm, Bool.true_and, hM, Int.toNat_natCast]
      by_cases hh : 0 ≤ no ∧ no < 2 ^ (k * u)
      · rw [decide_eq_true hh, decide_eq_true ⟨hh.1, by omega⟩]
      · rw [decide_eq_false hh, decide_eq_false (by omega)]
    have hofp : ofP p no = if ofB p no = true then ofL k u no else [] := by
      rw [hofp0, e1, e2, Int.toNat_natCast, Int.toNat_natCast]
    have HMY : Hid (∀ w1 : World, Below w.heap.size w w1 → Calls Tryd.prog 82 #[.agg #[.int .i64 p.1, .int .i64 p.2.1, .slice sa sn sc, .slice ca cn cc]] w1 fun e w' => e = .returned (.int .i64 (2 ^ (k * u))) ∧ Below w1.heap.size w1 w') := fun w1 hb => sMany_any _ p (k * u) hM hm5 w1 (HAT.out w1 hb)
    have HOF : Hid (0 ≤ no → no ≤ 31 → ∀ w1 : World, Below w.heap.size w w1 → Calls Tryd.prog 83 #[.agg #[.int .i64 p.1, .int .i64 p.2.1, .slice sa sn sc, .slice ca cn cc], .int .i64 no] w1 fun e w' => ∃ r, e = .returned r ∧ OwnUS w' w1.heap.size w'.heap.size r (ofL k u no) ∧ Below w1.heap.size w1 w') := fun h0 h1 w1 hb => sOf_any _ p k u e1 e2 q1 hk5 q4 no h0 h1 w1 (HAT.out w1 hb)
    rw [hsm] at HS
    have HFB : Hid _ := hofb
    have HFP : Hid (ofP p no = if ofB p no = true then ofL k u no else []) := hofp
    clear hofb hofp hofb0 hofp0 HAT hsm hM e1 e2
    generalize ofL k u no = L at *
    generalize (2 : Int) ^ (k * u) = MM at *
    generalize p.1 = pw at *
    generalize p.2.1 = pv at *
    go_enter Tryd.func38, Tryd.ntmps38
    go_wp2_with fail
    refine (HS.out _ HB0.out).mono ?_
    generalize w.alloc (.cells #[.int .i64 pw, .int .i64 pv, .slice sa sn sc, .slice ca cn cc] 27) = w0 at *
    rintro e w1 ⟨rfl, hs⟩
    have HB1 : Hid (Below w.heap.size w w1) := Below.step HB0.out HB0.out.size hs
    have x1 := HX0.out.below hs HX0.out.lt
    have HX1 : Hid _ := x1
    obtain ⟨a0, a1, a2, a3⟩ := x1.cells
    have ah := x1.heap
    have al := x1.lt
    clear hs x1 HX0
    go_wp2_with fail
    refine (HMY.out _ HB1.out).mono ?_
    rintro e w2 ⟨rfl, hs⟩
    have HB2 : Hid (Below w.heap.size w w2) := HB1.out.trans (hs.mono HB1.out.size)
    have x2 := HX1.out.below hs HX1.out.lt
    clear a0 a1 a2 a3 ah al
    obtain ⟨a0, a1, a2, a3⟩ := x2.cells
    have ah := x2.heap
    have al := x2.lt
    clear hs x2 HX1
    have g := l1In_any no 0 (MM - 1) w2
    by_cases hin : 0 ≤ no ∧ no ≤ MM - 1
    · rw [decide_eq_true hin] at g HFB
      have HE : Hid (ofP p no = L) := by
        show ofP p no = L
        rw [HFP.out, HFB.out, if_pos rfl]
      go_wp2_with fail
      refine g.mono ?_
      rintro e w3 ⟨rfl, rfl⟩
      clear g
      go_wp2_with fail
      refine (HOF.out hin.1 (by omega) _ HB2.out).mono ?_
      rintro e w4 ⟨r, rfl, ho, hs⟩
      have HB4 : Hid (Below w.heap.size w w4) := HB2.out.trans (hs.mono HB2.out.size)
      have HO4 : Hid (OwnUS w4 w.heap.size w4.heap.size r L) := OwnUS.lower ho HB2.out.size
      clear ho hs a0 a1 a2 a3 ah al
      go_wp2_with fail
      go_ret2
      exact ⟨_, by rw [HFB.out]; rfl, by rw [HE.out]; exact HO4.out, HB4.out⟩
    · rw [decide_eq_false hin] at g HFB
      have HE : Hid (ofP p no = []) := by
        show ofP p no = []
        rw [HFP.out, HFB.out, if_neg (by decide)]
      go_wp2_with fail
      refine g.mono ?_
      rintro e w3 ⟨rfl, rfl⟩
      clear g
      go_wp2_with fail
      go_ret2
      exact ⟨_, by rw [HFB.out]; rfl, by rw [HE.out]; exact ownUS_nil _ _ HB2.out.size, HB2.out⟩
theorem ofP_ok (p : Pg) (no : Int) : WsOk (ofP p no) := by
  unfold ofP
  split
  · rename_i h
    unfold ofB at h
    rw [Bool.and_eq_true] at h
    obtain ⟨k, u, e1, e2, q1, q2, q3, q4, _⟩ := small_nats h.1
    rw [e1, e2, Int.toNat_natCast, Int.toNat_natCast]
    refine ⟨fun s hs => ?_, by rw [ofL_len]; omega⟩
    obtain ⟨a, b⟩ := ofL_mem s hs
    have := pw_le k q2
    rw [pw_int] at b
    omega
  · exact ⟨fun s hs => by simp at hs, by simp⟩
end Go.Proofs.YtmhpnkfibecnmaaDoor

namespace Go.Proofs.YtmhpnkfibecnmaaDoor
open Go Go.RowKit
open M
set_option linter.unusedVariables false

def holdB (p : Pg) (t : List Nd) (no : Int) : Bool := ofB p no && (kindL p.1 p.2.1 t == 2)
def holdR (p : Pg) (t : List Nd) (no : Int) : Bool := holdB p t no && holdsL p.1 t (ofL p.1.toNat p.2.1.toNat no)
end Go.Proofs.YtmhpnkfibecnmaaDoor

namespace Go.Proofs.YtmhpnkfibecnmaaDoor
open Go Go.RowKit
open M
set_option linter.unusedVariables false

set_option maxRecDepth 100000 in
set_option maxHeartbeats 2000000 in
theorem sEnabledL_any (v sv : Value) (p : Pg) (st : List Int) (hok : WsOk st) (hgs : goodS p st = true) (w : World) (h : AtProg w v p) (hs : StAt w sv st) :
    Calls Tryd.prog 68 #[v, sv] w fun e w' => ∃ u, e = .returned u ∧ OwnInts w' w.heap.size u (enF p.1 st p.2.2.2 0) ∧ Below w.heap.size w w' := by
  have hg2 := hgs
  unfold goodS at hg2
  rw [Bool.and_eq_true] at hg2
  obtain ⟨hgp, hst⟩ := hg2
  obtain ⟨_, _, _, _, _, _, hc6, hcm0⟩ := goodP_parts hgp
  have GH0 : ∀ (w1 : World) (u : Value) (c : Cm), c ∈ p.2.2.2 → Below w.heap.size w w1 → NodesAt w1 u c.1 → Calls Tryd.prog 67 #[v, u, sv] w1 fun e w' => e = .returned (.bool (holdsL p.1 c.1 st)) ∧ Below w1.heap.size w1 w' := fun w1 u c hc hb hu => by
    have h1 := hcm0 c hc
    unfold cmB at h1
    rw [Bool.and_eq_true] at h1
    have h2 := beq_iff_eq.1 h1.1
    exact sHolds_any v u sv p c.1 st (st_ok hok) (said_of hst (by omega)) w1 (h.below hb) hu (hs.below hb)
  obtain ⟨⟨hfw0, hfw1⟩, ⟨hfv0, hfv1⟩, s, c, rfl, hns, hcm⟩ := h
  obtain ⟨sa, sc, rfl⟩ := hns.shape
  obtain ⟨ca, cc, rfl, hcc⟩ := hcm.opened
  have HCS : Hid (∀ w1 : World, Below w.heap.size w w1 → ∀ (i : Nat) (d : Cm), p.2.2.2[i]? = some d → ∃ b off : Nat, ca = some ⟨b, off, none⟩ ∧ ∃ x y : Value, w1.cell? ⟨b, off + i * 2, none⟩ = some x ∧ w1.cell? ⟨b, off + i * 2 + 1, none⟩ = some y ∧ CmV w1 d x y) := fun w1 hb i d hi => by
    obtain ⟨b, off, e, hlt, x, y, h3, h4, h5⟩ := hcc i d hi
    exact ⟨b, off, e, x, y, by rw [hb.cell (p := ⟨b, off + i * 2, none⟩) hlt]; exact h3, by rw [hb.cell (p := ⟨b, off + i * 2 + 1, none⟩) hlt]; exact h4, cmV_frame _ _ _ _ _ h5 hb⟩
  have GH : Hid _ := GH0
  obtain ⟨ua, uc, rfl⟩ := hs.shape
  have HB0 : Hid (Below w.heap.size w (w.alloc (.cells #[.int .i64 p.1, .int .i64 p.2.1, .slice sa p.2.2.1.length sc, .slice ca p.2.2.2.length cc] 27))) := (Below.refl _ _).alloc (Nat.le_refl _) _
  have x0 := box4_alloc w 27 (.int .i64 p.1) (.int .i64 p.2.1) (.slice sa p.2.2.1.length sc) (.slice ca p.2.2.2.length cc)
  have HXP : Hid (∀ w3, Below (w.heap.size + 1) (w.alloc (.cells #[.int .i64 p.1, .int .i64 p.2.1, .slice sa p.2.2.1.length sc, .slice ca p.2.2.2.length cc] 27)) w3 → Box4 w3 w.heap.size 27 (.int .i64 p.1) (.int .i64 p.2.1) (.slice sa p.2.2.1.length sc) (.slice ca p.2.2.2.length cc)) := fun w3 hb3 => x0.below hb3 (by omega)
  have HBX0 : Hid (Below (w.heap.size + 1) (w.alloc (.cells #[.int .i64 p.1, .int .i64 p.2.1, .slice sa p.2.2.1.length sc, .slice ca p.2.2.2.length cc] 27)) (w.alloc (.cells #[.int .i64 p.1, .int .i64 p.2.1, .slice sa p.2.2.1.length sc, .slice ca p.2.2.2.length cc] 27))) := Below.refl _ _
  have hw0z : (w.alloc (.cells #[.int .i64 p.1, .int .i64 p.2.1, .slice sa p.2.2.1.length sc, .slice ca p.2.2.2.length cc] 27)).heap.size = w.heap.size + 1 := World.size_alloc _ _
  obtain ⟨a0, a1, a2, a3⟩ := x0.cells
  have ah := x0.heap
  have al := x0.lt
  obtain ⟨i0, hi, hz0, hz1, hz2⟩ := info_parts infoInt
  clear hcc hcm hns hs hok hgs hst hgp hcm0 GH0 x0
  generalize hcs : p.2.2.2 = cs at *
  generalize p.2.2.1.length = sn at *
  generalize st.length = n at *
  generalize p.1 = pw at *
  generalize p.2.1 = pv at *
  clear hcs
  go_enter Tryd.func68, Tryd.ntmps68
  go_wp2_with fail
  generalize w.alloc (.cells #[.int .i64 pw, .int .i64 pv, .slice sa sn sc, .slice ca cs.length cc] 27) = w0 at *
  go_loopw [5, 11] (fun v i wr => ∃ j : Nat, j ≤ cs.length ∧ i = .int .i64 j ∧ Hid (OwnInts wr (w.heap.size + 1) v (enF pw st (cs.take j) 0)) ∧ Hid (Below w.heap.size w wr) ∧ Hid (Below (w.heap.size + 1) w0 wr)) (fun _ i _ => cs.length - (intOf i).toNat)
  case atStart => exact ⟨0, by omega, rfl, World.ownsRow_nil _ _ _ _, HB0, HBX0⟩
  case round =>
    obtain ⟨j, hj, rfl, HO, HB, HBX⟩ := hrel
    clear HB0 HBX0 a0 a1 a2 a3 ah al
    by_cases hlt : j < cs.length
    · obtain ⟨d, hd⟩ : ∃ d, cs[j]? = some d := ⟨cs[j], List.getElem?_eq_getElem hlt⟩
      obtain ⟨b, off, rfl, x, y, cx, cy, hV⟩ := HCS.out wr HB.out j d hd
      have HD : Hid (cs[j]? = some d) := hd
      have hal := (Below.refl wr.heap.size wr).alloc (Nat.le_refl _) (.cells #[x, y] 98)
      have HB3 : Hid (Below w.heap.size w (wr.alloc (.cells #[x, y] 98))) := HB.out.alloc HB.out.size _
      have HBX3 : Hid (Below (w.heap.size + 1) w0 (wr.alloc (.cells #[x, y] 98))) := HBX.out.alloc (by have := HBX.out.size; omega) _
      have g := GH.out _ x d (List.mem_of_getElem? hd) HB3.out (hV.1.below hal)
      obtain ⟨a0, a1, a2, a3⟩ := (HXP.out _ HBX3.out).cells
      have ah := (HXP.out _ HBX3.out).heap
      have al := (HXP.out _ HBX3.out).lt
      obtain ⟨hV1, hV2⟩ := hV
      obtain ⟨xa, xc, rfl⟩ := hV1.shape
      obtain ⟨ya, yc, rfl⟩ := hV2.shape
      generalize hxn : d.1.length = xn at *
      generalize hyn : d.2.length = yn at *
      have HO3 : Hid (OwnInts (wr.alloc (.cells #[.slice xa xn xc, .slice ya yn yc] 98)) (w.heap.size + 1) u5 (enF pw st (cs.take j) 0)) := World.ownsRow.alloc HO.out _
      have hle : (enF pw st (cs.take j) 0).length ≤ 6 := Nat.le_trans (enF_len pw st _ 0) (by rw [List.length_take]; omega)
      have hszw := HB.out.size
      clear hV1 hV2 hal hd HCS GH HXP HB HBX HO hxn hyn
      cases hp : holdsL pw d.1 st with
      | false =>
        rw [hp] at g
        have HE : Hid (enF pw st (cs.take (j + 1)) 0 = enF pw st (cs.take j) 0) := enF_no HD.out hp
        clear hp HD
        go_wp2_with fail
        refine g.mono ?_
        rintro e w4 ⟨rfl, hs⟩
        have HB4 : Hid (Below w.heap.size w w4) := HB3.out.trans (hs.mono HB3.out.size)
        have HBX4 : Hid (Below (w.heap.size + 1) w0 w4) := HBX3.out.trans (hs.mono (by have := HBX3.out.size; omega))
        have HO4 : Hid (OwnInts w4 (w.heap.size + 1) u5 (enF pw st (cs.take (j + 1)) 0)) := by
          show OwnInts _ _ _ _
          rw [HE.out]
          exact owns_below HO3.out hs
        clear g hs a0 a1 a2 a3 ah al
        go_wp2_with fail
        go_roundw
        case rel => exact ⟨j + 1, by omega, by go_num, HO4, HB4, HBX4⟩
        case measure => simp [intOf]; omega
      | true =>
        rw [hp] at g
        have HE : Hid (enF pw st (cs.take (j + 1)) 0 = enF pw st (cs.take j) 0 ++ [(j : Int)]) := enF_yes HD.out hp
        clear hp HD
        go_wp2_with fail
        refine g.mono ?_
        rintro e w4 ⟨rfl, hs⟩
        have HB4 : Hid (Below w.heap.size w w4) := HB3.out.trans (hs.mono HB3.out.size)
        have HBX4 : Hid (Below (w.heap.size + 1) w0 w4) := HBX3.out.trans (hs.mono (by have := HBX3.out.size; omega))
        have HO4 : Hid (OwnInts w4 (w.heap.size + 1) u5 (enF pw st (cs.take j) 0)) := owns_below HO3.out hs
        have own1 : (w4.alloc (.cells #[.int .i64 j] 3)).ownsRow (w.heap.size + 1) 3 1 u5 (enF pw st (cs.take j) 0).length ((enF pw st (cs.take j) 0).map (Value.int .i64)) := World.ownsRow.alloc HO4.out _
        have cellsN := oneI_cells w4 j
        have hsz4 := HB4.out.size
        have hszx := HBX4.out.size
        clear g hs a0 a1 a2 a3 ah al
        generalize enF pw st (cs.take j) 0 = R at *
        go_wp2_with (at_builtin; refine wpList_append_own _ rfl _ _ 29 rfl (w.heap.size + 1) 3 i0 (.int .i64 0) 1 8 Tryd.underlying29 hi hz0 hz1 hz2 rfl (by decide) _ _ _ rfl own1 ⟨w4.heap.size, 0, none⟩ 1 1 [.int .i64 j] rfl rfl cellsN (ints_one [(j : Int)]) (by unfold maxLen; omega) (by omega) (by simp; omega) ?_)
        intro v7 w7 own7 grow7 _
        have HB7 : Hid (Below w.heap.size w w7) := (HB4.out.alloc HB4.out.size _).grown grow7 (by simp; omega) (fun k hk => by have := (HO4.out.lt k hk).1; omega)
        have HBX7 : Hid (Below (w.heap.size + 1) w0 w7) := (HBX4.out.alloc (by omega) _).grown grow7 (by simp; omega) (fun k hk => (HO4.out.lt k hk).1)
        have HO7 : Hid (OwnInts w7 (w.heap.size + 1) v7 (enF pw st (cs.take (j + 1)) 0)) := by
          show OwnInts _ _ _ _
          rw [HE.out]
          unfold OwnInts
          rw [List.map_append, List.length_append]
          exact own7
        clear own1 own7 grow7 cellsN
        go_wp2_with fail
        go_roundw
        case rel => exact ⟨j + 1, by omega, by go_num, HO7, HB7, HBX7⟩
        case measure => simp [intOf]; omega
    · obtain rfl : j = cs.length := by omega
      have HO2 : Hid (OwnInts wr (w.heap.size + 1) u5 (enF pw st cs 0)) := by
        have h1 := HO.out
        rw [List.take_length] at h1
        exact h1
      clear HO HCS GH HXP
      go_wp2_with fail
      go_ret
      exact ⟨_, rfl, own_weaken HO2.out (Nat.le_succ _), HB.out⟩
end Go.Proofs.YtmhpnkfibecnmaaDoor

namespace Go.Proofs.YtmhpnkfibecnmaaDoor
open Go Go.RowKit
open M
set_option linter.unusedVariables false

theorem ownIS_nil (w : World) (lo : Nat) (h : lo ≤ w.heap.size) : OwnIS w lo w.heap.size (.slice none 0 0) [] := rowIn_of (World.ownsRow_nil _ _ _ _)
set_option maxRecDepth 100000 in
set_option maxHeartbeats 2000000 in
theorem sEnabled_any (v sv : Value) (p : Pg) (st : List Int) (hok : WsOk st) (w : World) (h : AtProg w v p) (hs : StAt w sv st) :
    Calls Tryd.prog 23 #[v, sv] w fun e w' => ∃ r0, e = .returned (.tuple #[r0, .bool (goodS p st)]) ∧ OwnIS w' w.heap.size w'.heap.size r0 (enP p st) ∧ Below w.heap.size w w' := by
  have HS : Hid (∀ w1 : World, Below w.heap.size w w1 → Calls Tryd.prog 14 #[v] w1 fun e w' => e = .returned (.bool (goodP p)) ∧ Below w1.heap.size w1 w') := fun w1 hb => sGoodProg_any v p w1 (h.below hb)
  have HT : Hid (∀ w1 : World, Below w.heap.size w w1 → Calls Tryd.prog 55 #[v, sv] w1 fun e w' => e = .returned (.bool (stateP p st)) ∧ Below w1.heap.size w1 w') := fun w1 hb => sState_any v sv p st (st_ok hok) w1 (h.below hb) (hs.below hb)
  have HN : Hid (goodP p = true → stateP p st = true → ∀ (w1 : World), Below w.heap.size w w1 → Calls Tryd.prog 68 #[v, sv] w1 fun e w' => ∃ u, e = .returned u ∧ OwnInts w' w1.heap.size u (enF p.1 st p.2.2.2 0) ∧ Below w1.heap.size w1 w') := fun h1 h2 w1 hb => sEnabledL_any v sv p st hok (by unfold goodS; rw [h1, h2]; rfl) w1 (h.below hb) (hs.below hb)
  have hn0 : enP p st = if (goodP p && stateP p st) = true then enF p.1 st p.2.2.2 0 else [] := rfl
  have hg0 : goodS p st = (goodP p && stateP p st) := rfl
  obtain ⟨sa, sn, sc, ca, cn, cc, rfl⟩ := h.shape
  have HB0 : Hid (Below w.heap.size w (w.alloc (.cells #[.int .i64 p.1, .int .i64 p.2.1, .slice sa sn sc, .slice ca cn cc] 27))) := (Below.refl _ _).alloc (Nat.le_refl _) _
  have x0 := box4_alloc w 27 (.int .i64 p.1) (.int .i64 p.2.1) (.slice sa sn sc) (.slice ca cn cc)
  have HX0 : Hid _ := x0
  obtain ⟨ua, uc, rfl⟩ := hs.shape
  rw [hn0, hg0]
  clear h hs hok x0 hn0 hg0
  generalize enF p.1 st p.2.2.2 0 = NN at *
  generalize st.length = n at *
  generalize stateP p st = B2 at *
  generalize goodP p = B1 at *
  generalize p.1 = pw at *
  generalize p.2.1 = pv at *
  cases B1 with
  | false =>
    rw [Bool.false_and, if_neg (by decide)]
    clear HN HT HX0
    go_enter Tryd.func23, Tryd.ntmps23
    go_wp2_with fail
    refine (HS.out _ HB0.out).mono ?_
    rintro e w1 ⟨rfl, hs⟩
    have HB1 : Hid (Below w.heap.size w w1) := Below.step HB0.out HB0.out.size hs
    clear hs
    go_wp2_with fail
    go_ret2
    exact ⟨_, rfl, ownIS_nil _ _ HB1.out.size, HB1.out⟩
  | true =>
    cases B2 with
    | false =>
      rw [Bool.and_false, if_neg (by decide)]
      clear HN
      go_enter Tryd.func23, Tryd.ntmps23
      go_wp2_with fail
      refine (HS.out _ HB0.out).mono ?_
      generalize w.alloc (.cells #[.int .i64 pw, .int .i64 pv, .slice sa sn sc, .slice ca cn cc] 27) = w0 at *
      rintro e w1 ⟨rfl, hs⟩
      have HB1 : Hid (Below w.heap.size w w1) := Below.step HB0.out HB0.out.size hs
      have x1 := HX0.out.below hs HX0.out.lt
      obtain ⟨a0, a1, a2, a3⟩ := x1.cells
      have ah := x1.heap
      have al := x1.lt
      clear hs x1 HX0
      go_wp2_with fail
      refine (HT.out _ HB1.out).mono ?_
      rintro e w2 ⟨rfl, hs⟩
      have HB2 : Hid (Below w.heap.size w w2) := HB1.out.trans (hs.mono HB1.out.size)
      clear hs a0 a1 a2 a3 ah al
      go_wp2_with fail
      go_ret2
      exact ⟨_, rfl, ownIS_nil _ _ HB2.out.size, HB2.out⟩
    | true =>
      rw [Bool.and_true, if_pos rfl]
      have HN2 : Hid _ := HN.out rfl rfl
      clear HN
      go_enter Tryd.func23, Tryd.ntmps23
      go_wp2_with fail
      refine (HS.out _ HB0.out).mono ?_
      generalize w.alloc (.cells #[.int .i64 pw, .int .i64 pv, .slice sa sn sc, .slice ca cn cc] 27) = w0 at *
      rintro e w1 ⟨rfl, hs⟩
      have HB1 : Hid (Below w.heap.size w w1) := Below.step HB0.out HB0.out.size hs
      have x1 := HX0.out.below hs HX0.out.lt
      have HX1 : Hid _ := x1
      obtain ⟨a0, a1, a2, a3⟩ := x1.cells
      have ah := x1.heap
      have al := x1.lt
      clear hs x1 HX0
      go_wp2_with fail
      refine (HT.out _ HB1.out).mono ?_
      rintro e w2 ⟨rfl, hs⟩
      have HB2 : Hid (Below w.heap.size w w2) := HB1.out.trans (hs.mono HB1.out.size)
      have x2 := HX1.out.below hs HX1.out.lt
      clear a0 a1 a2 a3 ah al
      obtain ⟨a0, a1, a2, a3⟩ := x2.cells
      have ah := x2.heap
      have al := x2.lt
      clear hs x2 HX1
      go_wp2_with fail
      refine (HN2.out _ HB2.out).mono ?_
      rintro e w3 ⟨u, rfl, ho, hs⟩
      have HB3 : Hid (Below w.heap.size w w3) := HB2.out.trans (hs.mono HB2.out.size)
      have HO : Hid (OwnIS w3 w.heap.size w3.heap.size u NN) := rowIn_of (own_weaken ho HB2.out.size)
      clear ho hs a0 a1 a2 a3 ah al
      go_wp2_with fail
      go_ret2
      exact ⟨_, rfl, HO.out, HB3.out⟩
end Go.Proofs.YtmhpnkfibecnmaaDoor
