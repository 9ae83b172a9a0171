/-
  When a program is good and when it is small: the model's GoodProgram, l7Small, IsSmall.
  Whether a program is good and whether it is small: the program's GoodProgram, IsSmall.
  Whether a program is small: the program's bits, small, IsSmall.
-/
import Derived.Test.YtjbfembblgkakaaDoorKP72
import Derived.BigQuiet
import Derived.Test.YtjbfembblgkakaaDoorKP71
namespace Go.Proofs.YtjbfembblgkakaaDoor
open Go Go.RowKit
open M
set_option linter.unusedVariables false

def smallP (p : Pg) : Bool := goodP p && decide (p.1 * p.2.1 ≤ 5)
set_option maxRecDepth 100000 in
set_option maxHeartbeats 2000000 in
theorem sGoodProg_any (v : Value) (p : Pg) (w : World) (h : AtProg w v p) :
    Calls Tryd.prog 36 #[v] w fun e w' => e = .returned (.bool (goodP p)) ∧ Below w.heap.size w w' := by
  have HP : Hid (∀ w1 : World, Below w.heap.size w w1 → AtProg w1 v p) := fun w1 hb => h.below hb
  obtain ⟨⟨hfw0, hfw1⟩, ⟨hfv0, hfv1⟩, s, c, rfl, hst, hcm⟩ := h
  have HAS : Hid (∀ w1 : World, Below w.heap.size w w1 → Calls Tryd.prog 101 #[.agg #[.int .i64 p.1, .int .i64 p.2.1, s, c], s] w1 fun e w' => e = .returned (.bool (kindL p.1 p.2.1 p.2.2.1 == 2)) ∧ Below w1.heap.size w1 w') := fun w1 hb => asks_any _ s p p.2.2.1 w1 (HP.out w1 hb) (hst.below hb)
  obtain ⟨sa, sc, rfl⟩ := hst.shape
  obtain ⟨ca, cc, rfl, hcc⟩ := hcm.opened
  have hcl := hcm.1
  have HCS : Hid (∀ w1 : World, Below w.heap.size w w1 → ∀ (i : Nat) (d : Cm), p.2.2.2[i]? = some d → ∃ b off : Nat, ca = some ⟨b, off, none⟩ ∧ ∃ x y : Value, w1.cell? ⟨b, off + i * 2, none⟩ = some x ∧ w1.cell? ⟨b, off + i * 2 + 1, none⟩ = some y ∧ CmV w1 d x y) := fun w1 hb i d hi => by
    obtain ⟨b, off, e, hlt, x, y, h3, h4, h5⟩ := hcc i d hi
    exact ⟨b, off, e, x, y, by rw [hb.cell (p := ⟨b, off + i * 2, none⟩) hlt]; exact h3, by rw [hb.cell (p := ⟨b, off + i * 2 + 1, none⟩) hlt]; exact h4, cmV_frame _ _ _ _ _ h5 hb⟩
  have hR0 : goodP p = ((kindL p.1 p.2.1 p.2.2.1 == 2) && (decide (1 ≤ p.2.2.2.length ∧ p.2.2.2.length ≤ 6) && p.2.2.2.all (cmB p.1 p.2.1))) := rfl
  have HR : Hid _ := hR0
  have hkin := fun h => @kind_in p.1 p.2.1 p.2.2.1 h
  have GCM : Hid (1 ≤ p.2.1 → p.2.1 ≤ 4 → ∀ (w1 : World) (x y : Value) (d : Cm), Below w.heap.size w w1 → CmV w1 d x y → Calls Tryd.prog 103 #[.agg #[.int .i64 p.1, .int .i64 p.2.1, .slice sa p.2.2.1.length sc, .slice ca p.2.2.2.length cc], .agg #[x, y]] w1 fun e w' => e = .returned (.bool (cmB p.1 p.2.1 d)) ∧ Below w1.heap.size w1 w') := fun h1 h2 w1 x y d hb hd => sCommand_any _ x y p d h1 h2 w1 (HP.out w1 hb) hd
  have HB0 : Hid (Below w.heap.size w (w.alloc (.cells #[.int .i64 p.1, .int .i64 p.2.1, .slice sa p.2.2.1.length sc, .slice ca p.2.2.2.length cc] 44))) := (Below.refl _ _).alloc (Nat.le_refl _) _
  have x0 := box4_alloc w 44 (.int .i64 p.1) (.int .i64 p.2.1) (.slice sa p.2.2.1.length sc) (.slice ca p.2.2.2.length cc)
  have HX0 : Hid _ := x0
  clear x0 hcm hcc hst hR0 HP
  generalize goodP p = GP at *
  cases hk : (kindL p.1 p.2.1 p.2.2.1 == 2) with
  | false =>
    rw [hk] at HAS
    have HN : Hid (GP = false) := by
      show GP = false
      rw [HR.out, hk, Bool.false_and]
    clear hk HR HCS hkin GCM HX0
    generalize p.2.2.1.length = sn at *
    generalize p.2.2.2.length = cn at *
    generalize p.1 = pw at *
    generalize p.2.1 = pv at *
    go_enter Tryd.func36, Tryd.ntmps36
    go_wp2_with fail
    refine (HAS.out _ HB0.out).mono ?_
    rintro e w1 ⟨rfl, hs⟩
    have HB1 : Hid (Below w.heap.size w w1) := Below.step HB0.out HB0.out.size hs
    clear hs
    go_wp2_with fail
    go_ret
    exact ⟨ret_bool HN.out.symm, HB1.out⟩
  | true =>
    rw [hk] at HAS
    obtain ⟨_, _, hv1, hv4⟩ := hkin (by have := beq_iff_eq.1 hk; omega)
    have GC : Hid _ := GCM.out hv1 hv4
    have HR2 : Hid (GP = (decide (1 ≤ p.2.2.2.length ∧ p.2.2.2.length ≤ 6) && p.2.2.2.all (cmB p.1 p.2.1))) := by
      show GP = _
      rw [HR.out, hk, Bool.true_and]
    clear hk HR hkin GCM
    generalize hcs : p.2.2.2 = cs at *
    generalize p.2.2.1.length = sn at *
    generalize p.1 = pw at *
    generalize p.2.1 = pv at *
    clear hcs
    by_cases hcn : 1 ≤ (cs.length : Int) ∧ (cs.length : Int) ≤ 6
    case neg =>
      have HN : Hid (GP = false) := by
        show GP = false
        rw [HR2.out, decide_eq_false (by omega), Bool.false_and]
      clear HR2 HCS GC
      generalize cs.length = cn at *
      go_enter Tryd.func36, Tryd.ntmps36
      go_wp2_with fail
      refine (HAS.out _ HB0.out).mono ?_
      generalize w.alloc (.cells #[.int .i64 pw, .int .i64 pv, .slice sa sn sc, .slice ca cn cc] 44) = w0 at *
      rintro e w1 ⟨rfl, hs⟩
      have HB1 : Hid (Below w.heap.size w w1) := Below.step HB0.out HB0.out.size hs
      have x1 := HX0.out.below hs HX0.out.lt
      obtain ⟨a0, a1, a2, a3⟩ := x1.cells
      have ah := x1.heap
      have al := x1.lt
      have g := l1In_any (cn : Int) 1 6 w1
      rw [decide_eq_false hcn] at g
      clear hs x1 HX0
      go_wp2_with fail
      refine g.mono ?_
      rintro e w2 ⟨rfl, rfl⟩
      clear g
      go_wp2_with fail
      go_ret
      exact ⟨ret_bool HN.out.symm, HB1.out⟩
    have HR3 : Hid (GP = cs.all (cmB pw pv)) := by
      show GP = _
      rw [HR2.out, decide_eq_true (by omega), Bool.true_and]
    clear HR2
    go_enter Tryd.func36, Tryd.ntmps36
    go_wp2_with fail
    refine (HAS.out _ HB0.out).mono ?_
    generalize w.alloc (.cells #[.int .i64 pw, .int .i64 pv, .slice sa sn sc, .slice ca cs.length cc] 44) = w0 at *
    rintro e w1 ⟨rfl, hs⟩
    have HB1 : Hid (Below w.heap.size w w1) := Below.step HB0.out HB0.out.size hs
    have x1 := HX0.out.below hs HX0.out.lt
    have hs1 := x1.lt
    have HXP : Hid (∀ w3, Below (w.heap.size + 1) w1 w3 → Box4 w3 w.heap.size 44 (.int .i64 pw) (.int .i64 pv) (.slice sa sn sc) (.slice ca cs.length cc)) := fun w3 hb3 => x1.below hb3 (by omega)
    obtain ⟨a0, a1, a2, a3⟩ := x1.cells
    have ah := x1.heap
    have al := x1.lt
    have g := l1In_any (cs.length : Int) 1 6 w1
    rw [decide_eq_true hcn] at g
    have HBX1 : Hid (Below (w.heap.size + 1) w1 w1) := Below.refl _ _
    obtain ⟨hcn1, hcn6⟩ := hcn
    clear hs x1 HX0 HAS HB0
    go_wp2_with fail
    refine g.mono ?_
    rintro e w2 ⟨rfl, hw2⟩
    subst hw2
    clear g
    go_wp2_with fail
    go_loopw [20] (fun i wr => ∃ j : Nat, j ≤ cs.length ∧ i = .int .i64 j ∧ Hid ((cs.take j).all (cmB pw pv) = true) ∧ Hid (Below w.heap.size w wr) ∧ Hid (Below (w.heap.size + 1) w2 wr)) (fun i _ => cs.length - (intOf i).toNat)
    case atStart => exact ⟨0, by omega, rfl, rfl, HB1, HBX1⟩
    case round =>
      obtain ⟨j, hj, rfl, HA, HB, HBX⟩ := hrel
      clear HB1 HBX1 a0 a1 a2 a3 ah al
      by_cases hlt : j < cs.length
      · obtain ⟨d, hd⟩ : ∃ d, cs[j]? = some d := ⟨cs[j], List.getElem?_eq_getElem hlt⟩
        obtain ⟨b, off, rfl, x, y, cx, cy, hV⟩ := HCS.out wr HB.out j d hd
        have HD : Hid (cs[j]? = some d) := hd
        have hal := (Below.refl wr.heap.size wr).alloc (Nat.le_refl _) (.cells #[x, y] 140)
        have HB3 : Hid (Below w.heap.size w (wr.alloc (.cells #[x, y] 140))) := HB.out.alloc HB.out.size _
        have HBX3 : Hid (Below (w.heap.size + 1) w2 (wr.alloc (.cells #[x, y] 140))) := HBX.out.alloc (by have := HBX.out.size; omega) _
        have g := GC.out _ x y d HB3.out (cmV_frame _ _ _ _ _ hV hal)
        obtain ⟨a0, a1, a2, a3⟩ := (HXP.out _ HBX3.out).cells
        have ah := (HXP.out _ HBX3.out).heap
        have al := (HXP.out _ HBX3.out).lt
        obtain ⟨hV1, hV2⟩ := hV
        obtain ⟨xa, xc, rfl⟩ := hV1.shape
        obtain ⟨ya, yc, rfl⟩ := hV2.shape
        generalize hxn : d.1.length = xn at *
        generalize hyn : d.2.length = yn at *
        clear hV1 hV2 hal hd HCS GC HXP HB HBX hxn hyn
        cases hp : cmB pw pv d with
        | true =>
          rw [hp] at g
          have HN : Hid ((cs.take (j + 1)).all (cmB pw pv) = true) := allTake HD.out HA.out hp
          clear hp HD HA
          go_wp2_with fail
          refine g.mono ?_
          rintro e w4 ⟨rfl, hs⟩
          have HB4 : Hid (Below w.heap.size w w4) := HB3.out.trans (hs.mono HB3.out.size)
          have HBX4 : Hid (Below (w.heap.size + 1) w2 w4) := HBX3.out.trans (hs.mono (by have := HBX3.out.size; omega))
          clear g hs a0 a1 a2 a3 ah al
          go_wp2_with fail
          go_roundw
          case rel => exact ⟨j + 1, by omega, by go_num, HN, HB4, HBX4⟩
          case measure => simp [intOf]; omega
        | false =>
          rw [hp] at g
          have HN : Hid (GP = false) := HR3.out.trans (allNot HD.out hp)
          clear hp HD HA
          go_wp2_with fail
          refine g.mono ?_
          rintro e w4 ⟨rfl, hs⟩
          have HB4 : Hid (Below w.heap.size w w4) := HB3.out.trans (hs.mono HB3.out.size)
          clear g hs
          go_wp2_with fail
          go_ret
          exact ⟨ret_bool HN.out.symm, HB4.out⟩
      · obtain rfl : j = cs.length := by omega
        have HN : Hid (GP = true) := by
          have h1 := HA.out
          rw [List.take_length] at h1
          exact HR3.out.trans h1
        clear HA HCS GC HXP
        go_wp2_with fail
        go_ret
        exact ⟨ret_bool HN.out.symm, HB.out⟩
set_option maxRecDepth 100000 in
theorem sSmall_any (v : Value) (p : Pg) (w : World) (h : AtProg w v p) :
    Calls Tryd.prog 117 #[v] w fun e w' => e = .returned (.bool (smallP p)) ∧ Below w.heap.size w w' := by
  have HG : Hid (∀ w1 : World, Below w.heap.size w w1 → Calls Tryd.prog 36 #[v] w1 fun e w' => e = .returned (.bool (goodP p)) ∧ Below w1.heap.size w1 w') := fun w1 hb => sGoodProg_any v p w1 (h.below hb)
  have hparts := @goodP_parts p
  obtain ⟨sa, sn, sc, ca, cn, cc, rfl⟩ := h.shape
  have HB0 : Hid (Below w.heap.size w (w.alloc (.cells #[.int .i64 p.1, .int .i64 p.2.1, .slice sa sn sc, .slice ca cn cc] 44))) := (Below.refl _ _).alloc (Nat.le_refl _) _
  have x0 := box4_alloc w 44 (.int .i64 p.1) (.int .i64 p.2.1) (.slice sa sn sc) (.slice ca cn cc)
  have HX0 : Hid _ := x0
  unfold smallP
  clear x0 h
  cases hg : goodP p with
  | false =>
    rw [hg] at HG
    rw [Bool.false_and]
    clear hparts hg HX0
    generalize p.1 = pw at *
    generalize p.2.1 = pv at *
    go_enter Tryd.func117, Tryd.ntmps117
    go_wp2_with fail
    refine (HG.out _ HB0.out).mono ?_
    rintro e w1 ⟨rfl, hs⟩
    have HB1 : Hid (Below w.heap.size w w1) := Below.step HB0.out HB0.out.size hs
    clear hs
    go_wp2_with fail
    go_ret
    exact ⟨rfl, HB1.out⟩
  | true =>
    rw [hg] at HG
    rw [Bool.true_and]
    obtain ⟨_, q0, q1, q2, q3, _⟩ := hparts hg
    clear hparts hg
    generalize p.1 = pw at *
    generalize p.2.1 = pv at *
    have hm0 : 1 ≤ pw * pv := Int.le_trans (by omega : (1 : Int) ≤ 1 * 1) (Int.mul_le_mul q0 q2 (by omega) (by omega))
    have hm1 : pw * pv ≤ 256 := Int.le_trans (Int.mul_le_mul q1 q3 (by omega) (by omega)) (by omega)
    obtain ⟨M, hM⟩ : ∃ M : Int, pw * pv = M := ⟨_, rfl⟩
    rw [hM] at hm0 hm1 ⊢
    go_enter Tryd.func117, Tryd.ntmps117
    go_wp2_with fail
    refine (HG.out _ HB0.out).mono ?_
    generalize w.alloc (.cells #[.int .i64 pw, .int .i64 pv, .slice sa sn sc, .slice ca cn cc] 44) = w0 at *
    rintro e w1 ⟨rfl, hs⟩
    have HB1 : Hid (Below w.heap.size w w1) := Below.step HB0.out HB0.out.size hs
    have x1 := HX0.out.below hs HX0.out.lt
    obtain ⟨a0, a1, a2, a3⟩ := x1.cells
    have ah := x1.heap
    have al := x1.lt
    clear hs x1 HX0
    go_wp2_with fail
    go_ret
    exact ⟨rfl, HB1.out⟩
set_option maxRecDepth 100000 in
theorem sIsSmall_any (v : Value) (p : Pg) (w : World) (h : AtProg w v p) :
    Calls Tryd.prog 56 #[v] w fun e w' => e = .returned (.tuple #[.bool (smallP p), .bool (goodP p)]) ∧ Below w.heap.size w w' := by
  have HG : Hid (∀ w1 : World, Below w.heap.size w w1 → Calls Tryd.prog 36 #[v] w1 fun e w' => e = .returned (.bool (goodP p)) ∧ Below w1.heap.size w1 w') := fun w1 hb => sGoodProg_any v p w1 (h.below hb)
  have HS : Hid (∀ w1 : World, Below w.heap.size w w1 → Calls Tryd.prog 117 #[v] w1 fun e w' => e = .returned (.bool (smallP p)) ∧ Below w1.heap.size w1 w') := fun w1 hb => sSmall_any v p w1 (h.below hb)
  obtain ⟨sa, sn, sc, ca, cn, cc, rfl⟩ := h.shape
  have HB0 : Hid (Below w.heap.size w (w.alloc (.cells #[.int .i64 p.1, .int .i64 p.2.1, .slice sa sn sc, .slice ca cn cc] 44))) := (Below.refl _ _).alloc (Nat.le_refl _) _
  have x0 := box4_alloc w 44 (.int .i64 p.1) (.int .i64 p.2.1) (.slice sa sn sc) (.slice ca cn cc)
  have HX0 : Hid _ := x0
  have hsm : goodP p = false → smallP p = false := fun hg => by unfold smallP; rw [hg, Bool.false_and]
  clear x0 h
  cases hg : goodP p with
  | false =>
    rw [hg] at HG
    rw [hsm hg]
    clear hg HX0 hsm HS
    generalize p.1 = pw at *
    generalize p.2.1 = pv at *
    go_enter Tryd.func56, Tryd.ntmps56
    go_wp2_with fail
    refine (HG.out _ HB0.out).mono ?_
    rintro e w1 ⟨rfl, hs⟩
    have HB1 : Hid (Below w.heap.size w w1) := Below.step HB0.out HB0.out.size hs
    clear hs
    go_wp2_with fail
    go_ret2
    exact ⟨rfl, HB1.out⟩
  | true =>
    rw [hg] at HG
    clear hg hsm
    generalize smallP p = SM at *
    generalize p.1 = pw at *
    generalize p.2.1 = pv at *
    go_enter Tryd.func56, Tryd.ntmps56
    go_wp2_with fail
    refine (HG.out _ HB0.out).mono ?_
    generalize w.alloc (.cells #[.int .i64 pw, .int .i64 pv, .slice sa sn sc, .slice ca cn cc] 44) = w0 at *
    rintro e w1 ⟨rfl, hs⟩
    have HB1 : Hid (Below w.heap.size w w1) := Below.step HB0.out HB0.out.size hs
    have x1 := HX0.out.below hs HX0.out.lt
    obtain ⟨a0, a1, a2, a3⟩ := x1.cells
    have ah := x1.heap
    have al := x1.lt
    clear hs x1 HX0
    go_wp2_with fail
    refine (HS.out _ HB1.out).mono ?_
    rintro e w2 ⟨rfl, hs⟩
    have HB2 : Hid (Below w.heap.size w w2) := HB1.out.trans (hs.mono HB1.out.size)
    clear hs
    go_wp2_with fail
    go_ret2
    exact ⟨rfl, HB2.out⟩
end Go.Proofs.YtjbfembblgkakaaDoor

namespace Go.Proofs.YtjbfembblgkakaaDoor
open Go Go.RowKit
open M
set_option linter.unusedVariables false

set_option maxRecDepth 100000 in
theorem iGoodProg_any (v : Value) (p : Pg) (ok : PgOk p) (w : World) (hT : Tab w) (h : AtProg w v p) :
    Calls Tryd.prog 35 #[v] w fun e w' => e = .returned (.bool (goodP p)) ∧ Below w.heap.size w w' := by
  obtain ⟨sa, sn, sc, ca, cn, cc, rfl⟩ := h.shape
  have HB0 : Hid (Below w.heap.size w (w.alloc (.cells #[.int .i64 p.1, .int .i64 p.2.1, .slice sa sn sc, .slice ca cn cc] 44))) := (Below.refl _ _).alloc (Nat.le_refl _) _
  have g := rootsOf_any _ p ok _ (hT.below HB0.out hT.some) (h.below HB0.out)
  clear h hT ok
  generalize hgp : goodP p = GP at *
  have HGP : Hid _ := hgp
  clear hgp
  have HO : Hid (∀ (w0 : World) e w', RootsOut w0 p e w' → ((GP = true ∧ ∃ P : Nat, e = .returned (ptr P)) ∨ (GP = false ∧ e = .returned (.pointer none))) ∧ Below w0.heap.size w0 w') := fun w0 e w' ho => by
    obtain ⟨h1, h2⟩ := ho
    refine ⟨?_, h2⟩
    rcases h1 with ⟨a, P, x, y, b, _⟩ | ⟨a, b⟩
    · exact Or.inl ⟨HGP.out.symm.trans a, P, b⟩
    · exact Or.inr ⟨HGP.out.symm.trans a, b⟩
  clear HGP
  generalize hro : RootsOut (w.alloc (.cells #[.int .i64 p.1, .int .i64 p.2.1, .slice sa sn sc, .slice ca cn cc] 44)) p = OUT at g
  have HO2 : Hid (∀ e w', OUT e w' → ((GP = true ∧ ∃ P : Nat, e = .returned (ptr P)) ∨ (GP = false ∧ e = .returned (.pointer none))) ∧ Below (w.alloc (.cells #[.int .i64 p.1, .int .i64 p.2.1, .slice sa sn sc, .slice ca cn cc] 44)).heap.size (w.alloc (.cells #[.int .i64 p.1, .int .i64 p.2.1, .slice sa sn sc, .slice ca cn cc] 44)) w') := fun e w' ho => HO.out _ e w' (by rw [hro]; exact ho)
  clear HO hro
  generalize p.1 = pw at *
  generalize p.2.1 = pv at *
  go_enter Tryd.func35, Tryd.ntmps35
  go_wp2_with fail
  refine g.mono ?_
  rintro e w1 ho
  obtain ⟨h1, hs⟩ := HO2.out e w1 ho
  have HB1 : Hid (Below w.heap.size w w1) := Below.step HB0.out HB0.out.size hs
  clear hs ho g HO2 HB0
  rcases h1 with ⟨rfl, P, rfl⟩ | ⟨rfl, rfl⟩
  · go_wp2_with fail
    go_ret
    exact ⟨rfl, HB1.out⟩
  · go_wp2_with fail
    go_ret
    exact ⟨rfl, HB1.out⟩
end Go.Proofs.YtjbfembblgkakaaDoor

namespace Go.Proofs.YtjbfembblgkakaaDoor
open Go Go.RowKit
open M
set_option linter.unusedVariables false

set_option maxRecDepth 100000 in
theorem bits_any (P : Nat) (pw pv M : Int) (x y : Value) (w : World) (h : Box4 w P 144 (.int .i64 pw) (.int .i64 pv) x y) (hM : pw * pv = M) (h0 : 0 ≤ M) (h1 : M ≤ 100000) :
    Calls Tryd.prog 120 #[ptr P] w fun e w' => e = .returned (.int .i64 M) ∧ ∃ n, w' = w.drewN n := by
  obtain ⟨a0, a1, a2, a3⟩ := h.cells
  have ah := h.heap
  have al := h.lt
  have hMw : IntKind.i64.wrap (pw * pv) = M := by rw [hM]; exact IntWalk.i64_in _ ⟨by omega, by omega⟩
  have hMw2 : IntKind.i64.wrap M = M := IntWalk.i64_in _ ⟨by omega, by omega⟩
  clear h
  go_enter Tryd.func120, Tryd.ntmps120
  go_wp2_with fail
  go_quiet (fail)
  go_wp2_with fail
  go_ret
  exact ⟨rfl, _, rfl⟩
theorem below_drew7 (B : Nat) (w : World) (n : Nat) : Below B w (w.drewN n) := ⟨rfl, rfl, rfl, Nat.le_refl _, fun _ _ => rfl⟩
set_option maxRecDepth 100000 in
theorem small_any (P : Nat) (pw pv M : Int) (x y : Value) (w : World) (h : Box4 w P 144 (.int .i64 pw) (.int .i64 pv) x y) (hM : pw * pv = M) (h0 : 0 ≤ M) (h1 : M ≤ 100000) :
    Calls Tryd.prog 115 #[ptr P] w fun e w' => e = .returned (.bool (decide (M ≤ 5))) ∧ Below w.heap.size w w' := by
  have g := bits_any P pw pv M x y w h hM h0 h1
  clear h hM
  go_enter Tryd.func115, Tryd.ntmps115
  go_wp2_with fail
  refine g.mono ?_
  rintro e w1 ⟨rfl, n, hn⟩
  have HB : Hid (Below w.heap.size w w1) := by rw [hn]; exact below_drew7 _ _ _
  clear hn g
  go_wp2_with fail
  go_ret
  exact ⟨rfl, HB.out⟩
set_option maxRecDepth 100000 in
theorem iIsSmall_any (v : Value) (p : Pg) (ok : PgOk p) (w : World) (hT : Tab w) (h : AtProg w v p) :
    Calls Tryd.prog 55 #[v] w fun e w' => e = .returned (.tuple #[.bool (smallP p), .bool (goodP p)]) ∧ Below w.heap.size w w' := by
  obtain ⟨sa, sn, sc, ca, cn, cc, rfl⟩ := h.shape
  have HB0 : Hid (Below w.heap.size w (w.alloc (.cells #[.int .i64 p.1, .int .i64 p.2.1, .slice sa sn sc, .slice ca cn cc] 44))) := (Below.refl _ _).alloc (Nat.le_refl _) _
  have g := rootsOf_any _ p ok _ (hT.below HB0.out hT.some) (h.below HB0.out)
  have hparts := @goodP_parts p
  have hsm : smallP p = (goodP p && decide (p.1 * p.2.1 ≤ 5)) := rfl
  clear h hT ok
  generalize hgp : goodP p = GP at *
  have HGP : Hid _ := hgp
  clear hgp
  have HO : Hid (∀ (w0 : World) e w', RootsOut w0 p e w' → ((GP = true ∧ ∃ (P : Nat) (x y : Value), e = .returned (ptr P) ∧ Box4 w' P 144 (.int .i64 p.1) (.int .i64 p.2.1) x y) ∨ (GP = false ∧ e = .returned (.pointer none))) ∧ Below w0.heap.size w0 w') := fun w0 e w' ho => by
    obtain ⟨h1, h2⟩ := ho
    refine ⟨?_, h2⟩
    rcases h1 with ⟨a, P, x, y, b, _, c⟩ | ⟨a, b⟩
    · exact Or.inl ⟨HGP.out.symm.trans a, P, x, y, b, c⟩
    · exact Or.inr ⟨HGP.out.symm.trans a, b⟩
  clear HGP
  generalize hro : RootsOut (w.alloc (.cells #[.int .i64 p.1, .int .i64 p.2.1, .slice sa sn sc, .slice ca cn cc] 44)) p = OUT at g
  have HO2 : Hid (∀ e w', OUT e w' → ((GP = true ∧ ∃ (P : Nat) (x y : Value), e = .returned (ptr P) ∧ Box4 w' P 144 (.int .i64 p.1) (.int .i64 p.2.1) x y) ∨ (GP = false ∧ e = .returned (.pointer none))) ∧ Below (w.alloc (.cells #[.int .i64 p.1, .int .i64 p.2.1, .slice sa sn sc, .slice ca cn cc] 44)).heap.size (w.alloc (.cells #[.int .i64 p.1, .int .i64 p.2.1, .slice sa sn sc, .slice ca cn cc] 44)) w') := fun e w' ho => HO.out _ e w' (by rw [hro]; exact ho)
  clear HO hro
  have HPT : Hid (GP = true → 1 ≤ p.1 ∧ p.1 ≤ 64 ∧ 1 ≤ p.2.1 ∧ p.2.1 ≤ 4) := fun hg => by
    obtain ⟨_, q0, q1, q2, q3, _⟩ := hparts hg
    exact ⟨q0, q1, q2, q3⟩
  rw [hsm]
  clear hparts hsm
  generalize p.1 = pw at *
  generalize p.2.1 = pv at *
  go_enter Tryd.func55, Tryd.ntmps55
  go_wp2_with fail
  refine g.mono ?_
  rintro e w1 ho
  obtain ⟨h1, hs⟩ := HO2.out e w1 ho
  have HB1 : Hid (Below w.heap.size w w1) := Below.step HB0.out HB0.out.size hs
  clear hs ho g HO2 HB0
  rcases h1 with ⟨rfl, P, x, y, rfl, hbx⟩ | ⟨rfl, rfl⟩
  · obtain ⟨q0, q1, q2, q3⟩ := HPT.out rfl
    have hm0 : 1 ≤ pw * pv := Int.le_trans (by omega : (1 : Int) ≤ 1 * 1) (Int.mul_le_mul q0 q2 (by omega) (by omega))
    have hm1 : pw * pv ≤ 256 := Int.le_trans (Int.mul_le_mul q1 q3 (by omega) (by omega)) (by omega)
    obtain ⟨M, hM⟩ : ∃ M : Int, pw * pv = M := ⟨_, rfl⟩
    have gs := small_any P pw pv M x y w1 hbx hM (by omega) (by omega)
    have HM : Hid (pw * pv = M) := hM
    clear hbx HPT hM hm0 hm1
    go_wp2_with fail
    refine gs.mono ?_
    rintro e w2 ⟨rfl, hs⟩
    have HB2 : Hid (Below w.heap.size w w2) := HB1.out.trans (hs.mono HB1.out.size)
    clear hs gs
    go_wp2_with fail
    go_ret2
    exact ⟨by rw [HM.out]; rfl, HB2.out⟩
  · clear HPT
    go_wp2_with fail
    go_ret2
    exact ⟨rfl, HB1.out⟩
end Go.Proofs.YtjbfembblgkakaaDoor
