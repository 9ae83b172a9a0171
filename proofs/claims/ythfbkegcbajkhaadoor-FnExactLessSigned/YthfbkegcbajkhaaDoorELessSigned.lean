/-
  Proved here, as the given card states it: at every wide and both words the program's LessSigned answers as its model.
  Conditions: those of the given row alone: the table of masks reads as the program's text lays it (the card ties that to the text).
-/
import Derived.Test.YthfbkegcbajkhaaDoorTable
namespace Go.Proofs.YthfbkegcbajkhaaDoor.fnExactLessSigned
open Go Go.ChangeShapes Go.WideShapes Go.ChangeAt Go.RowKit
open M
set_option linter.unusedVariables false

theorem walk (n a b : Int) (ha0 : 0 ≤ a) (ha1 : a ≤ 18446744073709551615) (hb0 : 0 ≤ b) (hb1 : b ≤ 18446744073709551615) (w : World) (hT : Tab w) :
    Calls Tryd.prog 15 #[.int .i64 n, .int .u64 a, .int .u64 b] w fun e w' => e = .returned (.bool true) ∧ w'.Alike w := by
  cases hg : (goodB n a && goodB n b) with
  | false =>
    have g1 := sLessSigned_no n a b ha0 ha1 hb0 hb1 w hg
    have g2 := iLessSigned_no n a b w hT hg
    clear hT hg
    go_enter Tryd.func15, Tryd.ntmps15
    go_wp2_with fail
    refine g1.mono ?_
    rintro e w' ⟨rfl, rfl⟩
    go_wp2_with fail
    refine g2.mono ?_
    rintro e w' ⟨rfl, rfl⟩
    go_wp2_with fail
    go_ret
    exact ⟨rfl, rfl, rfl, rfl⟩
  | true =>
    obtain ⟨k, rfl, hk1, hk, ha⟩ := goodB_true (Bool.and_eq_true_iff.1 hg).1
    obtain ⟨k', hkk, _, _, hb⟩ := goodB_true (Bool.and_eq_true_iff.1 hg).2
    obtain rfl : k = k' := by omega
    obtain ⟨j, rfl⟩ : ∃ j, k = j + 1 := ⟨k - 1, by omega⟩
    have e1 : ((j + 1 : Nat) : Int) = (j : Int) + 1 := rfl
    rw [e1] at hg
    rw [e1]
    have g1 := sLessSigned_yes j hk a b ha0 ha hb0 hb w hg
    have g2 := iLessSigned_yes j hk a b ha0 ha hb0 hb w hT hg
    clear hT hg ha ha0 ha1 hb hb0 hb1 e1 hkk
    generalize decide (sgn (j + 1) a < sgn (j + 1) b) = c at *
    cases c
    all_goals
      go_enter Tryd.func15, Tryd.ntmps15
      go_wp2_with fail
      refine g1.mono ?_
      rintro e w' ⟨rfl, rfl⟩
      go_wp2_with fail
      refine g2.mono ?_
      rintro e w' ⟨rfl, rfl⟩
      go_wp2_with fail
      go_ret
      exact ⟨rfl, rfl, rfl, rfl⟩

theorem contract (H : Type) (enc : TypeId × Value → H) (W : World) (base : Nat) (args : Array Value) (ds gs : List (DataW H)) (before : List MemPlace)
    (hval : ∀ (j : Nat) t v, Tryd.f15.params[j]? = some t → args[j]? = some v → Value.okWide Tryd.prog W .any base t v)
    (hW : DataW.Whole enc Tryd.prog Tryd.f15.params.toList Rows.fnExactLessSignedSpec.vars false W args.toList ds gs before) (hL : laidMetH Tryd.prog Rows.fnExactLessSignedRow.laid W) :
    Calls Tryd.prog 15 args W fun e W' => ∃ v, e = .returned v ∧ Rows.fnExactLessSignedSpec.post enc Tryd.prog Tryd.f15 false true false false W args v W' := by
  have hW' := hW
  obtain ⟨p, q, hA0, hV0, rfl, hfz, hnd⟩ := hW
  have hA : DataW.TrodAll enc Tryd.prog W 0 (fun _ => true) true Tryd.f15.params.toList args.toList ds p := hA0
  have hV : DataW.TrodVars enc Tryd.prog W (fun _ => true) [nm] gs q := hV0
  rw [Tryd.params15] at hA hval
  obtain ⟨v0, vs0, d0, ds0, p0, q0, hargs, rfl, rfl, h0, r0⟩ := trodAll_cons hA
  obtain ⟨v1, vs1, d1, ds1, p1, q1, rfl, rfl, rfl, h1, r1⟩ := trodAll_cons r0
  obtain ⟨v2, vs2, d2, ds2, p2, q2, rfl, rfl, rfl, h2, r2⟩ := trodAll_cons r1
  obtain ⟨rfl, rfl, rfl⟩ := trodAll_nil r2
  obtain rfl : args = #[v0, v1, v2] := by cases args; simp_all
  obtain ⟨g, t, cs, fuel, d, p', rfl, hg, ht, hvar, hd, rfl⟩ := trodVars_one hV
  obtain rfl := Option.some.inj (gTab.symm.trans hg)
  obtain rfl := Option.some.inj (gTabType.symm.trans ht)
  have hT := tabIs hL
  obtain rfl : cs = maskCells := Option.some.inj (hvar.symm.trans hT)
  obtain ⟨rfl, rfl⟩ := DataW.Trod.unique (v := .agg maskCells) ⟨fuel, hd⟩ ⟨3, reads_table enc W _⟩
  obtain ⟨n, rfl, rfl, rfl, wn⟩ := open_int Tryd.underlying3 (hval 0 3 v0 rfl rfl) h0
  obtain ⟨a, rfl, rfl, rfl, wa⟩ := open_int Tryd.underlying24 (hval 1 24 v1 rfl rfl) h1
  have ba := bounds_u64 wa
  obtain ⟨b, rfl, rfl, rfl, wb⟩ := open_int Tryd.underlying24 (hval 2 24 v2 rfl rfl) h2
  have bb := bounds_u64 wb
  clear hA0 hV0
  refine (walk n a b ba.1 ba.2 bb.1 bb.2 W (tab_of hT)).mono fun e W' ⟨he, hw⟩ => ?_
  subst he
  exact ⟨_, rfl, ChangeSpec.post_alike (post_of_same (pa := []) hW' (fun _ _ _ => trodAll_cons_mk (shut_bool Tryd.underlying4 _) trodAll_mk0) (fun sp _ => trodAll_cons_mk (shut_int Tryd.underlying3 wn) (trodAll_cons_mk (shut_int Tryd.underlying24 wa) (trodAll_cons_mk (shut_int Tryd.underlying24 wb) (trodAll_mk0)))) (fun sp _ => vars_again enc hT sp) (by simp)
    (World.keptBut_refl _ _) (fun _ => rfl) (ok_one (by kernel_rfl) rfl (okWide_bool_mk Tryd.underlying4 _))) hw⟩
theorem reads (os : Os) {H : Type} (enc : TypeId × Value → H) : ∃ places, DataW.whole enc Tryd.prog ((laidWorld Tryd.prog os).forCall (fun _ _ => 0) ⟨#[], #[.int .i64 0, .int .u64 0, .int .u64 0], []⟩).memory Tryd.f15.params.toList Rows.fnExactLessSignedSpec.vars false (Array.toList #[.int .i64 0, .int .u64 0, .int .u64 0]) 8 = some ([.lit (.int .i64 0), .lit (.int .u64 0), .lit (.int .u64 0)], [tableH], places) :=
  ⟨[] ++ (MemPlace.row ⟨0, 0, none⟩ maskCells.size ++ [] ++ []), by kernel_rfl⟩
set_option maxRecDepth 100000 in
theorem lifted (os : Os) (started : os.Started) (H : Type) (enc : TypeId × Value → H) (F : Stop.Interp) :
    ReturnsInHanded {} Tryd.checked os 15 .any ((OpenSpec.ofChange Rows.fnExactLessSignedSpec).preRow enc Tryd.prog Tryd.f15 Rows.fnExactLessSignedRow.domain false Rows.fnExactLessSignedRow.laid) (((OpenSpec.ofChange Rows.fnExactLessSignedSpec).at F).post enc Tryd.prog Tryd.f15 false true false false) := by
  obtain ⟨places, hx⟩ := reads os enc
  refine returnsInHanded_of_row (C := Tryd.checked) (s := OpenSpec.ofChange Rows.fnExactLessSignedSpec) own started (by kernel_rfl) Tryd.func15
    (witness_row_at (enc := enc) (C := Tryd.checked) false (laidWorld Tryd.prog os) #[.int .i64 0, .int .u64 0, .int .u64 0] rfl (by kernel_rfl) (by kernel_rfl) (by kernel_rfl)
      (OpenSpec.preRow_of_cond 8 hx (by kernel_rfl) (fun k hk => by cases hk) (by kernel_rfl) (laid_met os _))) ?_
  intro W base args ds gs before hval hW _ _ _ hL _ _
  exact contract H enc W base args ds gs before hval hW hL
theorem said : Rows.FnExactLessSignedSaid :=
  OpenClaim.holds_of_cond 15 Tryd.f15 rfl rfl rfl rfl rfl rfl rfl ⟨rfl, rfl, rfl, rfl, rfl⟩ rfl rfl rfl rfl rfl (by kernel_rfl) Tryd.func15 (by kernel_rfl)
    (of_decide_eq_true (by kernel_rfl)) (by unfold Func.isWrapper; first | (rw [if_pos (by decide +kernel)]; kernel_rfl) | (rw [if_neg (by decide +kernel)]; exact ⟨rfl, rfl⟩))
    (fun os started H enc _ F => by rw [OpenClaim.pre_eq_preRow]; exact lifted os started H enc F)
theorem plain (f : FuncId) (fn : Func) (hf : Tryd.pinned.checked.prog.funcNamed Rows.fnExactLessSignedRow.func = some f) (hfn : Tryd.pinned.checked.prog.funcs[f]? = some fn) :
    false = Tryd.pinned.checked.prog.looks [] ∧ ∀ (j : Nat) t, fn.params[j]? = some t → Tryd.pinned.checked.prog.wantsStandIn t = false := by
  obtain rfl : f = 15 := Option.some.inj ((show Tryd.prog.funcNamed Rows.fnExactLessSignedRow.func = some 15 by kernel_rfl).symm.trans hf) |>.symm
  obtain rfl : fn = Tryd.f15 := (Option.some.inj (Tryd.func15.symm.trans hfn)).symm
  refine ⟨by kernel_rfl, fun j t ht => ?_⟩
  rw [Tryd.params15] at ht
  have hm : t ∈ [3, 24, 24] := by simpa using Array.mem_of_getElem? ht
  have hall : ([3, 24, 24].all fun u => !Tryd.prog.wantsStandIn u) = true := by kernel_rfl
  exact (show Tryd.prog.wantsStandIn t = false by simpa using List.all_eq_true.1 hall t hm)
theorem card : Rows.FnExactLessSignedCardSaid :=
  Claim7.holds_tied_plain_at .later [] _ _ _ _ said (fun _ h => by cases h) (by kernel_rfl) (fun _ h => by cases h) fnExactLessSigned_row_tie rfl ⟨rfl, rfl⟩ (by kernel_rfl) rfl plain (by kernel_rfl)
end Go.Proofs.YthfbkegcbajkhaaDoor.fnExactLessSigned
namespace Go.Proofs.YthfbkegcbajkhaaDoor
theorem fnExactLessSigned_holds : Rows.FnExactLessSignedCardSaid := fnExactLessSigned.card
#print axioms fnExactLessSigned_holds
end Go.Proofs.YthfbkegcbajkhaaDoor
