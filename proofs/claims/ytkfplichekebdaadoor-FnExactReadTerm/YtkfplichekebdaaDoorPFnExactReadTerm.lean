/-
  Proved here, as the given card states it: at every wide, number of variables and text the program's ReadTerm answers as its model, and its answer owns its memory.
  Conditions: those of the given row alone: a table of the library's, the library's ErrRange, the library's ErrSyntax, the library's table of powers of ten, the table of masks, the table of signs read as the program's text lays it (the card ties that to the text).
-/
import Derived.Test.YtkfplichekebdaaDoorTables
import Derived.Test.YtkfplichekebdaaDoorKEReadTerm2
namespace Go.Proofs.YtkfplichekebdaaDoor.fnExactReadTerm
open Go Go.ChangeShapes Go.WideShapes Go.ChangeAt Go.RowKit
open Go.ChangeMaps (open_string shut_string)
open M
set_option linter.unusedVariables false

set_option maxRecDepth 100000 in
theorem contract (H : Type) (enc : TypeId × Value → H) (W : World) (base : Nat) (args : Array Value) (ds gs : List (DataW H)) (before : List MemPlace)
    (hval : ∀ (j : Nat) t v, Tryd.f7.params[j]? = some t → args[j]? = some v → Value.okWide Tryd.prog W .any base t v)
    (hW : DataW.Whole enc Tryd.prog Tryd.f7.params.toList Rows.fnExactReadTermSpec.vars false W args.toList ds gs before) (hL : laidMetH Tryd.prog Rows.fnExactReadTermRow.laid W) :
    Calls Tryd.prog 7 args W fun e W' => ∃ v, e = .returned v ∧ Rows.fnExactReadTermSpec.post enc Tryd.prog Tryd.f7 false true false false W args v W' := by
  have hW' := hW
  obtain ⟨p, q, hA0, hV, rfl, hfz, hnd⟩ := hW
  have hA : DataW.TrodAll enc Tryd.prog W 0 (fun _ => true) true Tryd.f7.params.toList args.toList ds p := hA0
  rw [Tryd.params7] at hA hval
  obtain ⟨v0, vs0, d0, ds0, p0, q0, hargs, rfl, rfl, h0, r0⟩ := trodAll_cons hA
  obtain ⟨v1, vs1, d1, ds1, p1, q1, rfl, rfl, rfl, h1, r1⟩ := trodAll_cons r0
  obtain ⟨v2, vs2, d2, ds2, p2, q2, rfl, rfl, rfl, h2, r2⟩ := trodAll_cons r1
  obtain ⟨rfl, rfl, rfl⟩ := trodAll_nil r2
  obtain rfl : args = #[v0, v1, v2] := by cases args; simp_all
  obtain ⟨wide, rfl, rfl, rfl, wwide⟩ := open_int Tryd.underlying3 (hval 0 3 v0 rfl rfl) h0
  have bwide := bounds_i64 wwide
  obtain ⟨vars, rfl, rfl, rfl, wvars⟩ := open_int Tryd.underlying3 (hval 1 3 v1 rfl rfl) h1
  have bvars := bounds_i64 wvars
  obtain ⟨sb, rfl, rfl, rfl, ws⟩ := open_string Tryd.underlying9 (hval 2 9 v2 rfl rfl) h2
  obtain ⟨s, rfl⟩ : ∃ s : Tx, sb = ⟨s.toArray⟩ := ⟨sb.data.toList, by simp⟩
  have bs : s.length ≤ 9223372036854775807 := by have h := ws; unfold maxLen at h; simpa [ByteArray.size] using h
  have hL' : laidMet Tryd.prog Rows.fnExactReadTermRow.laid W := hL
  have hPow := pow_of (laid_tail (laid_tail hL'))
  have hRange := range_of (laid_tail (laid_tail (laid_tail hL')))
  have hSyntax := syntax_of (laid_tail (laid_tail (laid_tail (laid_tail hL'))))
  have hMasks := masks_of (laid_tail (laid_tail (laid_tail (laid_tail (laid_tail hL')))))
  have hSigns := signs_of (laid_tail (laid_tail (laid_tail (laid_tail (laid_tail (laid_tail hL'))))))
  obtain ⟨g1, g2, rfl⟩ : ∃ g1 g2, gs = [g1, g2] := by
    obtain ⟨_, _, _, _, d0, _, _, _, _, _, d1, _, rfl, _⟩ := trodVars_two hV
    exact ⟨_, _, rfl⟩
  clear hA0
  refine (readTerm_law wide vars s bs W ⟨hMasks, hSigns, hPow, hRange, hSyntax⟩).mono fun e W' ⟨he, bel⟩ => ?_
  subst he
  exact ⟨_, rfl, _, _, _, [], _, _, hW', trodAll_mk1 (shut_bool Tryd.underlying4 _), (trodAll_cons_mk (shut_int Tryd.underlying3 wwide) (trodAll_cons_mk (shut_int Tryd.underlying3 wvars) (trodAll_cons_mk (shut_string Tryd.underlying9 ws) (trodAll_mk0)))),
    Below.trodVars laidOut bel (by kernel_rfl) hV, bel.frame _, fun h => by cases h⟩
theorem reads (os : Os) {H : Type} (enc : TypeId × Value → H) : ∃ places, DataW.whole enc Tryd.prog ((laidWorld Tryd.prog os).forCall (fun _ _ => 0) ⟨#[], #[.int .i64 0, .int .i64 0, .string ⟨#[]⟩], []⟩).memory Tryd.f7.params.toList Rows.fnExactReadTermSpec.vars false (Array.toList #[.int .i64 0, .int .i64 0, .string ⟨#[]⟩]) 8 = some ([.lit (.int .i64 0), .lit (.int .i64 0), .lit (.string [])], [signsH, masksH], places) := by
  have h : (DataW.whole enc Tryd.prog ((laidWorld Tryd.prog os).forCall (fun _ _ => 0) ⟨#[], #[.int .i64 0, .int .i64 0, .string ⟨#[]⟩], []⟩).memory Tryd.f7.params.toList Rows.fnExactReadTermSpec.vars false (Array.toList #[.int .i64 0, .int .i64 0, .string ⟨#[]⟩]) 8).map (fun x => (x.1, x.2.1)) = some ([.lit (.int .i64 0), .lit (.int .i64 0), .lit (.string [])], [signsH, masksH]) := by kernel_rfl
  obtain ⟨⟨a, b, c⟩, h1, h2⟩ := Option.map_eq_some_iff.1 h
  simp only [Prod.mk.injEq] at h2
  obtain ⟨rfl, rfl⟩ := h2
  exact ⟨c, h1⟩
theorem laid_met (os : Os) (args : Array Value) : laidMet Tryd.prog Rows.fnExactReadTermRow.laid ((laidWorld Tryd.prog os).forCall (fun _ _ => 0) ⟨#[], args, []⟩).memory :=
  laidMet_of_run' 8 (by kernel_rfl) (by kernel_rfl)
set_option maxRecDepth 100000 in
theorem lifted (os : Os) (started : os.Started) (H : Type) (enc : TypeId × Value → H) (F : Stop.Interp) :
    ReturnsInHanded {} Tryd.checked os 7 .any ((OpenSpec.ofChange Rows.fnExactReadTermSpec).preRow enc Tryd.prog Tryd.f7 Rows.fnExactReadTermRow.domain false Rows.fnExactReadTermRow.laid) (((OpenSpec.ofChange Rows.fnExactReadTermSpec).at F).post enc Tryd.prog Tryd.f7 false true false false) := by
  obtain ⟨places, hx⟩ := reads os enc
  refine returnsInHanded_of_row (C := Tryd.checked) (s := OpenSpec.ofChange Rows.fnExactReadTermSpec) own started (by kernel_rfl) Tryd.func7
    (witness_row_at (enc := enc) (C := Tryd.checked) false (laidWorld Tryd.prog os) #[.int .i64 0, .int .i64 0, .string ⟨#[]⟩] rfl (by kernel_rfl) (by kernel_rfl) (by kernel_rfl)
      (OpenSpec.preRow_of_cond 8 hx (by kernel_rfl) (fun k hk => by cases hk) (by kernel_rfl) (laid_met os _))) ?_
  intro W base args ds gs before hval hW _ _ _ hL _ _
  exact contract H enc W base args ds gs before hval hW hL
theorem said : Rows.FnExactReadTermSaid :=
  OpenClaim.holds_of_cond 7 Tryd.f7 rfl rfl rfl rfl rfl rfl rfl ⟨rfl, rfl, rfl, rfl, rfl⟩ rfl rfl rfl rfl rfl (by kernel_rfl) Tryd.func7 (by kernel_rfl)
    (of_decide_eq_true (by kernel_rfl)) (by unfold Func.isWrapper; first | (rw [if_pos (by decide +kernel)]; kernel_rfl) | (rw [if_neg (by decide +kernel)]; exact ⟨rfl, rfl⟩))
    (fun os started H enc _ F => by rw [OpenClaim.pre_eq_preRow]; exact lifted os started H enc F)
theorem plain (f : FuncId) (fn : Func) (hf : Tryd.pinned.checked.prog.funcNamed Rows.fnExactReadTermRow.func = some f) (hfn : Tryd.pinned.checked.prog.funcs[f]? = some fn) :
    true = Tryd.pinned.checked.prog.looks [] ∧ ∀ (j : Nat) t, fn.params[j]? = some t → Tryd.pinned.checked.prog.wantsStandIn t = false := by
  obtain rfl : f = 7 := Option.some.inj ((show Tryd.prog.funcNamed Rows.fnExactReadTermRow.func = some 7 by kernel_rfl).symm.trans hf) |>.symm
  obtain rfl : fn = Tryd.f7 := (Option.some.inj (Tryd.func7.symm.trans hfn)).symm
  refine ⟨by kernel_rfl, fun j t ht => ?_⟩
  rw [Tryd.params7] at ht
  have hm : t ∈ [3, 3, 9] := by simpa using Array.mem_of_getElem? ht
  have hall : ([3, 3, 9].all fun u => !Tryd.prog.wantsStandIn u) = true := by kernel_rfl
  exact (show Tryd.prog.wantsStandIn t = false by simpa using List.all_eq_true.1 hall t hm)
theorem card : Rows.FnExactReadTermCardSaid :=
  Claim7.holds_tied_plain_at .later [] _ _ _ _ (said) (fun _ h => by cases h) (by kernel_rfl) (fun _ h => by cases h) fnExactReadTerm_row_tie rfl ⟨rfl, rfl⟩ (by kernel_rfl) rfl plain (by kernel_rfl)
end Go.Proofs.YtkfplichekebdaaDoor.fnExactReadTerm
namespace Go.Proofs.YtkfplichekebdaaDoor
theorem fnExactReadTerm_holds : Rows.FnExactReadTermCardSaid := fnExactReadTerm.card
#print axioms fnExactReadTerm_holds
end Go.Proofs.YtkfplichekebdaaDoor
