/-
  Proved here, as the given card states it: at every wide, number of variables and list of nodes the program's FoldTerm answers as its model, writes into no argument, and its answer owns its memory.
  Conditions: those of the given row alone: the table of masks reads as the program's text lays it (the card ties that to the text).
-/
import Derived.Test.YtjbfembblgkakaaDoorTable
import Derived.Test.YtjbfembblgkakaaDoorArgNodes
import Derived.Test.YtjbfembblgkakaaDoorLFold
import Derived.Test.YtjbfembblgkakaaDoorKV21
import Derived.OpenVars
import Derived.ChangeOld
namespace Go.Proofs.YtjbfembblgkakaaDoor.fnExactFoldTerm
open Go Go.ChangeShapes Go.WideShapes Go.ChangeAt Go.RowKit
open M
set_option linter.unusedVariables false

theorem laidOut : laidOutB Tryd.prog = true := by kernel_rfl
set_option maxRecDepth 100000 in
theorem contract (H : Type) (enc : TypeId × Value → H) (W : World) (base : Nat) (args : Array Value) (ds gs : List (DataW H)) (before : List MemPlace)
    (hval : ∀ (j : Nat) t v, Tryd.f8.params[j]? = some t → args[j]? = some v → Value.okWide Tryd.prog W .any base t v)
    (hW : DataW.Whole enc Tryd.prog Tryd.f8.params.toList Rows.fnExactFoldTermSpec.vars false W args.toList ds gs before) (hL : laidMetH Tryd.prog Rows.fnExactFoldTermRow.laid W) :
    Calls Tryd.prog 8 args W fun e W' => ∃ v, e = .returned v ∧ Rows.fnExactFoldTermSpec.post enc Tryd.prog Tryd.f8 false true false false W args v W' := by
  have hW' := hW
  obtain ⟨p, q, hA0, hV0, rfl, hfz, hnd⟩ := hW
  have hA : DataW.TrodAll enc Tryd.prog W 0 (fun _ => true) true Tryd.f8.params.toList args.toList ds p := hA0
  have hV : DataW.TrodVars enc Tryd.prog W (fun _ => true) [nm] gs q := hV0
  rw [Tryd.params8] at hA hval
  obtain ⟨v0, vs0, d0, ds0, p0, q0, hargs, rfl, rfl, h0, r0⟩ := trodAll_cons hA
  obtain ⟨v1, vs1, d1, ds1, p1, q1, rfl, rfl, rfl, h1, r1⟩ := trodAll_cons r0
  obtain ⟨v2, vs2, d2, ds2, p2, q2, rfl, rfl, rfl, h2, r2⟩ := trodAll_cons r1
  obtain ⟨rfl, rfl, rfl⟩ := trodAll_nil r2
  obtain rfl : args = #[v0, v1, v2] := by cases args; simp_all
  obtain ⟨wide, rfl, rfl, rfl, wwide⟩ := open_int Tryd.underlying3 (hval 0 3 v0 rfl rfl) h0
  have bwide := bounds_i64 wwide
  obtain ⟨vars, rfl, rfl, rfl, wvars⟩ := open_int Tryd.underlying3 (hval 1 3 v1 rfl rfl) h1
  have bvars := bounds_i64 wvars
  obtain ⟨ta, tl, tc, rfl⟩ := okWide_slice Tryd.underlying76 (hval 2 76 v2 rfl rfl)
  have lt2 : ∀ x ∈ p2, x.block < W.heap.size := by obtain ⟨m, hm⟩ := h2; exact DataW.trod_lt m _ _ _ hm
  obtain ⟨tt_, tk⟩ := nodesAt_of h2
  have hT := tabIs hL
  obtain ⟨g1, rfl⟩ : ∃ g1, gs = [g1] := by
    obtain ⟨g, t, cs, fuel, d, p', rfl, _⟩ := trodVars_one hV
    exact ⟨_, rfl⟩
  clear hA0 hV0
  refine (foldTerm_law impl_FoldTerm wide vars bwide.1 bwide.2 bvars.1 bvars.2 _ tt_ W (tab_of hT) tk).mono fun e W' ⟨he, bel⟩ => ?_
  subst he
  exact ⟨_, rfl, _, _, _, [], _, _, hW', trodAll_mk1 (shut_bool Tryd.underlying4 _), (trodAll_cons_mk (shut_int Tryd.underlying3 wwide) (trodAll_cons_mk (shut_int Tryd.underlying3 wvars) (trodAll_cons_mk (Below.trod laidOut (by kernel_rfl) (of_decide_eq_true (by kernel_rfl)) h2 bel lt2) (trodAll_mk0)))),
    Below.trodVars laidOut bel (by kernel_rfl) hV, bel.frame _, fun h => by cases h⟩
theorem reads (os : Os) {H : Type} (enc : TypeId × Value → H) : ∃ places, DataW.whole enc Tryd.prog ((laidWorld Tryd.prog os).forCall (fun _ _ => 0) ⟨#[], #[.int .i64 0, .int .i64 0, .slice none 0 0], []⟩).memory Tryd.f8.params.toList Rows.fnExactFoldTermSpec.vars false (Array.toList #[.int .i64 0, .int .i64 0, .slice none 0 0]) 8 = some ([.lit (.int .i64 0), .lit (.int .i64 0), .nil], [tableH], places) :=
  ⟨[] ++ (MemPlace.row ⟨0, 0, none⟩ maskCells.size ++ [] ++ []), by kernel_rfl⟩
set_option maxRecDepth 100000 in
theorem lifted (os : Os) (started : os.Started) (H : Type) (enc : TypeId × Value → H) (F : Stop.Interp) :
    ReturnsInHanded {} Tryd.checked os 8 .any ((OpenSpec.ofChange Rows.fnExactFoldTermSpec).preRow enc Tryd.prog Tryd.f8 Rows.fnExactFoldTermRow.domain false Rows.fnExactFoldTermRow.laid) (((OpenSpec.ofChange Rows.fnExactFoldTermSpec).at F).post enc Tryd.prog Tryd.f8 false true false false) := by
  obtain ⟨places, hx⟩ := reads os enc
  refine returnsInHanded_of_row (C := Tryd.checked) (s := OpenSpec.ofChange Rows.fnExactFoldTermSpec) own started (by kernel_rfl) Tryd.func8
    (witness_row_at (enc := enc) (C := Tryd.checked) false (laidWorld Tryd.prog os) #[.int .i64 0, .int .i64 0, .slice none 0 0] rfl (by kernel_rfl) (by kernel_rfl) (by kernel_rfl)
      (OpenSpec.preRow_of_cond 8 hx (by kernel_rfl) (fun k hk => by cases hk) (by kernel_rfl) (laid_met os _))) ?_
  intro W base args ds gs before hval hW _ _ _ hL _ _
  exact contract H enc W base args ds gs before hval hW hL
theorem may : Tryd.pinned.checked.prog.mayEnter = true := by kernel_rfl
theorem lift : (Rows.fnExactFoldTermRow.lifted == Tryd.pinned.checked.prog.liftsFinal) = true := by kernel_rfl
theorem make : (Tryd.pinned.checked.prog.make == some Rows.fnExactFoldTermRow.make) = true := by kernel_rfl
theorem closed : joinedFacts Tryd.pinned.checked.prog 8 Tryd.f8 (OpenSpec.ofChange Rows.fnExactFoldTermSpec).bare Rows.fnExactFoldTermRow = true := by
  unfold joinedFacts
  rw [may, lift, make]
  kernel_rfl
set_option maxRecDepth 100000 in
theorem said : Rows.FnExactFoldTermSaid :=
  OpenClaim.holds_of_cond 8 Tryd.f8 rfl rfl rfl rfl rfl rfl rfl ⟨rfl, rfl, rfl, rfl, rfl⟩ rfl rfl rfl rfl rfl (by kernel_rfl) Tryd.func8 closed
    (of_decide_eq_true (by kernel_rfl)) (by unfold Func.isWrapper; first | (rw [if_pos (by decide +kernel)]; kernel_rfl) | (rw [if_neg (by decide +kernel)]; exact ⟨rfl, rfl⟩))
    (fun os started H enc _ F => by rw [OpenClaim.pre_eq_preRow]; exact lifted os started H enc F)
theorem plain (f : FuncId) (fn : Func) (hf : Tryd.pinned.checked.prog.funcNamed Rows.fnExactFoldTermRow.func = some f) (hfn : Tryd.pinned.checked.prog.funcs[f]? = some fn) :
    false = Tryd.pinned.checked.prog.looks [] ∧ ∀ (j : Nat) t, fn.params[j]? = some t → Tryd.pinned.checked.prog.wantsStandIn t = false := by
  obtain rfl : f = 8 := Option.some.inj ((show Tryd.prog.funcNamed Rows.fnExactFoldTermRow.func = some 8 by kernel_rfl).symm.trans hf) |>.symm
  obtain rfl : fn = Tryd.f8 := (Option.some.inj (Tryd.func8.symm.trans hfn)).symm
  refine ⟨by kernel_rfl, fun j t ht => ?_⟩
  rw [Tryd.params8] at ht
  have hm : t ∈ [3, 3, 76] := by simpa using Array.mem_of_getElem? ht
  have hall : ([3, 3, 76].all fun u => !Tryd.prog.wantsStandIn u) = true := by kernel_rfl
  exact (show Tryd.prog.wantsStandIn t = false by simpa using List.all_eq_true.1 hall t hm)
theorem card : Rows.FnExactFoldTermCardSaid :=
  Claim7.holds_tied_plain_at .later [] _ _ _ _ (said) (fun _ h => by cases h) (by kernel_rfl) (fun _ h => by cases h) fnExactFoldTerm_row_tie rfl ⟨rfl, rfl⟩ (by kernel_rfl) rfl plain (by kernel_rfl)
end Go.Proofs.YtjbfembblgkakaaDoor.fnExactFoldTerm
namespace Go.Proofs.YtjbfembblgkakaaDoor
theorem fnExactFoldTerm_holds : Rows.FnExactFoldTermCardSaid := fnExactFoldTerm.card
#print axioms fnExactFoldTerm_holds
end Go.Proofs.YtjbfembblgkakaaDoor
