/-
  Proved here, as the given row states it: at every circuit, any two lists of numbers and every number the program's AddGates answers as its model, writes into no argument, and its answer owns its memory.
  Conditions: none beyond the form's own.
-/
import Derived.Test.YtnagaanagcmdgaaBare4
import Derived.Test.YtnagaanagcmdgaaArgC
import Derived.Test.YtnagaanagcmdgaaWAddGates
import Derived.Test.YtnagaanagcmdgaaKEAddGates1
namespace Go.Proofs.Ytnagaanagcmdgaa.fnExactAddGates
open Go Go.ChangeShapes Go.WideShapes Go.ChangeAt Go.RowKit
open Go.ChangeMaps (open_string shut_string)
open M
set_option linter.unusedVariables false

set_option maxRecDepth 100000 in
theorem contract (H : Type) (enc : TypeId × Value → H) (W : World) (base : Nat) (args : Array Value) (ds gs : List (DataW H)) (before : List MemPlace)
    (hval : ∀ (j : Nat) t v, Try.f11.params[j]? = some t → args[j]? = some v → Value.okWide Try.prog W .any base t v)
    (hW : DataW.Whole enc Try.prog Try.f11.params.toList Rows.fnExactAddGatesSpec.vars false W args.toList ds gs before) (hL : laidMetH Try.prog Rows.fnExactAddGatesRow.laid W) :
    Calls Try.prog 11 args W fun e W' => ∃ v, e = .returned v ∧ Rows.fnExactAddGatesSpec.post enc Try.prog Try.f11 false true false false W args v W' := by
  have hW' := hW
  obtain ⟨p, q, hA0, hV, rfl, hfz, hnd⟩ := hW
  have hA : DataW.TrodAll enc Try.prog W 0 (fun _ => true) true Try.f11.params.toList args.toList ds p := hA0
  rw [Try.params11] at hA hval
  obtain ⟨v0, vs0, d0, ds0, p0, q0, hargs, rfl, rfl, h0, r0⟩ := trodAll_cons hA
  obtain ⟨v1, vs1, d1, ds1, p1, q1, rfl, rfl, rfl, h1, r1⟩ := trodAll_cons r0
  obtain ⟨v2, vs2, d2, ds2, p2, q2, rfl, rfl, rfl, h2, r2⟩ := trodAll_cons r1
  obtain ⟨v3, vs3, d3, ds3, p3, q3, rfl, rfl, rfl, h3, r3⟩ := trodAll_cons r2
  obtain ⟨rfl, rfl, rfl⟩ := trodAll_nil r3
  obtain rfl : args = #[v0, v1, v2, v3] := by cases args; simp_all
  have lt0 : ∀ x ∈ p0, x.block < W.heap.size := by obtain ⟨m, hm⟩ := h0; exact DataW.trod_lt m _ _ _ hm
  obtain ⟨ct_, ck⟩ := circAt_of (hval 0 56 v0 rfl rfl) h0
  obtain ⟨aa, al, ac, rfl⟩ := okWide_slice Try.underlying25 (hval 1 25 v1 rfl rfl)
  have lt1 : ∀ x ∈ p1, x.block < W.heap.size := by obtain ⟨m, hm⟩ := h1; exact DataW.trod_lt m _ _ _ hm
  obtain ⟨at_, ak⟩ := intsAt_arg h1
  obtain ⟨ba, bl, bc, rfl⟩ := okWide_slice Try.underlying25 (hval 2 25 v2 rfl rfl)
  have lt2 : ∀ x ∈ p2, x.block < W.heap.size := by obtain ⟨m, hm⟩ := h2; exact DataW.trod_lt m _ _ _ hm
  obtain ⟨bt_, bk⟩ := intsAt_arg h2
  obtain ⟨carry, rfl, rfl, rfl, wcarry⟩ := open_int Try.underlying3 (hval 3 3 v3 rfl rfl) h3
  have bcarry := bounds_i64 wcarry
  obtain ⟨rfl, rfl⟩ := trodVars_none hV
  clear hA0
  refine (addGates_law ct_ _ at_ _ bt_ _ carry bcarry (addR ct_ at_ bt_ carry) (addS ct_ at_ bt_ carry) (addB ct_ at_ bt_ carry) (fun h _ _ _ => addR_ok ct_ at_ bt_ carry h) (fun _ _ _ _ => addS_len ct_ at_ bt_ carry) W ck ak bk (fun _ _ _ _ c1 a1 b1 w1 h ha hb => sAddGates_any c1 a1 b1 ct_ at_ bt_ carry bcarry w1 h ha hb) (fun _ _ _ _ c1 a1 b1 w1 h ha hb => iAddGates_any c1 a1 b1 ct_ at_ bt_ carry bcarry w1 h ha hb)).mono fun e W' ⟨he, bel⟩ => ?_
  subst he
  exact ⟨_, rfl, _, _, _, [], _, _, hW', trodAll_mk1 (shut_bool Try.underlying4 _), (trodAll_cons_mk (Below.trod laidOut (by kernel_rfl) (of_decide_eq_true (by kernel_rfl)) h0 bel lt0) (trodAll_cons_mk (Below.trod laidOut (by kernel_rfl) (of_decide_eq_true (by kernel_rfl)) h1 bel lt1) (trodAll_cons_mk (Below.trod laidOut (by kernel_rfl) (of_decide_eq_true (by kernel_rfl)) h2 bel lt2) (trodAll_cons_mk (shut_int Try.underlying3 wcarry) (trodAll_mk0))))),
    rfl, bel.frame _, fun h => by cases h⟩
theorem reads (os : Os) {H : Type} (enc : TypeId × Value → H) : ∃ places, DataW.whole enc Try.prog ((laidWorld Try.prog os).forCall (fun _ _ => 0) ⟨#[], #[.agg #[.int .i64 0, .slice none 0 0, .slice none 0 0], .slice none 0 0, .slice none 0 0, .int .i64 0], []⟩).memory Try.f11.params.toList Rows.fnExactAddGatesSpec.vars false (Array.toList #[.agg #[.int .i64 0, .slice none 0 0, .slice none 0 0], .slice none 0 0, .slice none 0 0, .int .i64 0]) 8 = some ([.agg [.lit (.int .i64 0), .nil, .nil], .nil, .nil, .lit (.int .i64 0)], [], places) := by
  have h : (DataW.whole enc Try.prog ((laidWorld Try.prog os).forCall (fun _ _ => 0) ⟨#[], #[.agg #[.int .i64 0, .slice none 0 0, .slice none 0 0], .slice none 0 0, .slice none 0 0, .int .i64 0], []⟩).memory Try.f11.params.toList Rows.fnExactAddGatesSpec.vars false (Array.toList #[.agg #[.int .i64 0, .slice none 0 0, .slice none 0 0], .slice none 0 0, .slice none 0 0, .int .i64 0]) 8).map (fun x => (x.1, x.2.1)) = some ([.agg [.lit (.int .i64 0), .nil, .nil], .nil, .nil, .lit (.int .i64 0)], []) := by kernel_rfl
  obtain ⟨⟨a, b, c⟩, h1, h2⟩ := Option.map_eq_some_iff.1 h
  simp only [Prod.mk.injEq] at h2
  obtain ⟨rfl, rfl⟩ := h2
  exact ⟨c, h1⟩
theorem laid_met (os : Os) (args : Array Value) : laidMet Try.prog Rows.fnExactAddGatesRow.laid ((laidWorld Try.prog os).forCall (fun _ _ => 0) ⟨#[], args, []⟩).memory :=
  laidMet_of_run' 8 (by kernel_rfl) (by kernel_rfl)
set_option maxRecDepth 100000 in
theorem lifted (os : Os) (started : os.Started) (H : Type) (enc : TypeId × Value → H) (F : Stop.Interp) :
    ReturnsInHanded {} Try.checked os 11 .any ((OpenSpec.ofChange Rows.fnExactAddGatesSpec).preRow enc Try.prog Try.f11 Rows.fnExactAddGatesRow.domain false Rows.fnExactAddGatesRow.laid) (((OpenSpec.ofChange Rows.fnExactAddGatesSpec).at F).post enc Try.prog Try.f11 false true false false) := by
  obtain ⟨places, hx⟩ := reads os enc
  refine returnsInHanded_of_row (C := Try.checked) (s := OpenSpec.ofChange Rows.fnExactAddGatesSpec) own started (by kernel_rfl) Try.func11
    (witness_row_at (enc := enc) (C := Try.checked) false (laidWorld Try.prog os) #[.agg #[.int .i64 0, .slice none 0 0, .slice none 0 0], .slice none 0 0, .slice none 0 0, .int .i64 0] rfl (by kernel_rfl) (by kernel_rfl) (by kernel_rfl)
      (OpenSpec.preRow_of_cond 8 hx (by kernel_rfl) (fun k hk => by cases hk) (by kernel_rfl) (laid_met os _))) ?_
  intro W base args ds gs before hval hW _ _ _ hL _ _
  exact contract H enc W base args ds gs before hval hW hL
theorem said : Rows.FnExactAddGatesSaid :=
  OpenClaim.holds_of_cond 11 Try.f11 rfl rfl rfl rfl rfl rfl rfl ⟨rfl, rfl, rfl, rfl, rfl⟩ rfl rfl rfl rfl rfl (by kernel_rfl) Try.func11 (by kernel_rfl)
    (of_decide_eq_true (by kernel_rfl)) (by unfold Func.isWrapper; first | (rw [if_pos (by decide +kernel)]; kernel_rfl) | (rw [if_neg (by decide +kernel)]; exact ⟨rfl, rfl⟩))
    (fun os started H enc _ F => by rw [OpenClaim.pre_eq_preRow]; exact lifted os started H enc F)
end Go.Proofs.Ytnagaanagcmdgaa.fnExactAddGates
namespace Go.Proofs.Ytnagaanagcmdgaa
theorem fnExactAddGates_holds : Rows.FnExactAddGatesSaid := fnExactAddGates.said
#print axioms fnExactAddGates_holds
end Go.Proofs.Ytnagaanagcmdgaa
