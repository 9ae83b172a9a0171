/-
  Proved here, as the given row states it: at every lasso and place the program's StutterAt answers as its model; it writes into no argument, and its answer owns its memory.
  Conditions: none beyond the form's own.
-/
import Derived.Test.YthamdefkcjfjpaaBare4
import Derived.Test.YthamdefkcjfjpaaArgC
import Derived.Test.YthamdefkcjfjpaaWStutterAt
import Derived.Test.YthamdefkcjfjpaaKL73
import Derived.Test.YthamdefkcjfjpaaKL71
namespace Go.Proofs.Ythamdefkcjfjpaa.fnExactStutterAt
open Go Go.ChangeShapes Go.WideShapes Go.ChangeAt Go.RowKit
open Go.ChangeMaps (open_string shut_string)
open M
set_option linter.unusedVariables false

set_option maxRecDepth 100000 in
theorem contract (H : Type) (enc : TypeId × Value → H) (W : World) (base : Nat) (args : Array Value) (ds gs : List (DataW H)) (before : List MemPlace)
    (hval : ∀ (j : Nat) t v, Try.f12.params[j]? = some t → args[j]? = some v → Value.okWide Try.prog W .any base t v)
    (hW : DataW.Whole enc Try.prog Try.f12.params.toList Rows.fnExactStutterAtSpec.vars false W args.toList ds gs before) (hL : laidMetH Try.prog Rows.fnExactStutterAtRow.laid W) :
    Calls Try.prog 12 args W fun e W' => ∃ v, e = .returned v ∧ Rows.fnExactStutterAtSpec.post enc Try.prog Try.f12 false true false false W args v W' := by
  have hW' := hW
  obtain ⟨p, q, hA0, hV, rfl, hfz, hnd⟩ := hW
  have hA : DataW.TrodAll enc Try.prog W 0 (fun _ => true) true Try.f12.params.toList args.toList ds p := hA0
  rw [Try.params12] at hA hval
  obtain ⟨v0, vs0, d0, ds0, p0, q0, hargs, rfl, rfl, h0, r0⟩ := trodAll_cons hA
  obtain ⟨v1, vs1, d1, ds1, p1, q1, rfl, rfl, rfl, h1, r1⟩ := trodAll_cons r0
  obtain ⟨rfl, rfl, rfl⟩ := trodAll_nil r1
  obtain rfl : args = #[v0, v1] := by cases args; simp_all
  have lt0 : ∀ x ∈ p0, x.block < W.heap.size := by obtain ⟨m, hm⟩ := h0; exact DataW.trod_lt m _ _ _ hm
  obtain ⟨lt_, lk⟩ := lassoAt_of (hval 0 44 v0 rfl rfl) h0
  obtain ⟨k, rfl, rfl, rfl, wk⟩ := open_int Try.underlying3 (hval 1 3 v1 rfl rfl) h1
  have bk := bounds_i64 wk
  obtain ⟨rfl, rfl⟩ := trodVars_none hV
  clear hA0
  refine (stutterAt_law lt_ _ k bk (stutR lt_ k) (stutB lt_ k) (fun _ _ => stutR_ok lt_ k) W lk (fun ok _ s1 w1 hb h => sStutterAt_any s1 lt_ k w1 h) (fun ok _ s1 w1 hb h => iStutterAt_any s1 lt_ k w1 h.at)).mono fun e W' ⟨he, bel⟩ => ?_
  subst he
  exact ⟨_, rfl, _, _, _, [], _, _, hW', trodAll_mk1 (shut_bool Try.underlying4 _), (trodAll_cons_mk (Below.trod laidOut (by kernel_rfl) (of_decide_eq_true (by kernel_rfl)) h0 bel lt0) (trodAll_cons_mk (shut_int Try.underlying3 wk) (trodAll_mk0))),
    rfl, bel.frame _, fun h => by cases h⟩
theorem reads (os : Os) {H : Type} (enc : TypeId × Value → H) : ∃ places, DataW.whole enc Try.prog ((laidWorld Try.prog os).forCall (fun _ _ => 0) ⟨#[], #[.agg #[.slice none 0 0, .slice none 0 0], .int .i64 0], []⟩).memory Try.f12.params.toList Rows.fnExactStutterAtSpec.vars false (Array.toList #[.agg #[.slice none 0 0, .slice none 0 0], .int .i64 0]) 8 = some ([.agg [.nil, .nil], .lit (.int .i64 0)], [], places) := by
  have h : (DataW.whole enc Try.prog ((laidWorld Try.prog os).forCall (fun _ _ => 0) ⟨#[], #[.agg #[.slice none 0 0, .slice none 0 0], .int .i64 0], []⟩).memory Try.f12.params.toList Rows.fnExactStutterAtSpec.vars false (Array.toList #[.agg #[.slice none 0 0, .slice none 0 0], .int .i64 0]) 8).map (fun x => (x.1, x.2.1)) = some ([.agg [.nil, .nil], .lit (.int .i64 0)], []) := by kernel_rfl
  obtain ⟨⟨a, b, c⟩, h1, h2⟩ := Option.map_eq_some_iff.1 h
  simp only [Prod.mk.injEq] at h2
  obtain ⟨rfl, rfl⟩ := h2
  exact ⟨c, h1⟩
theorem laid_met (os : Os) (args : Array Value) : laidMet Try.prog Rows.fnExactStutterAtRow.laid ((laidWorld Try.prog os).forCall (fun _ _ => 0) ⟨#[], args, []⟩).memory :=
  laidMet_of_run' 8 (by kernel_rfl) (by kernel_rfl)
set_option maxRecDepth 100000 in
theorem lifted (os : Os) (started : os.Started) (H : Type) (enc : TypeId × Value → H) (F : Stop.Interp) :
    ReturnsInHanded {} Try.checked os 12 .any ((OpenSpec.ofChange Rows.fnExactStutterAtSpec).preRow enc Try.prog Try.f12 Rows.fnExactStutterAtRow.domain false Rows.fnExactStutterAtRow.laid) (((OpenSpec.ofChange Rows.fnExactStutterAtSpec).at F).post enc Try.prog Try.f12 false true false false) := by
  obtain ⟨places, hx⟩ := reads os enc
  refine returnsInHanded_of_row (C := Try.checked) (s := OpenSpec.ofChange Rows.fnExactStutterAtSpec) own started (by kernel_rfl) Try.func12
    (witness_row_at (enc := enc) (C := Try.checked) false (laidWorld Try.prog os) #[.agg #[.slice none 0 0, .slice none 0 0], .int .i64 0] rfl (by kernel_rfl) (by kernel_rfl) (by kernel_rfl)
      (OpenSpec.preRow_of_cond 8 hx (by kernel_rfl) (fun k hk => by cases hk) (by kernel_rfl) (laid_met os _))) ?_
  intro W base args ds gs before hval hW _ _ _ hL _ _
  exact contract H enc W base args ds gs before hval hW hL
theorem may : Try.pinned.checked.prog.mayEnter = true := by kernel_rfl
theorem lift : (Rows.fnExactStutterAtRow.lifted == Try.pinned.checked.prog.liftsFinal) = true := by kernel_rfl
theorem make : (Try.pinned.checked.prog.make == some Rows.fnExactStutterAtRow.make) = true := by kernel_rfl
theorem closed : joinedFacts Try.pinned.checked.prog 12 Try.f12 (OpenSpec.ofChange Rows.fnExactStutterAtSpec).bare Rows.fnExactStutterAtRow = true := by
  unfold joinedFacts
  rw [may, lift, make]
  kernel_rfl
set_option maxRecDepth 100000 in
theorem said : Rows.FnExactStutterAtSaid :=
  OpenClaim.holds_of_cond 12 Try.f12 rfl rfl rfl rfl rfl rfl rfl ⟨rfl, rfl, rfl, rfl, rfl⟩ rfl rfl rfl rfl rfl (by kernel_rfl) Try.func12 closed
    (of_decide_eq_true (by kernel_rfl)) (by unfold Func.isWrapper; first | (rw [if_pos (by decide +kernel)]; kernel_rfl) | (rw [if_neg (by decide +kernel)]; exact ⟨rfl, rfl⟩))
    (fun os started H enc _ F => by rw [OpenClaim.pre_eq_preRow]; exact lifted os started H enc F)
end Go.Proofs.Ythamdefkcjfjpaa.fnExactStutterAt
namespace Go.Proofs.Ythamdefkcjfjpaa
theorem fnExactStutterAt_holds : Rows.FnExactStutterAtSaid := fnExactStutterAt.said
#print axioms fnExactStutterAt_holds
end Go.Proofs.Ythamdefkcjfjpaa
