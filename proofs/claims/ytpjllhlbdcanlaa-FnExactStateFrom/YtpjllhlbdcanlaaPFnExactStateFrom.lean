/-
  Proved here, as the given row states it: at every wide and every list of bools the program's StateFrom answers as its model, writes into no argument, and its answer owns its memory.
  Conditions: none beyond the form's own.
-/
import Derived.Test.YtpjllhlbdcanlaaBare4
import Derived.Test.YtpjllhlbdcanlaaArgC
import Derived.Test.YtpjllhlbdcanlaaWStateFrom
import Derived.Test.YtpjllhlbdcanlaaStateA
namespace Go.Proofs.Ytpjllhlbdcanlaa.fnExactStateFrom
open Go Go.ChangeShapes Go.WideShapes Go.ChangeAt Go.RowKit
open Go.ChangeMaps (open_string shut_string)
open M
set_option linter.unusedVariables false

set_option maxRecDepth 100000 in
theorem contract (H : Type) (enc : TypeId × Value → H) (W : World) (base : Nat) (args : Array Value) (ds gs : List (DataW H)) (before : List MemPlace)
    (hval : ∀ (j : Nat) t v, Try.f10.params[j]? = some t → args[j]? = some v → Value.okWide Try.prog W .any base t v)
    (hW : DataW.Whole enc Try.prog Try.f10.params.toList Rows.fnExactStateFromSpec.vars false W args.toList ds gs before) (hL : laidMetH Try.prog Rows.fnExactStateFromRow.laid W) :
    Calls Try.prog 10 args W fun e W' => ∃ v, e = .returned v ∧ Rows.fnExactStateFromSpec.post enc Try.prog Try.f10 false true false false W args v W' := by
  have hW' := hW
  obtain ⟨p, q, hA0, hV, rfl, hfz, hnd⟩ := hW
  have hA : DataW.TrodAll enc Try.prog W 0 (fun _ => true) true Try.f10.params.toList args.toList ds p := hA0
  rw [Try.params10] at hA hval
  obtain ⟨v0, vs0, d0, ds0, p0, q0, hargs, rfl, rfl, h0, r0⟩ := trodAll_cons hA
  obtain ⟨v1, vs1, d1, ds1, p1, q1, rfl, rfl, rfl, h1, r1⟩ := trodAll_cons r0
  obtain ⟨rfl, rfl, rfl⟩ := trodAll_nil r1
  obtain rfl : args = #[v0, v1] := by cases args; simp_all
  obtain ⟨wide, rfl, rfl, rfl, wwide⟩ := open_int Try.underlying3 (hval 0 3 v0 rfl rfl) h0
  have bwide := bounds_i64 wwide
  obtain ⟨bitsa, bitsl, bitsc, rfl⟩ := okWide_slice Try.underlying35 (hval 1 35 v1 rfl rfl)
  have lt1 : ∀ x ∈ p1, x.block < W.heap.size := by obtain ⟨m, hm⟩ := h1; exact DataW.trod_lt m _ _ _ hm
  obtain ⟨bitst_, bitsk⟩ := boolsAt_arg h1
  obtain ⟨rfl, rfl⟩ := trodVars_none hV
  clear hA0
  refine (stateFrom_law wide bitst_ _ bwide (stateR wide bitst_) (stateOk wide bitst_) (fun _ => stateR_ok wide bitst_) W bitsk (fun ok s1 w1 hb h => sStateFrom_any wide s1 bitst_ w1 h) (fun ok s1 w1 hb h => iStateFrom_any wide s1 bitst_ w1 h)).mono fun e W' ⟨he, bel⟩ => ?_
  subst he
  exact ⟨_, rfl, _, _, _, [], _, _, hW', trodAll_mk1 (shut_bool Try.underlying4 _), (trodAll_cons_mk (shut_int Try.underlying3 wwide) (trodAll_cons_mk (Below.trod laidOut (by kernel_rfl) (of_decide_eq_true (by kernel_rfl)) h1 bel lt1) (trodAll_mk0))),
    rfl, bel.frame _, fun h => by cases h⟩
theorem reads (os : Os) {H : Type} (enc : TypeId × Value → H) : ∃ places, DataW.whole enc Try.prog ((laidWorld Try.prog os).forCall (fun _ _ => 0) ⟨#[], #[.int .i64 0, .slice none 0 0], []⟩).memory Try.f10.params.toList Rows.fnExactStateFromSpec.vars false (Array.toList #[.int .i64 0, .slice none 0 0]) 8 = some ([.lit (.int .i64 0), .nil], [], places) := by
  have h : (DataW.whole enc Try.prog ((laidWorld Try.prog os).forCall (fun _ _ => 0) ⟨#[], #[.int .i64 0, .slice none 0 0], []⟩).memory Try.f10.params.toList Rows.fnExactStateFromSpec.vars false (Array.toList #[.int .i64 0, .slice none 0 0]) 8).map (fun x => (x.1, x.2.1)) = some ([.lit (.int .i64 0), .nil], []) := by kernel_rfl
  obtain ⟨⟨a, b, c⟩, h1, h2⟩ := Option.map_eq_some_iff.1 h
  simp only [Prod.mk.injEq] at h2
  obtain ⟨rfl, rfl⟩ := h2
  exact ⟨c, h1⟩
theorem laid_met (os : Os) (args : Array Value) : laidMet Try.prog Rows.fnExactStateFromRow.laid ((laidWorld Try.prog os).forCall (fun _ _ => 0) ⟨#[], args, []⟩).memory :=
  laidMet_of_run' 8 (by kernel_rfl) (by kernel_rfl)
set_option maxRecDepth 100000 in
theorem lifted (os : Os) (started : os.Started) (H : Type) (enc : TypeId × Value → H) (F : Stop.Interp) :
    ReturnsInHanded {} Try.checked os 10 .any ((OpenSpec.ofChange Rows.fnExactStateFromSpec).preRow enc Try.prog Try.f10 Rows.fnExactStateFromRow.domain false Rows.fnExactStateFromRow.laid) (((OpenSpec.ofChange Rows.fnExactStateFromSpec).at F).post enc Try.prog Try.f10 false true false false) := by
  obtain ⟨places, hx⟩ := reads os enc
  refine returnsInHanded_of_row (C := Try.checked) (s := OpenSpec.ofChange Rows.fnExactStateFromSpec) own started (by kernel_rfl) Try.func10
    (witness_row_at (enc := enc) (C := Try.checked) false (laidWorld Try.prog os) #[.int .i64 0, .slice none 0 0] rfl (by kernel_rfl) (by kernel_rfl) (by kernel_rfl)
      (OpenSpec.preRow_of_cond 8 hx (by kernel_rfl) (fun k hk => by cases hk) (by kernel_rfl) (laid_met os _))) ?_
  intro W base args ds gs before hval hW _ _ _ hL _ _
  exact contract H enc W base args ds gs before hval hW hL
theorem said : Rows.FnExactStateFromSaid :=
  OpenClaim.holds_of_cond 10 Try.f10 rfl rfl rfl rfl rfl rfl rfl ⟨rfl, rfl, rfl, rfl, rfl⟩ rfl rfl rfl rfl rfl (by kernel_rfl) Try.func10 (by kernel_rfl)
    (of_decide_eq_true (by kernel_rfl)) (by unfold Func.isWrapper; first | (rw [if_pos (by decide +kernel)]; kernel_rfl) | (rw [if_neg (by decide +kernel)]; exact ⟨rfl, rfl⟩))
    (fun os started H enc _ F => by rw [OpenClaim.pre_eq_preRow]; exact lifted os started H enc F)
end Go.Proofs.Ytpjllhlbdcanlaa.fnExactStateFrom
namespace Go.Proofs.Ytpjllhlbdcanlaa
theorem fnExactStateFrom_holds : Rows.FnExactStateFromSaid := fnExactStateFrom.said
#print axioms fnExactStateFrom_holds
end Go.Proofs.Ytpjllhlbdcanlaa
