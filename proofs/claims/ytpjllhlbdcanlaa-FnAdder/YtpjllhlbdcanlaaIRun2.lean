/-
  AllWires of the model and of the program, as the law's walk takes them.
-/
import Derived.Test.YtpjllhlbdcanlaaIRun
namespace Go.Proofs.Ytpjllhlbdcanlaa
open Go Go.RowKit
open M
set_option linter.unusedVariables false

theorem wiresL_len (c : Ci) (il : List Bool) (h : il.length ≤ 1048576) : (wiresL c il).length ≤ 1048576 := by
  unfold wiresL
  split
  · rename_i hg
    obtain ⟨_, h1, h2, _⟩ := goodC_ins hg.1
    rw [runG_len]
    omega
  · simp
theorem sAllWires_bs (v iv : Value) (c : Ci) (il : List Bool) (w : World) (h : AtC w v c) (hiv : AtBS w iv il) :
    Calls Try.prog 28 #[v, iv] w fun e w' => ∃ r, e = .returned (.tuple #[r, .bool (wiresB c il)]) ∧ OwnBS w' w.heap.size w'.heap.size r (wiresL c il) ∧ Below w.heap.size w w' := by
  refine (sAllWires_any v iv c il w h hiv).mono ?_
  rintro e w' ⟨r, he, ho, hb⟩
  exact ⟨r, he, rowIn_of ho, hb⟩
theorem iAllWires_bs (v iv : Value) (c : Ci) (il : List Bool) (w : World) (h : AtC w v c) (hiv : AtBS w iv il) :
    Calls Try.prog 27 #[v, iv] w fun e w' => ∃ r, e = .returned (.tuple #[r, .bool (wiresB c il)]) ∧ OwnBS w' w.heap.size w'.heap.size r (wiresL c il) ∧ Below w.heap.size w w' := by
  refine (iAllWires_any v iv c il w h hiv).mono ?_
  rintro e w' ⟨r, he, ho, hb⟩
  exact ⟨r, he, rowIn_of ho, hb⟩
end Go.Proofs.Ytpjllhlbdcanlaa
