/-
  What the laws of terms draw out of bytes.
-/
import Derived.Test.YtkfplichekebdaaGreatDoorDrawC
namespace Go.Proofs.YtkfplichekebdaaGreatDoor
open Go Go.RowKit
open M
set_option linter.unusedVariables false

/-- a drawn list of nodes, its memory new -/
def NodesD (w w' : World) (v : Value) (t : List Nd) : Prop := OwnNodes w' w.heap.size v t ∧ (∀ x ∈ t, NdOk x) ∧ t.length ≤ 31
theorem NodesD.below {w w' w2 : World} {v : Value} {t : List Nd} (h : NodesD w w' v t) (hb : Below w'.heap.size w' w2) : NodesD w w2 v t := ⟨owns_below h.1 hb, h.2⟩
theorem NodesD.at {w w' : World} {v : Value} {t : List Nd} (h : NodesD w w' v t) : NodesAt w' v t := nodes_of_own h.2.1 (by have := h.2.2; omega) h.1
theorem TermD.out {B m : Nat} {sv : Value} {w w0 w' : World} {k : Nat} {vars : Int} {v : Value} {t : List Nd} (h : TermD B w.heap.size m sv w0 w' k vars v t) (h0 : Below w.heap.size w w0) : NodesD w w' v t ∧ Below w.heap.size w w' := by
  obtain ⟨_, _, _, _, h1, h2, h3, h4, _⟩ := h
  exact ⟨⟨OwnNodes.low h1 h0.size, h2, h3⟩, h0.trans (h4.below (Nat.le_refl _) h0.size)⟩
set_option maxRecDepth 100000 in
theorem drawTerm_any (sv : Value) (w : World) (h : CodeOk w.heap.size w sv) :
    Calls Tryz.prog 26 #[sv] w fun e w' => ∃ (k : Nat) (vars : Int) (v : Value) (t : List Nd), e = .returned (.tuple #[.int .i64 (k : Int), .int .i64 vars, v]) ∧ (1 ≤ k ∧ k ≤ 64) ∧ (0 ≤ vars ∧ vars ≤ 5) ∧ NodesD w w' v t ∧ Below w.heap.size w w' := by
  have hc := cur_new w sv h
  have g := term_any _ _ _ sv _ hc (by omega)
  have HB0 : Hid (Below w.heap.size w (w.alloc (.cells #[sv, .int .i64 0, .int .u64 0] 66))) := (Below.refl _ _).alloc (Nat.le_refl _) _
  obtain ⟨sa, sl, sc, rfl⟩ : ∃ sa sl sc, sv = .slice sa sl sc := by
    rcases h with ⟨a, cap, rfl⟩ | ⟨cb, off, len, cap, rfl, _⟩
    · exact ⟨_, _, _, rfl⟩
    · exact ⟨_, _, _, rfl⟩
  clear h hc
  go_enter Tryz.func26, Tryz.ntmps26
  go_wp2_with fail
  refine g.mono ?_
  rintro e w1 ⟨k, vars, v, t, rfl, hd⟩
  have HD : Hid _ := hd
  clear g hd
  go_wp2_with fail
  go_ret3
  obtain ⟨h1, h2⟩ := TermD.out HD.out HB0.out
  exact ⟨k, vars, v, t, rfl, ⟨HD.out.1, HD.out.2.1⟩, ⟨HD.out.2.2.1, HD.out.2.2.2.1⟩, h1, h2⟩
end Go.Proofs.YtkfplichekebdaaGreatDoor
