/-
  The laws' comparisons and marks of circuits.
-/
import Derived.Test.YtmhpnkfibecnmaaDoorOwn2
namespace Go.Proofs.YtmhpnkfibecnmaaDoor
open Go Go.RowKit
open M
set_option linter.unusedVariables false

theorem Box3.grown {w w' : World} {b : Nat} {e : TypeId} {x y z : Value} {row : Option Nat} (h : Box3 w b e x y z) (hg : w.grownBy w' row) (hr : row ≠ some b) : Box3 w' b e x y z := ⟨by rw [hg.block b h.lt (fun e => hr e.symm)]; exact h.heap⟩
theorem markIS_any (v : Value) (c : List Int) (lo hi : Nat) (k : Int) (h1 : c.length ≤ 1048576) (hk0 : 0 ≤ k) (hk : k ≤ 100000000000) (w : World) (h : OwnIS w lo hi v c) :
    Calls Tryd.prog 46 #[v, .int .i64 k] w fun e w' => e = .returned (.int .i64 (k + c.length)) ∧ MarkIS w' lo hi v c k ∧ Touch lo hi w w' := by
  refine (markIntS_any v _ _ _ _ k (by omega) hk0 (by omega) w h.1).mono ?_
  rintro e w' ⟨he, m, gr⟩
  exact ⟨he, RowIn.marked h m gr, touch_of_grown gr (fun k hk => ⟨(own_block h.1 hk).1, h.2.1 k hk⟩)⟩
theorem heldIS_any (v : Value) (c : List Int) (lo hi : Nat) (k : Int) (h1 : c.length ≤ 1048576) (hk0 : 0 ≤ k) (hk : k ≤ 100000000000) (w : World) (h : MarkIS w lo hi v c k) :
    Calls Tryd.prog 47 #[v, .int .i64 k] w fun e w' => e = .returned (.int .i64 (k + c.length)) ∧ Below w.heap.size w w' := by
  refine (heldIntS_any v _ _ _ k (by omega) hk0 (by omega) w h.1).mono ?_
  rintro e w' ⟨he, rfl⟩
  exact ⟨he, Below.refl _ _⟩
end Go.Proofs.YtmhpnkfibecnmaaDoor
