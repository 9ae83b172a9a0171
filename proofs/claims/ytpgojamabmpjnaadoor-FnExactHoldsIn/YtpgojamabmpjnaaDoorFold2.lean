/-
  A folded tree with parts: the model's l2Fold at a node of one part.
-/
import Derived.Test.YtpgojamabmpjnaaDoorFold
import Derived.Test.YtpgojamabmpjnaaDoorJoin
namespace Go.Proofs.YtpgojamabmpjnaaDoor
open Go Go.RowKit
open M
set_option linter.unusedVariables false

theorem OwnNodes.low {w : World} {B C : Nat} {v : Value} {t : List Nd} (h : OwnNodes w B v t) (hc : C ≤ B) : OwnNodes w C v t := by
  obtain ⟨h1, h2⟩ := h
  refine ⟨h1, ?_⟩
  rcases h2 with h2 | ⟨g, cp, cur, hv, hg, r⟩
  · exact Or.inl h2
  · exact Or.inr ⟨g, cp, cur, hv, Nat.le_trans hc hg, r⟩
theorem one_cells2 (w : World) (op n : Int) : ∀ (j : Nat) (u : Value), ([.int .i64 op, .int .u64 n] : List Value)[j]? = some u → (w.alloc (.cells #[.int .i64 op, .int .u64 n] 65)).cell? ((⟨w.heap.size, 0, none⟩ : Addr).add j) = some u := by
  intro j u hu
  match j, hu with
  | 0, hu => simp at hu; subst hu; simp [Addr.add]
  | 1, hu => simp at hu; subst hu; simp [Addr.add]
end Go.Proofs.YtpgojamabmpjnaaDoor
