/-
  Plain mathematics: what is read of tokens stands at their front.
-/
import Derived.Test.YtkfplichekebdaaDoorTextM
namespace Go.Proofs.YtkfplichekebdaaDoor
open Go
open M
set_option linter.unusedVariables false

/-- what is read stands at the front, and has no more nodes than tokens -/
theorem readT_front (wide vars : Int) (long : Nat) : ∀ (f : Nat) (l : List M.Tok) (t : Tr) (r : List M.Tok), readT wide vars long f l = .ok (t, r) → ∃ m, l = m ++ r ∧ t.size ≤ m.length
  | 0, _, _, _, h => by cases h
  | _ + 1, [], _, _, h => by cases h
  | f + 1, x :: q, t, r, h => by
    simp only [readT] at h
    split at h
    · split at h
      · cases h
      · simp only [Except.ok.injEq, Prod.mk.injEq] at h
        obtain ⟨rfl, rfl⟩ := h
        exact ⟨[x], rfl, by simp [Tr.size]⟩
    · split at h
      · split at h
        · cases h
        · rename_i e
          obtain ⟨m, rfl, hm⟩ := readT_front wide vars long f _ _ _ e
          split at h
          · simp only [Except.ok.injEq, Prod.mk.injEq] at h
            obtain ⟨rfl, rfl⟩ := h
            exact ⟨x :: m, rfl, by simp only [Tr.size, List.length_cons]; omega⟩
          · cases h
      · split at h
        · cases h
        · split at h
          · cases h
          · cases h
          · rename_i y r1 e
            obtain ⟨m, rfl, hm⟩ := readT_front wide vars long f _ _ _ e
            split at h
            · cases h
            · split at h
              · cases h
              · cases h
              · rename_i z r2 e2
                obtain ⟨m2, rfl, hm2⟩ := readT_front wide vars long f _ _ _ e2
                split at h
                · cases h
                · split at h
                  · simp only [Except.ok.injEq, Prod.mk.injEq] at h
                    obtain ⟨rfl, rfl⟩ := h
                    refine ⟨x :: (m ++ y :: (m2 ++ [z])), ?_, ?_⟩
                    · simp
                    · simp only [Tr.size, List.length_cons, List.length_append, List.length_nil]; omega
                  · cases h
end Go.Proofs.YtkfplichekebdaaDoor
