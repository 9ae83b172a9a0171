/-
  The model's reader of terms: a leaf, whatever its text is.
-/
import Derived.Test.YtkfplichekebdaaDoorRd2
import Derived.Test.YtkfplichekebdaaDoorFrontM
namespace Go.Proofs.YtkfplichekebdaaDoor
open Go Go.RowKit
open M
set_option linter.unusedVariables false

/-- a leaf -/
theorem leaf_all {w : World} {b Bo : Nat} {wide vars : Int} {long : Nat} {vt vo : Value} {p : Nat} {s : Tx} {l : List M.Tok} {o : List Nd} (h : RdAt w b Bo wide vars long vt vo ((p, s) :: l) o 0 0) (hol : o.length < 1000) (hs : s.length ≤ 800) (hlf : isLeaf s = true) :
    Calls Tryd.prog 72 #[ptr b, tx s] w fun e w' => (∃ nd, leafRd wide vars s = .ok nd ∧ e = .returned (.int .i64 (ownOf nd.1)) ∧ RdTo w w' b Bo vo wide vars long l (o ++ [nd]) 0 0) ∨ (∃ c, leafRd wide vars s = .error c ∧ e = .returned (.int .i64 0) ∧ RdTo w w' b Bo vo wide vars long ((p, s) :: l) o (c : Int) (p : Int)) := by
  match s, h, hs, hlf with
  | ch :: r, h, hs, hlf =>
    cases hd : isDig ch with
    | true =>
      refine (leaf_digit h hol hs hd _ rfl).mono ?_
      rintro e w' (⟨hy, rfl, hr⟩ | ⟨hy, rfl, hr⟩)
      · refine Or.inl ⟨_, ?_, rfl, hr⟩
        simp only [leafRd]
        rw [if_pos hd, if_pos (by simpa using hy)]
      · refine Or.inr ⟨4, ?_, rfl, hr⟩
        simp only [leafRd]
        rw [if_pos hd, if_neg (by intro g; rw [g.1, g.2] at hy; cases hy)]
    | false =>
      have hlet : isLet ch = true := by simpa [isLeaf, hd] using hlf
      have hn := isLet_nat hlet
      by_cases hy : ch :: r = yesL
      · have hy2 : ch :: r = [121, 101, 115] := hy
        simp only [leafRd]
        rw [if_neg (by rw [hd]; decide), if_pos hy]
        rw [hy2] at h ⊢
        exact (leaf_yes h hol).mono fun e w' ⟨he, hr⟩ => Or.inl ⟨_, rfl, he, hr⟩
      · by_cases hno : ch :: r = noL
        · have hy2 : ch :: r = [110, 111] := hno
          simp only [leafRd]
          rw [if_neg (by rw [hd]; decide), if_neg hy, if_pos hno]
          rw [hy2] at h ⊢
          exact (leaf_no h hol).mono fun e w' ⟨he, hr⟩ => Or.inl ⟨_, rfl, he, hr⟩
        · simp only [leafRd]
          rw [if_neg (by rw [hd]; decide), if_neg hy, if_neg hno]
          match r, h, hs, hy, hno with
          | [], h, hs, hy, hno =>
            have e1 : ((ch.toNat - 97 : Nat) : Int) = (ch.toNat : Int) - 97 := by omega
            rw [e1]
            by_cases hv : ((ch.toNat : Int) - 97) < vars
            · rw [if_pos ⟨rfl, hv⟩]
              exact (leaf_var h hol hlet hv).mono fun e w' ⟨he, hr⟩ => Or.inl ⟨_, rfl, he, hr⟩
            · rw [if_neg (fun g => hv g.2)]
              exact (leaf_novar h hol hlet hv).mono fun e w' ⟨he, hr⟩ => Or.inr ⟨5, rfl, he, hr⟩
          | d :: r, h, hs, hy, hno =>
            rw [if_neg (fun g => by simp at g)]
            exact (leaf_word h hol hlet rfl (by simp) hs hy hno).mono fun e w' ⟨he, hr⟩ => Or.inr ⟨5, rfl, he, hr⟩
end Go.Proofs.YtkfplichekebdaaDoor
