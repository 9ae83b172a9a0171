/-
  The kind of a term: the model's l2N and l2Kind.
-/
import Derived.Test.YthamdefkcjfjpaaNeed
import Derived.WalkSmall

namespace Go.Proofs.Ythamdefkcjfjpaa
open Go Go.RowKit
open M
set_option linter.unusedVariables false

/-- numbers that fit -/
def NdOk (x : Nd) : Prop := -9223372036854775808 ≤ x.1 ∧ x.1 ≤ 9223372036854775807 ∧ 0 ≤ x.2 ∧ x.2 ≤ 18446744073709551615
/-- a slice whose elements are these nodes -/
def NodesAt (w : World) (v : Value) (t : List Nd) : Prop :=
  (∀ x ∈ t, NdOk x) ∧ t.length ≤ 9223372036854775807 ∧ ((t = [] ∧ ∃ (a : Option Addr) (cap : Nat), v = .slice a 0 cap) ∨
  ∃ b off cap : Nat, v = .slice (some ⟨b, off, none⟩) t.length cap ∧ b < w.heap.size ∧ ∀ (i : Nat) (x : Nd), t[i]? = some x → w.cell? ⟨b, off + i * 2, none⟩ = some (.int .i64 x.1) ∧ w.cell? ⟨b, off + i * 2 + 1, none⟩ = some (.int .u64 x.2))
theorem NodesAt.below {w w' : World} {v : Value} {t : List Nd} (h : NodesAt w v t) (hb : Below w.heap.size w w') : NodesAt w' v t := by
  obtain ⟨h1, h2, h3⟩ := h
  refine ⟨h1, h2, ?_⟩
  rcases h3 with h | ⟨b, off, cap, hv, hlt, hc⟩
  · exact Or.inl h
  · refine Or.inr ⟨b, off, cap, hv, Nat.lt_of_lt_of_le hlt hb.size, fun i x hx => ?_⟩
    rw [hb.cell (p := ⟨b, off + i * 2, none⟩) hlt, hb.cell (p := ⟨b, off + i * 2 + 1, none⟩) hlt]
    exact hc i x hx
theorem owns_below {w w' : World} {base : Nat} {e : TypeId} {size : Nat} {v : Value} {n : Nat} {xs : List Value} (h : w.ownsRow base e size v n xs) (hb : Below w.heap.size w w') : w'.ownsRow base e size v n xs := by
  obtain ⟨h1, h2⟩ := h
  refine ⟨h1, ?_⟩
  rcases h2 with h2 | ⟨g, cap, cur, hv, hg, hh, r⟩
  · exact Or.inl h2
  · have hlt : g < w.heap.size := by
      by_cases hg' : g < w.heap.size
      · exact hg'
      · rw [Array.getElem?_eq_none (by omega)] at hh
        cases hh
    exact Or.inr ⟨g, cap, cur, hv, hg, by rw [hb.block g hlt]; exact hh, r⟩

theorem infoInt : (Try.prog.info? 3).map (fun i => (i.zero, i.size, i.bytes)) = some (some (.int .i64 0), 1, 8) := by kernel_rfl
theorem foldK_take {wide vars : Int} {t : List Nd} {j : Nat} {x : Nd} {p : List Int} (hx : t[j]? = some x) (h : foldK wide vars (t.take j) [] = some p) :
    foldK wide vars (t.take (j + 1)) [] = stepK wide vars p x := by
  have hj : j < t.length := (List.getElem?_eq_some_iff.1 hx).1
  have e : t.take (j + 1) = t.take j ++ [x] := by
    rw [List.take_add_one, hx]
    rfl
  rw [e, foldK_append, h]
  simp only [Option.bind_some, foldK]
  cases stepK wide vars p x <;> rfl
theorem foldK_none {wide vars : Int} {t : List Nd} {j : Nat} (h : foldK wide vars (t.take j) [] = none) : foldK wide vars t [] = none := by
  have e : t = t.take j ++ t.drop j := (List.take_append_drop j t).symm
  rw [e, foldK_append, h]
  rfl
theorem kind_none {wide vars : Int} {t : List Nd} (h : foldK wide vars t [] = none) : kindL wide vars t = 0 := by
  unfold kindL
  rw [h]
  split <;> rfl
theorem kind_out {wide vars : Int} {t : List Nd} (h : ¬ (wideB wide = true ∧ 1 ≤ vars ∧ vars ≤ 4 ∧ 1 ≤ t.length ∧ t.length ≤ 48)) : kindL wide vars t = 0 := by
  unfold kindL
  rw [if_neg h]

theorem popN_eq (r : Nat) (q : Int) (y : List Int) : popN (r + 1) q (y ++ [q]) = popN r q y := by
  simp [popN]
theorem popN_ne {r : Nat} {q z : Int} {y : List Int} (h : z ≠ q) : popN (r + 1) q (y ++ [z]) = none := by
  simp [popN, h]
theorem step_own {wide vars op n : Int} {p : List Int} (h : ownOf op = 0) : stepK wide vars p (op, n) = none := by
  unfold stepK
  rw [if_pos (Or.inl h)]
theorem step_num {wide vars op n : Int} {p : List Int} (h : okN wide vars op n = false) : stepK wide vars p (op, n) = none := by
  unfold stepK
  rw [if_pos (Or.inr (Or.inl h))]
theorem step_few {wide vars op n : Int} {p : List Int} (h : p.length < manyOf op) : stepK wide vars p (op, n) = none := by
  unfold stepK
  rw [if_pos (Or.inr (Or.inr h))]
theorem step_pop {wide vars op n : Int} {p : List Int} (h1 : ¬ ownOf op = 0) (h2 : okN wide vars op n = true) (h3 : ¬ p.length < manyOf op) : stepK wide vars p (op, n) = (popN (manyOf op) (partOf op) p).map (· ++ [ownOf op]) := by
  unfold stepK
  rw [if_neg]
  rintro (h | h | h)
  · exact h1 h
  · rw [h2] at h
    cases h
  · exact h3 h
theorem kind_stop {wide vars : Int} {t : List Nd} {j : Nat} {x : Nd} {p : List Int} (hx : t[j]? = some x) (h : foldK wide vars (t.take j) [] = some p) (hs : stepK wide vars p x = none) : kindL wide vars t = 0 := by
  apply kind_none
  apply foldK_none (j := j + 1)
  rw [foldK_take hx h, hs]
/-- what is told of the pile at the end -/
def root1 (p : List Int) : Int := if p.length = 1 then p.headD 0 else 0
theorem kind_end {wide vars : Int} {t : List Nd} {p : List Int} (hg : wideB wide = true ∧ 1 ≤ vars ∧ vars ≤ 4 ∧ 1 ≤ t.length ∧ t.length ≤ 48) (h : foldK wide vars (t.take t.length) [] = some p) :
    kindL wide vars t = root1 p := by
  unfold kindL
  rw [if_pos hg]
  rw [List.take_length] at h
  rw [h]
  match p with
  | [] => rfl
  | [k] => rfl
  | _ :: _ :: _ => simp [root1]
end Go.Proofs.Ythamdefkcjfjpaa
