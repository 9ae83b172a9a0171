/-
  Terms that are turned or joined: the model's l2Made, TurnTerm and JoinTerms.
-/
import Derived.Test.YtmhpnkfibecnmaaDoorMarks
namespace Go.Proofs.YtmhpnkfibecnmaaDoor
open Go Go.RowKit
open M
set_option linter.unusedVariables false

/-- an answer that owns its memory: these nodes, from block B on -/
def OwnNodes (w : World) (B : Nat) (v : Value) (t : List Nd) : Prop := w.ownsRow B 159 2 v t.length (flat t)
def madeL (wide vars : Int) (t : List Nd) : List Nd := if 0 < kindL wide vars t then t else []
def turnL (wide vars op : Int) (a : List Nd) : List Nd := if manyOf op = 1 ∧ kindL wide vars a = partOf op then madeL wide vars (a ++ [(op, 0)]) else []
def joinL (wide vars op : Int) (a b : List Nd) : List Nd := if manyOf op = 2 ∧ kindL wide vars a = partOf op ∧ kindL wide vars b = partOf op then madeL wide vars (a ++ b ++ [(op, 0)]) else []
theorem own_empty (w : World) : OwnNodes (w.alloc (.cells #[] 159)) w.heap.size (.slice (some ⟨w.heap.size, 0, none⟩) 0 0) [] := by
  refine ⟨rfl, Or.inr ⟨w.heap.size, 0, #[], rfl, Nat.le_refl _, ?_, Nat.le_refl _, by unfold maxLen; omega, rfl, rfl⟩⟩
  show (w.heap.push _)[w.heap.size]? = _
  simp
theorem flat_one (t : List Nd) : ∀ u ∈ flat t, u.oneCell' = true := by
  induction t with
  | nil => intro u hu; cases hu
  | cons x t ih =>
    intro u hu
    simp only [flat, List.mem_cons] at hu
    rcases hu with rfl | rfl | hu
    · rfl
    · rfl
    · exact ih u hu
theorem flat_from {w : World} {b off : Nat} {t : List Nd} (hc : ∀ (i : Nat) (x : Nd), t[i]? = some x → w.cell? ⟨b, off + i * 2, none⟩ = some (.int .i64 x.1) ∧ w.cell? ⟨b, off + i * 2 + 1, none⟩ = some (.int .u64 x.2)) :
    ∀ (j : Nat) (u : Value), (flat t)[j]? = some u → w.cell? ((⟨b, off, none⟩ : Addr).add j) = some u := by
  intro j u hu
  have hj : j < t.length * 2 := by
    have h := (List.getElem?_eq_some_iff.1 hu).1
    rw [flat_len] at h
    exact h
  obtain ⟨x, hx⟩ : ∃ x, t[j / 2]? = some x := ⟨t[j / 2]'(by omega), List.getElem?_eq_getElem (by omega)⟩
  obtain ⟨c0, c1⟩ := hc (j / 2) x hx
  have ea : (⟨b, off, none⟩ : Addr).add j = ⟨b, off + j, none⟩ := by
    unfold Addr.add
    by_cases h0 : j = 0
    · subst h0
      simp
    · simp [h0]
  rw [ea]
  rcases Nat.mod_two_eq_zero_or_one j with h | h
  · have e : j / 2 * 2 = j := by omega
    have f0 := flat_at0 t (j / 2) x hx
    rw [e] at f0 c0
    rw [f0] at hu
    rw [c0]
    exact hu
  · have e : j / 2 * 2 + 1 = j := by omega
    have f1 := flat_at1 t (j / 2) x hx
    rw [e] at f1
    rw [f1] at hu
    rw [Nat.add_assoc, e] at c1
    rw [c1]
    exact hu
theorem one_cells (w : World) (op : Int) : ∀ (j : Nat) (u : Value), ([.int .i64 op, .int .u64 0] : List Value)[j]? = some u → (w.alloc (.cells #[.int .i64 op, .int .u64 0] 159)).cell? ((⟨w.heap.size, 0, none⟩ : Addr).add j) = some u := by
  intro j u hu
  match j, hu with
  | 0, hu => simp at hu; subst hu; simp [Addr.add]
  | 1, hu => simp at hu; subst hu; simp [Addr.add]
theorem kind_pos {wide vars op : Int} {a : List Nd} (h : kindL wide vars a = partOf op) (hm : manyOf op = 1 ∨ manyOf op = 2) : 1 ≤ a.length := by
  by_cases h0 : 1 ≤ a.length
  · exact h0
  · have h1 : kindL wide vars a = 0 := kind_out (fun hh => h0 hh.2.2.2.1)
    rw [h1] at h
    have h2 : partOf op = 1 ∨ partOf op = 2 := by
      unfold manyOf at hm
      unfold partOf
      (repeat' split at hm) <;> (repeat' split) <;> omega
    omega
def saidTurn (wide vars op : Int) (a : List Nd) : Bool := decide (manyOf op = 1 ∧ kindL wide vars a = partOf op ∧ 0 < kindL wide vars (a ++ [(op, 0)]))
end Go.Proofs.YtmhpnkfibecnmaaDoor
