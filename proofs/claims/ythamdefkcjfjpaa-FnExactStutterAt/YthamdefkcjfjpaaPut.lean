/-
  A number put to its place in a list: the model's l1Put.
-/
import Derived.Test.YthamdefkcjfjpaaMarks
import Derived.Laws.AppendOwnNone
namespace Go.Proofs.Ythamdefkcjfjpaa
open Go Go.RowKit
open M
set_option linter.unusedVariables false

/-- an answer that owns its memory: these numbers, from block B on -/
def OwnInts (w : World) (B : Nat) (v : Value) (t : List Int) : Prop := w.ownsRow B 3 1 v t.length (t.map (Value.int .i64))
def pos (l : List Int) (n : Int) : Nat := (l.takeWhile fun x => decide (x < n)).length
def putL (l : List Int) (n : Int) : List Int := if l[pos l n]? = some n then l else l.take (pos l n) ++ n :: l.drop (pos l n)
theorem pos_eq (n : Int) : ∀ (l : List Int) (j : Nat), j ≤ l.length → (∀ i x, i < j → l[i]? = some x → x < n) → (∀ x, l[j]? = some x → ¬ x < n) → pos l n = j
  | [], j, hj, _, _ => by
    simp at hj
    subst hj
    rfl
  | y :: l, 0, _, _, h2 => by
    have h := h2 y rfl
    unfold pos
    rw [List.takeWhile_cons_of_neg (by simpa using h)]
    rfl
  | y :: l, j + 1, hj, h1, h2 => by
    have hy := h1 0 y (by omega) rfl
    have ih := pos_eq n l j (by simpa using hj) (fun i x hi hx => h1 (i + 1) x (by omega) (by simpa using hx)) (fun x hx => h2 x (by simpa using hx))
    unfold pos at *
    rw [List.takeWhile_cons_of_pos (by simpa using hy), List.length_cons, ih]
theorem own_emptyI (w : World) (base : Nat) (hb : base ≤ w.heap.size) : (w.alloc (.cells #[] 3)).ownsRow base 3 1 (.slice (some ⟨w.heap.size, 0, none⟩) 0 0) 0 [] := by
  refine ⟨rfl, Or.inr ⟨w.heap.size, 0, #[], rfl, hb, ?_, Nat.le_refl _, by unfold maxLen; omega, rfl, rfl⟩⟩
  show (w.heap.push _)[w.heap.size]? = _
  simp
theorem ints_one (t : List Int) : ∀ u ∈ t.map (Value.int .i64), u.oneCell' = true := by
  intro u hu
  obtain ⟨x, _, rfl⟩ := List.mem_map.1 hu
  rfl
/-- cells of a row of numbers, from a place on -/
theorem ints_from {w : World} {g o : Nat} {t : List Int} (hc : ∀ (i : Nat) (x : Int), t[i]? = some x → w.cell? ⟨g, o + i, none⟩ = some (.int .i64 x)) :
    ∀ (j : Nat) (u : Value), (t.map (Value.int .i64))[j]? = some u → w.cell? ((⟨g, o, none⟩ : Addr).add j) = some u := by
  intro j u hu
  rw [List.getElem?_map, Option.map_eq_some_iff] at hu
  obtain ⟨x, hx, rfl⟩ := hu
  have ea : (⟨g, o, none⟩ : Addr).add j = ⟨g, o + j, none⟩ := by
    unfold Addr.add
    by_cases h0 : j = 0
    · subst h0
      simp
    · simp [h0]
  rw [ea]
  exact hc j x hx
theorem oneI_cells (w : World) (n : Int) : ∀ (j : Nat) (u : Value), ([.int .i64 n] : List Value)[j]? = some u → (w.alloc (.cells #[.int .i64 n] 3)).cell? ((⟨w.heap.size, 0, none⟩ : Addr).add j) = some u := by
  intro j u hu
  match j, hu with
  | 0, hu => simp at hu; subst hu; simp [Addr.add]
/-- behind an append to what is the call's own -/
theorem below_app {u w w' : World} {B base n : Nat} {e : TypeId} {v : Value} {xs : List Value} (hb : Below B u w) (hs : B ≤ w.heap.size) (hB : B ≤ base) (ho : w.ownsRow base e 1 v n xs) (hg : w.grownBy w' v.ownBlock) : Below B u w' :=
  hb.grown hg hs (fun k hk => by
    rcases ho.2 with ⟨h, _⟩ | ⟨g, cap, cur, h, hg, _⟩
    · rw [h] at hk
      cases hk
    · rw [h] at hk
      cases hk
      exact Nat.le_trans hB hg)
end Go.Proofs.Ythamdefkcjfjpaa
