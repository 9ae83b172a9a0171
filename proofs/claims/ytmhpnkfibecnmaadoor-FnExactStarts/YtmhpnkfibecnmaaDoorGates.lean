/-
  Lists of gates in memory: the laws' own copies, comparisons and marks of them.
-/
import Derived.Test.YtmhpnkfibecnmaaDoorIntS
import Derived.Test.YtmhpnkfibecnmaaDoorBoolS
import Derived.Test.YtmhpnkfibecnmaaDoorGateM
import Derived.Deep.RegionWith
namespace Go.Proofs.YtmhpnkfibecnmaaDoor
open Go Go.RowKit
open M
set_option linter.unusedVariables false

/-- numbers that fit -/
def Fit (n : Int) : Prop := -9223372036854775808 ≤ n ∧ n ≤ 9223372036854775807
def GtOk (x : Gt) : Prop := Fit x.1 ∧ Fit x.2.1 ∧ Fit x.2.2
/-- a gate as a value, and gates as the cells of a row -/
def gv (x : Gt) : Value := .agg #[.int .i64 x.1, .int .i64 x.2.1, .int .i64 x.2.2]
def flat3 : List Gt → List Value
  | [] => []
  | x :: t => .int .i64 x.1 :: .int .i64 x.2.1 :: .int .i64 x.2.2 :: flat3 t
/-- where a gate lies -/
def GateAt (w : World) (b o : Nat) (x : Gt) : Prop := w.cell? ⟨b, o, none⟩ = some (.int .i64 x.1) ∧ w.cell? ⟨b, o + 1, none⟩ = some (.int .i64 x.2.1) ∧ w.cell? ⟨b, o + 2, none⟩ = some (.int .i64 x.2.2)
theorem GateAt.below {w w' : World} {B b o : Nat} {x : Gt} (h : GateAt w b o x) (hb : Below B w w') (hlt : b < B) : GateAt w' b o x := by
  unfold GateAt at *
  rw [hb.cell (p := ⟨b, o, none⟩) hlt, hb.cell (p := ⟨b, o + 1, none⟩) hlt, hb.cell (p := ⟨b, o + 2, none⟩) hlt]
  exact h
/-- a slice whose elements are these gates -/
def GatesAt (w : World) (v : Value) (t : List Gt) : Prop :=
  (∀ x ∈ t, GtOk x) ∧ t.length ≤ 9223372036854775807 ∧ ((t = [] ∧ ∃ (a : Option Addr) (cap : Nat), v = .slice a 0 cap) ∨
  ∃ b off cap : Nat, v = .slice (some ⟨b, off, none⟩) t.length cap ∧ b < w.heap.size ∧ ∀ (i : Nat) (x : Gt), t[i]? = some x → GateAt w b (off + i * 3) x)
theorem GatesAt.below {w w' : World} {v : Value} {t : List Gt} (h : GatesAt w v t) (hb : Below w.heap.size w w') : GatesAt w' v t := by
  obtain ⟨h1, h2, h3⟩ := h
  refine ⟨h1, h2, ?_⟩
  rcases h3 with h | ⟨b, off, cap, hv, hlt, hc⟩
  · exact Or.inl h
  · exact Or.inr ⟨b, off, cap, hv, Nat.lt_of_lt_of_le hlt hb.size, fun i x hx => (hc i x hx).below hb hlt⟩
theorem GatesAt.shape {w : World} {v : Value} {t : List Gt} (h : GatesAt w v t) : ∃ (a : Option Addr) (cap : Nat), v = .slice a t.length cap := by
  obtain ⟨_, _, h⟩ := h
  rcases h with ⟨rfl, a, cap, h⟩ | ⟨b, off, cap, h, _⟩
  · exact ⟨a, cap, h⟩
  · exact ⟨_, cap, h⟩
theorem flat3_len : ∀ t : List Gt, (flat3 t).length = t.length * 3
  | [] => rfl
  | x :: t => by
    simp only [flat3, List.length_cons, flat3_len t]
    omega
theorem flat3_append : ∀ s t : List Gt, flat3 (s ++ t) = flat3 s ++ flat3 t
  | [], t => rfl
  | x :: s, t => by simp [flat3, flat3_append s t]
theorem flat3_at : ∀ (t : List Gt) (i : Nat) (x : Gt), t[i]? = some x → (flat3 t)[i * 3]? = some (.int .i64 x.1) ∧ (flat3 t)[i * 3 + 1]? = some (.int .i64 x.2.1) ∧ (flat3 t)[i * 3 + 2]? = some (.int .i64 x.2.2)
  | [], i, x, h => by simp at h
  | y :: t, 0, x, h => by
    simp at h
    subst h
    exact ⟨rfl, rfl, rfl⟩
  | y :: t, i + 1, x, h => by
    have h' : t[i]? = some x := by simpa using h
    rw [show (i + 1) * 3 = i * 3 + 1 + 1 + 1 from by omega]
    simpa [flat3] using flat3_at t i x h'
theorem flat3_set : ∀ (t : List Gt) (i : Nat) (x : Gt), (((flat3 t).set (i * 3) (.int .i64 x.1)).set (i * 3 + 1) (.int .i64 x.2.1)).set (i * 3 + 2) (.int .i64 x.2.2) = flat3 (t.set i x)
  | [], i, x => by simp [flat3]
  | y :: t, 0, x => rfl
  | y :: t, i + 1, x => by
    rw [show (i + 1) * 3 = i * 3 + 1 + 1 + 1 from by omega]
    simpa [flat3] using flat3_set t i x
theorem made_zero3 : ∀ n : Nat, (madeCells #[Value.int .i64 0, .int .i64 0, .int .i64 0] (n * 3)).toList = flat3 (List.replicate n (0, 0, 0))
  | 0 => by simp [madeCells, flat3]
  | n + 1 => by
    have ih := made_zero3 n
    unfold madeCells at *
    rw [Array.toList_map, Array.toList_range] at *
    rw [show (n + 1) * 3 = n * 3 + 1 + 1 + 1 from by omega, List.range_succ, List.range_succ, List.range_succ, List.map_append, List.map_append, List.map_append, ih, List.replicate_succ', flat3_append, List.append_assoc, List.append_assoc]
    congr 1
    have e0 : n * 3 % 3 = 0 := by omega
    have e1 : (n * 3 + 1) % 3 = 1 := by omega
    have e2 : (n * 3 + 1 + 1) % 3 = 2 := by omega
    simp [flat3, e0, e1, e2]
theorem set_zero3 (t : List Gt) (j : Nat) (x : Gt) (hx : t[j]? = some x) : (t.take j ++ List.replicate (t.length - j) ((0, 0, 0) : Gt)).set j x = t.take (j + 1) ++ List.replicate (t.length - (j + 1)) (0, 0, 0) := by
  have hj : j < t.length := (List.getElem?_eq_some_iff.1 hx).1
  have e : t.take (j + 1) = t.take j ++ [x] := by
    rw [List.take_add_one, hx]
    rfl
  have hl : (t.take j).length = j := List.length_take_of_le (by omega)
  obtain ⟨m, hm⟩ : ∃ m, t.length - j = m + 1 := ⟨t.length - j - 1, by omega⟩
  have hm' : t.length - (j + 1) = m := by omega
  rw [e, hm, hm', List.replicate_succ, List.append_assoc, List.set_append_right _ _ (by omega), hl, Nat.sub_self]
  rfl
theorem takeGt_all {s t : List Gt} {j : Nat} {x y : Gt} (hx : s[j]? = some x) (hy : t[j]? = some y) (h : s.take j = t.take j) (hne : x = y) : s.take (j + 1) = t.take (j + 1) := by
  rw [List.take_add_one, List.take_add_one, hx, hy, h, hne]
theorem marks_snoc (k : Int) (n : Nat) : marks k (n + 1) = marks k n ++ [.int .i64 (k + n)] := by simp [marks, List.range_succ]
theorem marks3_set (k : Int) (n j : Nat) (xs : List Value) (hx : xs.length = n * 3) (hj : j < n) :
    (((marks k (j * 3) ++ xs.drop (j * 3)).set (j * 3) (.int .i64 (k + 3 * j))).set (j * 3 + 1) (.int .i64 (k + 3 * j + 1))).set (j * 3 + 2) (.int .i64 (k + 3 * j + 1 + 1)) = marks k ((j + 1) * 3) ++ xs.drop ((j + 1) * 3) := by
  have hl := marks_len k (j * 3)
  obtain ⟨a, b, c, r, hr⟩ : ∃ a b c r, xs.drop (j * 3) = a :: b :: c :: r := by
    rw [List.drop_eq_getElem_cons (show j * 3 < xs.length by omega), List.drop_eq_getElem_cons (show j * 3 + 1 < xs.length by omega), List.drop_eq_getElem_cons (show j * 3 + 1 + 1 < xs.length by omega)]
    exact ⟨_, _, _, _, rfl⟩
  have hr2 : xs.drop ((j + 1) * 3) = r := by
    have h := congrArg (List.drop 3) hr
    rw [List.drop_drop] at h
    rw [show (j + 1) * 3 = j * 3 + 3 from by omega, h]
    rfl
  rw [hr, hr2, List.set_append_right _ _ (by omega), hl, Nat.sub_self, List.set_append_right _ _ (by omega), hl, show j * 3 + 1 - j * 3 = 1 from by omega, List.set_append_right _ _ (by omega), hl, show j * 3 + 2 - j * 3 = 2 from by omega]
  rw [show (j + 1) * 3 = j * 3 + 1 + 1 + 1 from by omega, marks_snoc, marks_snoc, marks_snoc]
  simp only [List.append_assoc, List.set_cons_zero, List.set_cons_succ, List.singleton_append]
  have e0 : k + 3 * (j : Int) = k + ((j * 3 : Nat) : Int) := by omega
  have e1 : k + 3 * (j : Int) + 1 = k + ((j * 3 + 1 : Nat) : Int) := by omega
  have e2 : k + 3 * (j : Int) + 1 + 1 = k + ((j * 3 + 1 + 1 : Nat) : Int) := by omega
  rw [e2, e1, e0]
  rfl
end Go.Proofs.YtmhpnkfibecnmaaDoor
