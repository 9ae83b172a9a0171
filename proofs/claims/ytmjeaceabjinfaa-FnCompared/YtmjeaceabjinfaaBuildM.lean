/-
  Plain mathematics of circuits that grow: the gates of sums and comparisons, place by place.
-/
import Derived.Test.YtmjeaceabjinfaaPruneM
namespace Go.Proofs.Ytmjeaceabjinfaa
open Go
open M
set_option linter.unusedVariables false
set_option linter.unusedSimpArgs false

/-- the wire that carries on, k places behind the first, each of s gates the last of which is d behind its first -/
def onW (c n s d : Int) : Nat → Int
  | 0 => c
  | k + 1 => n + s * k + d
theorem onW_next (c n s d : Int) (k : Nat) : onW (n + d) (n + s) s d k = onW c n s d (k + 1) := by
  cases k with
  | zero => simp [onW]
  | succ k =>
    simp only [onW]
    rw [show ((k + 1 : Nat) : Int) = (k : Int) + 1 from by omega, Int.mul_add]
    omega
theorem addG_snoc : ∀ (xs ys : List Int) (x y c n : Int), xs.length = ys.length → addG (xs ++ [x]) (ys ++ [y]) c n = ((addG xs ys c n).1 ++ addOne x y (onW c n 5 4 xs.length) (n + 5 * xs.length), (addG xs ys c n).2 ++ [n + 5 * xs.length + 1])
  | [], [], x, y, c, n, _ => by simp [addG, onW]
  | x0 :: xs, y0 :: ys, x, y, c, n, h => by
    have ih := addG_snoc xs ys x y (n + 4) (n + 5) (by simpa using h)
    simp only [List.cons_append, addG, ih, List.length_cons]
    rw [onW_next c n 5 4 xs.length]
    have e : n + 5 + 5 * (xs.length : Int) = n + 5 * ((xs.length + 1 : Nat) : Int) := by omega
    rw [e]
    simp only [List.append_assoc]
  | [], _ :: _, _, _, _, _, h => by simp at h
  | _ :: _, [], _, _, _, _, h => by simp at h
theorem lessG_snoc : ∀ (xs ys : List Int) (x y c n : Int), xs.length = ys.length → (lessG (xs ++ [x]) (ys ++ [y]) c n).1 = (lessG xs ys c n).1 ++ lessOne x y (onW c n 6 5 xs.length) (n + 6 * xs.length)
  | [], [], x, y, c, n, _ => by simp [lessG, onW]
  | x0 :: xs, y0 :: ys, x, y, c, n, h => by
    have ih := lessG_snoc xs ys x y (n + 5) (n + 6) (by simpa using h)
    simp only [List.cons_append, lessG, ih, List.length_cons]
    rw [onW_next c n 6 5 xs.length]
    have e : n + 6 + 6 * (xs.length : Int) = n + 6 * ((xs.length + 1 : Nat) : Int) := by omega
    rw [e]
    simp only [List.append_assoc]
  | [], _ :: _, _, _, _, _, h => by simp at h
  | _ :: _, [], _, _, _, _, h => by simp at h
theorem eqG_snoc : ∀ (xs ys : List Int) (x y c n : Int), xs.length = ys.length → (eqG (xs ++ [x]) (ys ++ [y]) c n).1 = (eqG xs ys c n).1 ++ eqOne x y (onW c n 3 2 xs.length) (n + 3 * xs.length)
  | [], [], x, y, c, n, _ => by simp [eqG, onW]
  | x0 :: xs, y0 :: ys, x, y, c, n, h => by
    have ih := eqG_snoc xs ys x y (n + 2) (n + 3) (by simpa using h)
    simp only [List.cons_append, eqG, ih, List.length_cons]
    rw [onW_next c n 3 2 xs.length]
    have e : n + 3 + 3 * (xs.length : Int) = n + 3 * ((xs.length + 1 : Nat) : Int) := by omega
    rw [e]
    simp only [List.append_assoc]
  | [], _ :: _, _, _, _, _, h => by simp at h
  | _ :: _, [], _, _, _, _, h => by simp at h
theorem lessG_wire : ∀ (xs ys : List Int) (c n : Int), xs.length = ys.length → (lessG xs ys c n).2 = onW c n 6 5 xs.length
  | [], [], c, n, _ => rfl
  | x0 :: xs, y0 :: ys, c, n, h => by
    simp only [lessG, List.length_cons]
    rw [lessG_wire xs ys (n + 5) (n + 6) (by simpa using h), onW_next]
  | [], _ :: _, _, _, h => by simp at h
  | _ :: _, [], _, _, h => by simp at h
theorem eqG_wire : ∀ (xs ys : List Int) (c n : Int), xs.length = ys.length → (eqG xs ys c n).2 = onW c n 3 2 xs.length
  | [], [], c, n, _ => rfl
  | x0 :: xs, y0 :: ys, c, n, h => by
    simp only [eqG, List.length_cons]
    rw [eqG_wire xs ys (n + 2) (n + 3) (by simpa using h), onW_next]
  | [], _ :: _, _, _, h => by simp at h
  | _ :: _, [], _, _, h => by simp at h
theorem addG_len : ∀ (xs ys : List Int) (c n : Int), xs.length = ys.length → (addG xs ys c n).1.length = 5 * xs.length ∧ (addG xs ys c n).2.length = xs.length
  | [], [], c, n, _ => ⟨rfl, rfl⟩
  | x0 :: xs, y0 :: ys, c, n, h => by
    have := addG_len xs ys (n + 4) (n + 5) (by simpa using h)
    simp only [addG, addOne, List.length_append, List.length_cons, List.length_nil]
    omega
  | [], _ :: _, _, _, h => by simp at h
  | _ :: _, [], _, _, h => by simp at h
theorem lessG_len : ∀ (xs ys : List Int) (c n : Int), xs.length = ys.length → (lessG xs ys c n).1.length = 6 * xs.length
  | [], [], c, n, _ => rfl
  | x0 :: xs, y0 :: ys, c, n, h => by
    have := lessG_len xs ys (n + 5) (n + 6) (by simpa using h)
    simp only [lessG, lessOne, List.length_append, List.length_cons, List.length_nil]
    omega
  | [], _ :: _, _, _, h => by simp at h
  | _ :: _, [], _, _, h => by simp at h
theorem eqG_len : ∀ (xs ys : List Int) (c n : Int), xs.length = ys.length → (eqG xs ys c n).1.length = 3 * xs.length
  | [], [], c, n, _ => rfl
  | x0 :: xs, y0 :: ys, c, n, h => by
    have := eqG_len xs ys (n + 2) (n + 3) (by simpa using h)
    simp only [eqG, eqOne, List.length_append, List.length_cons, List.length_nil]
    omega
  | [], _ :: _, _, _, h => by simp at h
  | _ :: _, [], _, _, h => by simp at h
/-- gates whose numbers are small -/
def smG (m : Int) (g : Gt) : Prop := (0 ≤ g.1 ∧ g.1 ≤ 5) ∧ (0 ≤ g.2.1 ∧ g.2.1 ≤ m) ∧ (0 ≤ g.2.2 ∧ g.2.2 ≤ m)
theorem smG_ok {m : Int} {g : Gt} (h : smG m g) (hm : m ≤ 100000) : GtOk g := by
  unfold smG at h
  unfold GtOk Fit
  omega
theorem gateB_sm {own : Int} {g : Gt} (h : gateB own g = true) {m : Int} (hm : own ≤ m) (h1 : 1 ≤ m) : smG m g := by
  unfold smG
  rcases gateB_kind h with ⟨h1, _⟩ | ⟨h1, h2, _⟩ | ⟨h1, h2, h3⟩ <;> omega
theorem addG_sm (m : Int) : ∀ (xs ys : List Int) (c n : Int), (∀ x ∈ xs, 0 ≤ x ∧ x ≤ m) → (∀ x ∈ ys, 0 ≤ x ∧ x ≤ m) → 0 ≤ c → c ≤ m → 0 ≤ n → n + 5 * xs.length ≤ m → ∀ g ∈ (addG xs ys c n).1, smG m g
  | [], ys, c, n, _, _, _, _, _, _, g, hg => by simp [addG] at hg
  | _ :: _, [], c, n, _, _, _, _, _, _, g, hg => by simp [addG] at hg
  | x :: xs, y :: ys, c, n, hx, hy, hc0, hc, hn, hm, g, hg => by
    have h1 := hx x (by simp)
    have h2 := hy y (by simp)
    simp only [List.length_cons] at hm
    simp only [addG, addOne, List.mem_append, List.mem_cons, List.not_mem_nil, or_false] at hg
    rcases hg with (rfl | rfl | rfl | rfl | rfl) | hg
    · unfold smG; simp only; omega
    · unfold smG; simp only; omega
    · unfold smG; simp only; omega
    · unfold smG; simp only; omega
    · unfold smG; simp only; omega
    · exact addG_sm m xs ys (n + 4) (n + 5) (fun z hz => hx z (by simp [hz])) (fun z hz => hy z (by simp [hz])) (by omega) (by omega) (by omega) (by omega) g hg
theorem lessG_sm (m : Int) : ∀ (xs ys : List Int) (c n : Int), (∀ x ∈ xs, 0 ≤ x ∧ x ≤ m) → (∀ x ∈ ys, 0 ≤ x ∧ x ≤ m) → 0 ≤ c → c ≤ m → 0 ≤ n → n + 6 * xs.length ≤ m → ∀ g ∈ (lessG xs ys c n).1, smG m g
  | [], ys, c, n, _, _, _, _, _, _, g, hg => by simp [lessG] at hg
  | _ :: _, [], c, n, _, _, _, _, _, _, g, hg => by simp [lessG] at hg
  | x :: xs, y :: ys, c, n, hx, hy, hc0, hc, hn, hm, g, hg => by
    have h1 := hx x (by simp)
    have h2 := hy y (by simp)
    simp only [List.length_cons] at hm
    simp only [lessG, lessOne, List.mem_append, List.mem_cons, List.not_mem_nil, or_false] at hg
    rcases hg with (rfl | rfl | rfl | rfl | rfl | rfl) | hg
    · unfold smG; simp only; omega
    · unfold smG; simp only; omega
    · unfold smG; simp only; omega
    · unfold smG; simp only; omega
    · unfold smG; simp only; omega
    · unfold smG; simp only; omega
    · exact lessG_sm m xs ys (n + 5) (n + 6) (fun z hz => hx z (by simp [hz])) (fun z hz => hy z (by simp [hz])) (by omega) (by omega) (by omega) (by omega) g hg
theorem eqG_sm (m : Int) : ∀ (xs ys : List Int) (c n : Int), (∀ x ∈ xs, 0 ≤ x ∧ x ≤ m) → (∀ x ∈ ys, 0 ≤ x ∧ x ≤ m) → 0 ≤ c → c ≤ m → 0 ≤ n → n + 3 * xs.length ≤ m → ∀ g ∈ (eqG xs ys c n).1, smG m g
  | [], ys, c, n, _, _, _, _, _, _, g, hg => by simp [eqG] at hg
  | _ :: _, [], c, n, _, _, _, _, _, _, g, hg => by simp [eqG] at hg
  | x :: xs, y :: ys, c, n, hx, hy, hc0, hc, hn, hm, g, hg => by
    have h1 := hx x (by simp)
    have h2 := hy y (by simp)
    simp only [List.length_cons] at hm
    simp only [eqG, eqOne, List.mem_append, List.mem_cons, List.not_mem_nil, or_false] at hg
    rcases hg with (rfl | rfl | rfl) | hg
    · unfold smG; simp only; omega
    · unfold smG; simp only; omega
    · unfold smG; simp only; omega
    · exact eqG_sm m xs ys (n + 2) (n + 3) (fun z hz => hx z (by simp [hz])) (fun z hz => hy z (by simp [hz])) (by omega) (by omega) (by omega) (by omega) g hg
end Go.Proofs.Ytmjeaceabjinfaa
