/-
  Plain mathematics of cones: which wires are marked, and the list of them.
-/
import Derived.Test.YtmjeaceabjinfaaIGate
namespace Go.Proofs.Ytmjeaceabjinfaa
open Go
open M
set_option linter.unusedVariables false
set_option linter.unusedSimpArgs false

/-- some wires marked -/
def markB (m : List Bool) (l : List Int) : List Bool := l.foldl (fun m x => m.set x.toNat true) m
def stepB (ins : Int) (gs : List Gt) (m : List Bool) (k : Nat) : List Bool := if at' m (ins + k) = true then markB m (takenL (gs.getD k (0, 0, 0))) else m
/-- k gates are left, the last of them comes first -/
def coneD (ins : Int) (gs : List Gt) : Nat → List Bool → List Bool
  | 0, m => m
  | k + 1, m => coneD ins gs k (stepB ins gs m k)
def coneF (c : Ci) (ws : List Int) : List Bool := coneD c.1 c.2.1 c.2.1.length (markB (List.replicate (c.1.toNat + c.2.1.length) false) ws)
/-- the marked wires below j, and those from j on -/
def upF (F : List Bool) : Nat → List Int
  | 0 => []
  | j + 1 => upF F j ++ (if F.getD j false = true then [(j : Int)] else [])
def downF (F : List Bool) (n : Nat) : Nat → List Int
  | 0 => []
  | k + 1 => (if F.getD (n - (k + 1)) false = true then [((n - (k + 1) : Nat) : Int)] else []) ++ downF F n k
theorem up_down (F : List Bool) (n : Nat) : ∀ k, k ≤ n → upF F (n - k) ++ downF F n k = upF F n
  | 0, _ => by simp [downF]
  | k + 1, h => by
    rw [← up_down F n k (by omega), show n - k = n - (k + 1) + 1 from by omega]
    simp only [downF, upF, List.append_assoc]
theorem down_all (F : List Bool) (n : Nat) : downF F n n = upF F n := by
  have h := up_down F n n (Nat.le_refl _)
  rw [Nat.sub_self] at h
  exact h
theorem downF_ge (F : List Bool) (n : Nat) : ∀ k, k ≤ n → ∀ x ∈ downF F n k, ((n - k : Nat) : Int) ≤ x ∧ x < n
  | 0, _, x, hx => by simp [downF] at hx
  | k + 1, h, x, hx => by
    simp only [downF, List.mem_append] at hx
    rcases hx with hx | hx
    · split at hx
      · simp at hx
        omega
      · simp at hx
    · have := downF_ge F n k (by omega) x hx
      omega
theorem upF_lt (F : List Bool) : ∀ j, ∀ x ∈ upF F j, 0 ≤ x ∧ x < j ∧ F.getD x.toNat false = true
  | 0, x, hx => by simp [upF] at hx
  | j + 1, x, hx => by
    simp only [upF, List.mem_append] at hx
    rcases hx with hx | hx
    · have := upF_lt F j x hx
      exact ⟨this.1, by omega, this.2.2⟩
    · split at hx
      · rename_i h
        simp at hx
        subst hx
        exact ⟨by omega, by omega, by simpa using h⟩
      · simp at hx
theorem upF_has (F : List Bool) : ∀ (j i : Nat), i < j → F.getD i false = true → (i : Int) ∈ upF F j
  | 0, i, h, _ => by omega
  | j + 1, i, h, hF => by
    simp only [upF, List.mem_append]
    by_cases e : i = j
    · subst e
      right
      rw [if_pos hF]
      simp
    · exact Or.inl (upF_has F j i (by omega) hF)
theorem upF_len (F : List Bool) : ∀ j, (upF F j).length ≤ j
  | 0 => by simp [upF]
  | j + 1 => by
    have := upF_len F j
    simp only [upF, List.length_append]
    split <;> simp <;> omega
theorem downF_len (F : List Bool) (n : Nat) : ∀ j, (downF F n j).length ≤ j
  | 0 => by simp [downF]
  | j + 1 => by
    have := downF_len F n j
    simp only [downF, List.length_append]
    split <;> simp <;> omega
theorem put_first (l : List Int) (n : Int) (h : ∀ x ∈ l, n < x) : putL l n = n :: l := by
  have hp : pos l n = 0 := by
    apply pos_eq
    · omega
    · intro i x hi
      omega
    · intro x hx
      have := h x (List.mem_of_getElem? hx)
      omega
  unfold putL
  rw [hp, if_neg]
  · simp
  · intro e
    have := h n (List.mem_of_getElem? e)
    omega
theorem markB_len : ∀ (l : List Int) (m : List Bool), (markB m l).length = m.length
  | [], m => rfl
  | x :: l, m => by
    have := markB_len l (m.set x.toNat true)
    simp only [List.length_set] at this
    exact this
theorem markB_other : ∀ (l : List Int) (m : List Bool) (i : Nat), (∀ x ∈ l, x.toNat ≠ i) → (markB m l)[i]? = m[i]?
  | [], m, i, _ => rfl
  | x :: l, m, i, h => by
    have := markB_other l (m.set x.toNat true) i (fun y hy => h y (by simp [hy]))
    rw [List.getElem?_set_ne (h x (by simp))] at this
    exact this
theorem markB_snoc (m : List Bool) (l : List Int) (x : Int) : markB m (l ++ [x]) = (markB m l).set x.toNat true := by
  unfold markB
  rw [List.foldl_append]
  rfl
theorem set_swap (m : List Bool) (a b : Nat) : (m.set a true).set b true = (m.set b true).set a true := by
  by_cases h : a = b
  · subst h
    rfl
  · exact List.set_comm _ _ h
theorem stepB_len (ins : Int) (gs : List Gt) (m : List Bool) (k : Nat) : (stepB ins gs m k).length = m.length := by
  unfold stepB
  split
  · exact markB_len _ _
  · rfl
theorem coneD_len (ins : Int) (gs : List Gt) : ∀ (k : Nat) (m : List Bool), (coneD ins gs k m).length = m.length
  | 0, m => rfl
  | k + 1, m => by
    rw [coneD, coneD_len ins gs k, stepB_len]
theorem coneF_len (c : Ci) (ws : List Int) : (coneF c ws).length = c.1.toNat + c.2.1.length := by
  unfold coneF
  rw [coneD_len, markB_len, List.length_replicate]
theorem taken_lt {own : Int} {g : Gt} (h : gateB own g = true) : ∀ x ∈ takenL g, 0 ≤ x ∧ x < own := by
  intro x hx
  rcases gateB_kind h with ⟨h1, _⟩ | ⟨h1, h2, _⟩ | ⟨h1, h2, h3⟩
  · unfold takenL at hx
    rw [if_neg (by omega), if_neg (by omega)] at hx
    simp at hx
  · unfold takenL at hx
    rw [if_neg (by omega), if_pos h1] at hx
    simp at hx
    subst hx
    exact h2
  · unfold takenL at hx
    rw [if_pos h1] at hx
    simp at hx
    rcases hx with rfl | rfl
    · exact h3
    · exact h2
theorem stepB_other {ins : Int} {gs : List Gt} {k : Nat} (m : List Bool) (hg : ∀ g, gs[k]? = some g → gateB (ins + k) g = true) (hk : k < gs.length) {i : Nat} (hi : ins + k ≤ i) : (stepB ins gs m k)[i]? = m[i]? := by
  unfold stepB
  split
  · have hx : gs[k]? = some gs[k] := List.getElem?_eq_getElem hk
    apply markB_other
    intro x hm
    rw [List.getD_eq_getElem?_getD, hx] at hm
    have := taken_lt (hg _ hx) x hm
    omega
  · rfl
/-- what is marked from the gates that are left on stays as it is -/
theorem coneD_stay {ins : Int} {gs : List Gt} (hg : ∀ (k : Nat) (g : Gt), gs[k]? = some g → gateB (ins + k) g = true) : ∀ (k : Nat) (m : List Bool) (i : Nat), k ≤ gs.length → ins + k ≤ i + 1 → (coneD ins gs k m)[i]? = m[i]?
  | 0, m, i, _, _ => rfl
  | k + 1, m, i, hk, hi => by
    rw [coneD, coneD_stay hg k _ i (by omega) (by omega)]
    exact stepB_other m (hg k) (by omega) (by omega)
theorem cone_read {I : Nat} {gs : List Gt} (hg : ∀ (k : Nat) (g : Gt), gs[k]? = some g → gateB ((I : Int) + k) g = true) {F m : List Bool} {J : Nat} (hJ : J < I + gs.length) (h : coneD (I : Int) gs (J + 1 - I) m = F) : F.getD J false = at' m (J : Int) := by
  unfold at'
  rw [Int.toNat_natCast, List.getD_eq_getElem?_getD, List.getD_eq_getElem?_getD, ← h]
  by_cases hI : I ≤ J + 1
  · rw [coneD_stay hg (J + 1 - I) m J (by omega) (by omega)]
  · rw [show J + 1 - I = 0 from by omega]
    rfl
theorem cone_skip {I : Nat} {gs : List Gt} {F m : List Bool} {J : Nat} (hm : at' m (J : Int) = false) (h : coneD (I : Int) gs (J + 1 - I) m = F) : coneD (I : Int) gs (J - I) m = F := by
  by_cases hI : I ≤ J
  · rw [show J + 1 - I = (J - I) + 1 from by omega, coneD] at h
    unfold stepB at h
    rw [show (I : Int) + ((J - I : Nat) : Int) = (J : Int) from by omega, if_neg (by rw [hm]; decide)] at h
    exact h
  · rw [show J + 1 - I = 0 from by omega] at h
    rw [show J - I = 0 from by omega]
    exact h
theorem cone_low {I : Nat} {gs : List Gt} {F m : List Bool} {J : Nat} (hJ : J < I) (h : coneD (I : Int) gs (J + 1 - I) m = F) : coneD (I : Int) gs (J - I) m = F := by
  rw [show J + 1 - I = 0 from by omega] at h
  rw [show J - I = 0 from by omega]
  exact h
theorem cone_gate {I : Nat} {gs : List Gt} {F m : List Bool} {J : Nat} {x : Gt} (hI : I ≤ J) (hx : gs[J - I]? = some x) (hm : at' m (J : Int) = true) (h : coneD (I : Int) gs (J + 1 - I) m = F) : coneD (I : Int) gs (J - I) (markB m (takenL x)) = F := by
  rw [show J + 1 - I = (J - I) + 1 from by omega, coneD] at h
  unfold stepB at h
  rw [show (I : Int) + ((J - I : Nat) : Int) = (J : Int) from by omega, if_pos hm, List.getD_eq_getElem?_getD, hx] at h
  exact h
theorem down_yes {F : List Bool} {N J : Nat} (hJ : J < N) (h : F.getD J false = true) : downF F N (N - J) = putL (downF F N (N - (J + 1))) J := by
  rw [put_first _ _ (fun x hx => by have := downF_ge F N (N - (J + 1)) (by omega) x hx; omega)]
  rw [show N - J = (N - (J + 1)) + 1 from by omega, downF, show N - (N - (J + 1) + 1) = J from by omega, if_pos h]
  rfl
theorem down_no {F : List Bool} {N J : Nat} (hJ : J < N) (h : F.getD J false = false) : downF F N (N - J) = downF F N (N - (J + 1)) := by
  rw [show N - J = (N - (J + 1)) + 1 from by omega, downF, show N - (N - (J + 1) + 1) = J from by omega, if_neg (by rw [h]; decide)]
  rfl
end Go.Proofs.Ytmjeaceabjinfaa
