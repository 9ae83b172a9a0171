/-
  Plain mathematics of pruned circuits: where wires go, and the gates that stay.
-/
import Derived.Test.YtmjeaceabjinfaaConeM
namespace Go.Proofs.Ytmjeaceabjinfaa
open Go
open M
set_option linter.unusedVariables false
set_option linter.unusedSimpArgs false

/-- a number of a list, nought where there is none -/
def atI (l : List Int) (i : Int) : Int := l.getD i.toNat 0
def movedL (p : List Int) (g : Gt) : Gt :=
  if g.1 = 3 ∨ g.1 = 4 ∨ g.1 = 5 then (g.1, atI p g.2.1, atI p g.2.2) else if g.1 = 2 then (g.1, atI p g.2.1, g.2.2) else g
/-- the places of the first j wires, which come in; noughts behind them -/
def place0 (j n : Nat) : List Int := (List.range j).map Int.ofNat ++ List.replicate n 0
def pruneK (F : List Bool) (I : Nat) (gs : List Gt) : Nat → List Int × List Gt
  | 0 => (place0 I gs.length, [])
  | k + 1 => if F.getD (I + k) false = true then ((pruneK F I gs k).1.set (I + k) ((I : Int) + (pruneK F I gs k).2.length), (pruneK F I gs k).2 ++ [movedL (pruneK F I gs k).1 (gs.getD k (0, 0, 0))]) else pruneK F I gs k
def pruneG (c : Ci) : List Int × List Gt := pruneK (coneF c c.2.2) c.1.toNat c.2.1 c.2.1.length
def pruneC (c : Ci) : Ci := (c.1, (pruneG c).2, c.2.2.map (atI (pruneG c).1))
def pruneL (c : Ci) : Ci := if goodC c = true then pruneC c else (0, [], [])
theorem place0_len (j n : Nat) : (place0 j n).length = j + n := by simp [place0]
theorem place0_set (j n : Nat) : (place0 j (n + 1)).set j (j : Int) = place0 (j + 1) n := by
  unfold place0
  rw [List.set_append_right _ _ (by simp)]
  simp [List.range_succ, List.replicate_succ]
theorem pruneK_len (F : List Bool) (I : Nat) (gs : List Gt) : ∀ k, (pruneK F I gs k).1.length = I + gs.length ∧ (pruneK F I gs k).2.length ≤ k
  | 0 => by simp [pruneK, place0_len]
  | k + 1 => by
    have := pruneK_len F I gs k
    rw [pruneK]
    split
    · simp only [List.length_set, List.length_append, List.length_singleton]
      omega
    · omega
/-- places are small -/
theorem pruneK_small (F : List Bool) (I : Nat) (gs : List Gt) : ∀ k, ∀ x ∈ (pruneK F I gs k).1, 0 ≤ x ∧ x ≤ (I : Int) + k
  | 0, x, hx => by
    simp only [pruneK, place0, List.mem_append, List.mem_map, List.mem_range] at hx
    rcases hx with ⟨a, ha, rfl⟩ | hx
    · constructor
      · exact Int.natCast_nonneg a
      · show (a : Int) ≤ _
        omega
    · have := (List.mem_replicate.1 hx).2
      omega
  | k + 1, x, hx => by
    rw [pruneK] at hx
    have hl := pruneK_len F I gs k
    split at hx
    · rcases List.mem_or_eq_of_mem_set hx with h | h
      · have := pruneK_small F I gs k x h
        omega
      · omega
    · have := pruneK_small F I gs k x hx
      omega
theorem atI_small {p : List Int} {m : Int} (h : ∀ x ∈ p, 0 ≤ x ∧ x ≤ m) (hm : 0 ≤ m) (i : Int) : 0 ≤ atI p i ∧ atI p i ≤ m := by
  unfold atI
  rw [List.getD_eq_getElem?_getD]
  cases e : p[i.toNat]? with
  | none => exact ⟨by simp, by simpa using hm⟩
  | some x => simpa using h x (List.mem_of_getElem? e)
theorem gateB_ok {own : Int} {g : Gt} (h : gateB own g = true) (ho : own ≤ 1000) : GtOk g := by
  unfold GtOk Fit
  rcases gateB_kind h with ⟨h1, _⟩ | ⟨h1, h2, _⟩ | ⟨h1, h2, h3⟩ <;> omega
theorem movedL_ok {p : List Int} {g : Gt} (hg : GtOk g) (h : ∀ i, 0 ≤ atI p i ∧ atI p i ≤ 1000) : GtOk (movedL p g) := by
  unfold movedL
  have h1 := h g.2.1
  have h2 := h g.2.2
  unfold GtOk Fit at *
  split
  · simp only
    omega
  · split
    · simp only
      omega
    · exact hg
theorem pruneK_ok {F : List Bool} {I : Nat} {gs : List Gt} (hI : I ≤ 16) (hn : gs.length ≤ 300) (hg : ∀ (k : Nat) (g : Gt), gs[k]? = some g → gateB ((I : Int) + k) g = true) : ∀ k, k ≤ gs.length → ∀ x ∈ (pruneK F I gs k).2, GtOk x
  | 0, _, x, hx => by simp [pruneK] at hx
  | k + 1, hk, x, hx => by
    rw [pruneK] at hx
    have ih := pruneK_ok (F := F) hI hn hg k (by omega)
    split at hx
    · simp only [List.mem_append, List.mem_singleton] at hx
      rcases hx with hx | rfl
      · exact ih x hx
      · have hgk : gs[k]? = some gs[k] := List.getElem?_eq_getElem (by omega)
        rw [List.getD_eq_getElem?_getD, hgk]
        refine movedL_ok (gateB_ok (hg k _ hgk) (by omega)) (fun i => ?_)
        have := atI_small (m := 1000) (fun y hy => by have := pruneK_small F I gs k y hy; omega) (by omega) i
        exact this
    · exact ih x hx
theorem pruneL_ok (c : Ci) (hc : CiOk c) : CiOk (pruneL c) := by
  unfold pruneL
  split
  · rename_i hgd
    obtain ⟨h0, h1, h2, h3, h4, _⟩ := goodC_ins hgd
    obtain ⟨I, hI⟩ := Int.eq_ofNat_of_zero_le h0
    have hk := pruneK_len (coneF c c.2.2) c.1.toNat c.2.1 c.2.1.length
    refine ⟨hc.1, ?_, ?_, ?_⟩
    · refine pruneK_ok (by omega) h2 (fun k g hg => ?_) _ (Nat.le_refl _)
      rw [show ((c.1.toNat : Nat) : Int) = c.1 from by omega]
      exact gatesB_at h4 hg
    · show (pruneG c).2.length ≤ _
      unfold pruneG
      omega
    · show (c.2.2.map _).length ≤ _
      rw [List.length_map]
      omega
  · exact ⟨⟨by omega, by omega⟩, by simp, by simp, by simp⟩
/-- a place that is set later does not turn what a gate takes -/
theorem atI_set {p : List Int} {i : Nat} {v x : Int} (h0 : 0 ≤ x) (h : x < i) : atI (p.set i v) x = atI p x := by
  unfold atI
  rw [List.getD_eq_getElem?_getD, List.getD_eq_getElem?_getD, List.getElem?_set_ne (by omega)]
theorem movedL_set {p : List Int} {i : Nat} {v : Int} {g : Gt} (h : gateB i g = true) : movedL (p.set i v) g = movedL p g := by
  unfold movedL
  rcases gateB_kind h with ⟨h1, _⟩ | ⟨h1, h2, _⟩ | ⟨h1, h2, h3⟩
  · rw [if_neg (by omega), if_neg (by omega), if_neg (by omega), if_neg (by omega)]
  · rw [if_neg (by omega), if_pos h1, if_neg (by omega), if_pos h1, atI_set h2.1 h2.2]
  · rw [if_pos h1, if_pos h1, atI_set h2.1 h2.2, atI_set h3.1 h3.2]
/-- the same, wire by wire: j wires have been met -/
def pruneJ (F : List Bool) (I : Nat) (gs : List Gt) (j : Nat) : List Int × List Gt := if j < I then (place0 j (I + gs.length - j), []) else pruneK F I gs (j - I)
theorem pruneJ_zero (F : List Bool) (I : Nat) (gs : List Gt) : pruneJ F I gs 0 = (List.replicate (I + gs.length) 0, []) := by
  unfold pruneJ
  split
  · simp [place0]
  · rw [show I = 0 from by omega]
    simp [pruneK, place0]
theorem pruneJ_all (F : List Bool) (I : Nat) (gs : List Gt) : pruneJ F I gs (I + gs.length) = pruneK F I gs gs.length := by
  unfold pruneJ
  rw [if_neg (by omega), Nat.add_sub_cancel_left]
theorem pruneJ_in (F : List Bool) (I : Nat) (gs : List Gt) (j : Nat) (h : j < I) : pruneJ F I gs (j + 1) = ((pruneJ F I gs j).1.set j (j : Int), (pruneJ F I gs j).2) := by
  unfold pruneJ
  rw [if_pos h]
  have e : (place0 j (I + gs.length - j)).set j (j : Int) = place0 (j + 1) (I + gs.length - (j + 1)) := by
    rw [show I + gs.length - j = (I + gs.length - (j + 1)) + 1 from by omega]
    exact place0_set _ _
  simp only
  rw [e]
  split
  · rfl
  · rw [show j + 1 = I from by omega, Nat.sub_self, Nat.add_sub_cancel_left]
    rfl
theorem pruneJ_no (F : List Bool) (I : Nat) (gs : List Gt) (j : Nat) (h : I ≤ j) (hF : F.getD j false = false) : pruneJ F I gs (j + 1) = pruneJ F I gs j := by
  unfold pruneJ
  rw [if_neg (by omega), if_neg (by omega), show j + 1 - I = (j - I) + 1 from by omega, pruneK, show I + (j - I) = j from by omega, if_neg (by rw [hF]; decide)]
theorem pruneJ_yes (F : List Bool) (I : Nat) (gs : List Gt) (j : Nat) (x : Gt) (h : I ≤ j) (hx : gs[j - I]? = some x) (hF : F.getD j false = true) : pruneJ F I gs (j + 1) = ((pruneJ F I gs j).1.set j ((I : Int) + (pruneJ F I gs j).2.length), (pruneJ F I gs j).2 ++ [movedL (pruneJ F I gs j).1 x]) := by
  unfold pruneJ
  rw [if_neg (by omega), if_neg (by omega), show j + 1 - I = (j - I) + 1 from by omega, pruneK, show I + (j - I) = j from by omega, if_pos hF, List.getD_eq_getElem?_getD, hx]
  rfl
theorem pruneJ_len (F : List Bool) (I : Nat) (gs : List Gt) (j : Nat) (hj : j ≤ I + gs.length) : (pruneJ F I gs j).1.length = I + gs.length ∧ (pruneJ F I gs j).2.length ≤ j := by
  unfold pruneJ
  split
  · rw [place0_len]
    simp
    omega
  · have := pruneK_len F I gs (j - I)
    omega
end Go.Proofs.Ytmjeaceabjinfaa
