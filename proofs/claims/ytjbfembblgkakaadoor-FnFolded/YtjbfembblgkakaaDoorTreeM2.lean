/-
  Plain mathematics for trees: the tree that is folded is good, no longer, of the same kind, comes to the same, has the same variables and is folded already; what is put for variables does as their values do.
-/
import Derived.Test.YtjbfembblgkakaaDoorTreeM
namespace Go.Proofs.YtjbfembblgkakaaDoor
open Go Go.RowKit
open M
set_option linter.unusedVariables false

theorem trFold_no (k : Nat) : ∀ r : Tr, trVar r = false → trFold k r = .leaf (litN r.nd.1 (trVal k [] r))
  | .leaf x, h => by
    have h2 : ¬ x.1 = 2 := of_decide_eq_false h
    simp only [trFold, if_neg h2, Tr.nd, trVal, val0]
  | .one x a, h => by
    have h2 : ¬ trVar a = true := by
      have : trVar a = false := h
      rw [this]
      decide
    simp only [trFold, if_neg h2, Tr.nd, trVal]
  | .two x a b, h => by
    have h2 : ¬ (trVar a || trVar b) = true := by
      have : (trVar a || trVar b) = false := h
      rw [this]
      decide
    simp only [trFold, if_neg h2, Tr.nd, trVal]
theorem trFold_yes (k : Nat) : ∀ r : Tr, trVar r = true → trFold k r = Tr.over r.nd (r.parts.map (trFold k))
  | .leaf x, h => by
    have h2 : x.1 = 2 := of_decide_eq_true h
    simp only [trFold, if_pos h2, Tr.parts, List.map_nil, Tr.over, Tr.nd]
  | .one x a, h => by
    have h2 : trVar a = true := h
    simp only [trFold, if_pos h2, Tr.parts, List.map_cons, List.map_nil, Tr.over, Tr.nd]
  | .two x a b, h => by
    have h2 : (trVar a || trVar b) = true := h
    simp only [trFold, if_pos h2, Tr.parts, List.map_cons, List.map_nil, Tr.over, Tr.nd]
theorem litN_own {op v : Int} (h : ¬ ownOf op = 0) : ownOf (litN op v).1 = ownOf op := by
  have hr := ownOf_range op
  unfold litN
  by_cases h2 : ownOf op = 2
  · rw [if_pos h2, h2]
    rfl
  · rw [if_neg h2]
    show ownOf 1 = _
    rw [show ownOf op = 1 by omega]
    rfl
theorem trFold_kind {wide vars : Int} (k : Nat) (r : Tr) (h : r.Ok wide vars) : (trFold k r).kind = r.kind := by
  cases hv : trVar r with
  | false =>
    rw [trFold_no k r hv]
    exact litN_own (Tr.ok_nd h).1
  | true =>
    rw [trFold_yes k r hv]
    unfold Tr.kind
    rw [(Tr.over_parts r.nd _ (by cases r <;> simp [Tr.parts])).2]
theorem trFold_size (k : Nat) : ∀ r : Tr, (trFold k r).size ≤ r.size
  | .leaf x => by
    simp only [trFold]
    split <;> simp [Tr.size]
  | .one x a => by
    have ha := trFold_size k a
    simp only [trFold]
    split <;> simp only [Tr.size] <;> omega
  | .two x a b => by
    have ha := trFold_size k a
    have hb := trFold_size k b
    simp only [trFold]
    split <;> simp only [Tr.size] <;> omega
theorem novar_below {wide vars : Int} {r : Tr} (hok : r.Ok wide vars) (h : trVar r = false) (n : Nat) : VarsBelow r n := by
  intro x hx h2
  have := (trVar_iff hok).2 ⟨x, hx, h2⟩
  rw [h] at this
  cases this
theorem trFold_ok {k : Nat} (hk1 : 1 ≤ k) (hk : k ≤ 64) {vars : Int} : ∀ r : Tr, r.Ok k vars → Pos r → (trFold k r).Ok k vars ∧ Pos (trFold k r) := by
  apply Tr.ind
  intro r ih hok hp
  cases hv : trVar r with
  | false =>
    rw [trFold_no k r hv]
    have hvo := trVal_ok hk1 hk (st := []) (by simp) hok hp (novar_below hok hv _)
    have hk0 := Tr.kind_pos hok
    have hkk : r.kind = ownOf r.nd.1 := rfl
    generalize trVal k [] r = v at *
    rcases hvo with ⟨h1, h2, h3⟩ | ⟨h1, h2⟩
    · simp only at h1 h2 h3
      have e : litN r.nd.1 v = (1, v) := by
        unfold litN
        rw [if_neg (by omega)]
      rw [e]
      exact ⟨⟨(by show ¬ ownOf 1 = 0; decide), by show goodB k v = true; exact good_of k hk1 hk v h3, rfl⟩, fun x hx => by
        simp only [Tr.flat, List.mem_singleton] at hx
        subst hx
        exact h2⟩
    · simp only at h1 h2
      have e : litN r.nd.1 v = (20, v) := by
        unfold litN
        rw [if_pos (by omega)]
      rw [e]
      exact ⟨⟨(by show ¬ ownOf 20 = 0; decide), by show decide (v < 2) = true; exact decide_eq_true (by omega), rfl⟩, fun x hx => by
        simp only [Tr.flat, List.mem_singleton] at hx
        subst hx
        show 0 ≤ v
        omega⟩
  | true =>
    rw [trFold_yes k r hv]
    obtain ⟨n1, n2, n3⟩ := Tr.ok_nd hok
    have hfl : ∀ q ∈ r.parts, ∀ x ∈ q.flat, x ∈ r.flat := by
      intro q hq x hx
      rw [Tr.flat_eq r]
      exact List.mem_append_left _ (List.mem_flatMap.2 ⟨q, hq, hx⟩)
    have hl2 : (r.parts.map (trFold k)).length ≤ 2 := by cases r <;> simp [Tr.parts]
    have hih : ∀ q ∈ r.parts, (trFold k q).Ok k vars ∧ Pos (trFold k q) := fun q hq => ih q hq (Tr.ok_parts hok q hq).2 (fun x hx => hp x (hfl q hq x hx))
    refine ⟨Tr.over_ok n1 n2 (by simpa using n3) ?_, ?_⟩
    · intro q hq
      obtain ⟨q0, hq0, rfl⟩ := List.mem_map.1 hq
      exact ⟨by rw [trFold_kind k q0 (Tr.ok_parts hok q0 hq0).2]; exact (Tr.ok_parts hok q0 hq0).1, (hih q0 hq0).1⟩
    · intro x hx
      rw [Tr.flat_eq, (Tr.over_parts r.nd _ hl2).1, (Tr.over_parts r.nd _ hl2).2] at hx
      rcases List.mem_append.1 hx with hx | hx
      · obtain ⟨q, hq, hx⟩ := List.mem_flatMap.1 hx
        obtain ⟨q0, hq0, rfl⟩ := List.mem_map.1 hq
        exact (hih q0 hq0).2 x hx
      · simp at hx
        subst hx
        refine hp _ ?_
        rw [Tr.flat_eq r]
        simp
/-- without a variable the state says nothing -/
theorem trVal_no (k : Nat) (s t : List Int) : ∀ r : Tr, trVar r = false → trVal k s r = trVal k t r
  | .leaf x, h => by
    have h2 : ¬ x.1 = 2 := of_decide_eq_false h
    simp only [trVal, val0, if_neg h2]
  | .one x a, h => by
    have ha := trVal_no k s t a h
    simp only [trVal, ha]
  | .two x a b, h => by
    have h' : (trVar a || trVar b) = false := h
    rw [Bool.or_eq_false_iff] at h'
    have ha := trVal_no k s t a h'.1
    have hb := trVal_no k s t b h'.2
    simp only [trVal, ha, hb]
theorem litN_val (st : List Int) (op v : Int) : val0 st (litN op v) = v := by
  unfold val0 litN
  split
  · split at * <;> simp_all
  · rfl
/-- a folded tree comes to the same -/
theorem trFold_val (k : Nat) (st : List Int) : ∀ r : Tr, trVal k st (trFold k r) = trVal k st r
  | .leaf x => by
    simp only [trFold]
    split
    · rfl
    · rename_i h
      simp only [trVal, litN_val]
      simp only [val0, if_neg h]
  | .one x a => by
    have ha := trFold_val k st a
    simp only [trFold]
    split
    · simp only [trVal, ha]
    · rename_i h
      have h' : trVar a = false := by simpa using h
      simp only [trVal, litN_val]
      rw [trVal_no k [] st a h']
  | .two x a b => by
    have ha := trFold_val k st a
    have hb := trFold_val k st b
    simp only [trFold]
    split
    · simp only [trVal, ha, hb]
    · rename_i h
      have h' : trVar a = false ∧ trVar b = false := by simpa using h
      simp only [trVal, litN_val]
      rw [trVal_no k [] st a h'.1, trVal_no k [] st b h'.2]
theorem litN_var (op v : Int) : trVar (.leaf (litN op v)) = false := by
  unfold trVar litN
  apply decide_eq_false
  split
  · show ¬ (20 : Int) = 2
    decide
  · show ¬ (1 : Int) = 2
    decide
theorem trFold_var (k : Nat) : ∀ r : Tr, trVar (trFold k r) = trVar r
  | .leaf x => by
    simp only [trFold]
    split
    · rfl
    · rename_i h
      rw [litN_var]
      exact (decide_eq_false h).symm
  | .one x a => by
    have ha := trFold_var k a
    simp only [trFold]
    split
    · simp only [trVar, ha]
    · rename_i h
      rw [litN_var]
      simp only [trVar]
      cases hh : trVar a
      · rfl
      · exact absurd hh h
  | .two x a b => by
    have ha := trFold_var k a
    have hb := trFold_var k b
    simp only [trFold]
    split
    · simp only [trVar, ha, hb]
    · rename_i h
      rw [litN_var]
      simp only [trVar]
      cases hh : (trVar a || trVar b)
      · rfl
      · exact absurd hh h
theorem litN_again (op v : Int) : litN (litN op v).1 (litN op v).2 = litN op v := by
  unfold litN
  by_cases h : ownOf op = 2
  · simp only [if_pos h]
    rfl
  · simp only [if_neg h]
    rfl
/-- a folded tree is folded already -/
theorem trFold_again (k : Nat) : ∀ r : Tr, trFold k (trFold k r) = trFold k r
  | .leaf x => by
    simp only [trFold]
    by_cases h : x.1 = 2
    · simp only [if_pos h, trFold]
    · simp only [if_neg h, trFold]
      have h2 : ¬ (litN x.1 x.2).1 = 2 := of_decide_eq_false (litN_var x.1 x.2)
      rw [if_neg h2, litN_again]
  | .one x a => by
    have ha := trFold_again k a
    simp only [trFold]
    by_cases h : trVar a = true
    · simp only [if_pos h, trFold, trFold_var, ha]
    · simp only [if_neg h, trFold]
      have h2 := of_decide_eq_false (litN_var x.1 (val1 k x (trVal k [] a)))
      rw [if_neg h2, litN_again]
  | .two x a b => by
    have ha := trFold_again k a
    have hb := trFold_again k b
    simp only [trFold]
    by_cases h : (trVar a || trVar b) = true
    · simp only [if_pos h, trFold, trFold_var, ha, hb]
    · simp only [if_neg h, trFold]
      have h2 := of_decide_eq_false (litN_var x.1 (val2 k x (trVal k [] a) (trVal k [] b)))
      rw [if_neg h2, litN_again]
theorem litN_mem (i op v : Int) : ((2, i) : Nd) ≠ litN op v := by
  intro e
  have h2 := of_decide_eq_false (litN_var op v)
  rw [← e] at h2
  exact h2 rfl
/-- a folded tree has the same variables -/
theorem trFold_mem {wide vars : Int} (k : Nat) (i : Int) : ∀ r : Tr, r.Ok wide vars → (((2, i) : Nd) ∈ (trFold k r).flat ↔ ((2, i) : Nd) ∈ r.flat)
  | .leaf x, _ => by
    simp only [trFold]
    split
    · rfl
    · rename_i h
      simp only [Tr.flat, List.mem_singleton]
      constructor
      · intro e
        exact absurd e (litN_mem i _ _)
      · intro e
        rw [← e] at h
        exact absurd rfl h
  | .one x a, hok => by
    have ha := trFold_mem k i a hok.2.2.2.2
    simp only [trFold]
    split
    · simp only [Tr.flat, List.mem_append, ha]
    · rename_i h
      have h' : trVar a = false := by simpa using h
      simp only [Tr.flat, List.mem_append, List.mem_singleton]
      constructor
      · intro e
        exact absurd e (litN_mem i _ _)
      · rintro (e | e)
        · have := (trVar_iff hok.2.2.2.2).2 ⟨_, e, rfl⟩
          rw [h'] at this
          cases this
        · have h3 := hok.2.2.1
          rw [← e] at h3
          exact absurd (show (0 : Nat) = 1 from h3) (by decide)
  | .two x a b, hok => by
    have ha := trFold_mem k i a hok.2.2.2.2.2.1
    have hb := trFold_mem k i b hok.2.2.2.2.2.2
    simp only [trFold]
    split
    · simp only [Tr.flat, List.mem_append, ha, hb]
    · rename_i h
      have h' : trVar a = false ∧ trVar b = false := by simpa using h
      simp only [Tr.flat, List.mem_append, List.mem_singleton]
      constructor
      · intro e
        exact absurd e (litN_mem i _ _)
      · rintro ((e | e) | e)
        · have := (trVar_iff hok.2.2.2.2.2.1).2 ⟨_, e, rfl⟩
          rw [h'.1] at this
          cases this
        · have := (trVar_iff hok.2.2.2.2.2.2).2 ⟨_, e, rfl⟩
          rw [h'.2] at this
          cases this
        · have h3 := hok.2.2.1
          rw [← e] at h3
          exact absurd (show (0 : Nat) = 2 from h3) (by decide)
theorem trPut_flat {wide vars : Int} (bs : List Tr) : ∀ r : Tr, r.Ok wide vars → Pos r → VarsBelow r bs.length → (trPut bs r).flat = putsL (bs.map Tr.flat) r.flat
  | .leaf x, hok, hp, hv => by
    simp only [trPut, putsL, Tr.flat, List.flatMap_cons, List.flatMap_nil, List.append_nil]
    split
    · rename_i h
      have h1 := hv x (by simp [Tr.flat]) h
      simp [List.getD_eq_getElem?_getD, h1]
    · rfl
  | .one x a, hok, hp, hv => by
    have ha := trPut_flat bs a hok.2.2.2.2 (fun x hx => hp x (by simp [Tr.flat, hx])) (fun x hx => hv x (by simp [Tr.flat, hx]))
    have hx : ¬ x.1 = 2 := by
      intro e
      have h3 := hok.2.2.1
      rw [e] at h3
      exact absurd (show (0 : Nat) = 1 from h3) (by decide)
    simp only [trPut, Tr.flat]
    rw [putsL_snoc, if_neg hx, ha]
  | .two x a b, hok, hp, hv => by
    have ha := trPut_flat bs a hok.2.2.2.2.2.1 (fun x hx => hp x (by simp [Tr.flat, hx])) (fun x hx => hv x (by simp [Tr.flat, hx]))
    have hb := trPut_flat bs b hok.2.2.2.2.2.2 (fun x hx => hp x (by simp [Tr.flat, hx])) (fun x hx => hv x (by simp [Tr.flat, hx]))
    have hx : ¬ x.1 = 2 := by
      intro e
      have h3 := hok.2.2.1
      rw [e] at h3
      exact absurd (show (0 : Nat) = 2 from h3) (by decide)
    simp only [trPut, Tr.flat]
    rw [putsL_snoc, if_neg hx, ha, hb]
    unfold putsL
    rw [List.flatMap_append]
theorem trPut_kind {wide vars : Int} (bs : List Tr) (hb : ∀ q ∈ bs, q.kind = 1) (r : Tr) (hok : r.Ok wide vars) : (trPut bs r).kind = r.kind := by
  cases r with
  | leaf x =>
    simp only [trPut]
    split
    · rename_i h
      have e : (Tr.leaf x).kind = 1 := by
        show ownOf x.1 = 1
        rw [h]
        rfl
      rw [e, List.getD_eq_getElem?_getD]
      cases hg : bs[x.2.toNat]? with
      | none => exact e
      | some q => exact hb q (List.mem_of_getElem? hg)
    · rfl
  | one x a => rfl
  | two x a b => rfl
theorem trPut_ok {wide vars : Int} (bs : List Tr) (hb : ∀ q ∈ bs, q.kind = 1 ∧ q.Ok wide vars) : ∀ r : Tr, r.Ok wide vars → (trPut bs r).Ok wide vars
  | .leaf x, hok => by
    simp only [trPut]
    split
    · rw [List.getD_eq_getElem?_getD]
      cases hg : bs[x.2.toNat]? with
      | none => exact hok
      | some q => exact (hb q (List.mem_of_getElem? hg)).2
    · exact hok
  | .one x a, hok => by
    have ha := trPut_ok bs hb a hok.2.2.2.2
    exact ⟨hok.1, hok.2.1, hok.2.2.1, by rw [trPut_kind bs (fun q hq => (hb q hq).1) a hok.2.2.2.2]; exact hok.2.2.2.1, ha⟩
  | .two x a b, hok => by
    have ha := trPut_ok bs hb a hok.2.2.2.2.2.1
    have hb' := trPut_ok bs hb b hok.2.2.2.2.2.2
    exact ⟨hok.1, hok.2.1, hok.2.2.1, by rw [trPut_kind bs (fun q hq => (hb q hq).1) a hok.2.2.2.2.2.1]; exact hok.2.2.2.1, by rw [trPut_kind bs (fun q hq => (hb q hq).1) b hok.2.2.2.2.2.2]; exact hok.2.2.2.2.1, ha, hb'⟩
/-- what is put for the variables does as their values do -/
theorem trPut_val (k : Nat) (st : List Int) (bs : List Tr) : ∀ r : Tr, VarsBelow r bs.length → trVal k st (trPut bs r) = trVal k (bs.map (trVal k st)) r
  | .leaf x, hv => by
    simp only [trPut]
    split
    · rename_i h
      have h1 := hv x (by simp [Tr.flat]) h
      simp only [trVal, val0, if_pos h]
      simp [List.getD_eq_getElem?_getD, h1]
    · rename_i h
      simp only [trVal, val0, if_neg h]
  | .one x a, hv => by
    have ha := trPut_val k st bs a (fun x hx => hv x (by simp [Tr.flat, hx]))
    simp only [trPut, trVal, ha]
  | .two x a b, hv => by
    have ha := trPut_val k st bs a (fun x hx => hv x (by simp [Tr.flat, hx]))
    have hb := trPut_val k st bs b (fun x hx => hv x (by simp [Tr.flat, hx]))
    simp only [trPut, trVal, ha, hb]
end Go.Proofs.YtjbfembblgkakaaDoor
