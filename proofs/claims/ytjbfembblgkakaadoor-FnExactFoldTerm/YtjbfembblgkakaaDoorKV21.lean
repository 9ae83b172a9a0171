/-
  A tree that is folded: the program's hasVars, leafOf, fold and FoldTerm.
  Plain mathematics for trees: the tree that is folded is good, no longer, of the same kind, comes to the same, has the same variables and is folded already; what is put for variables does as their values do.
  The program's leafOf, fold and FoldTerm.
  The program's FoldTerm.
-/
import Derived.Test.YtjbfembblgkakaaDoorIVars
import Derived.Test.YtjbfembblgkakaaDoorIVal
import Derived.Test.YtjbfembblgkakaaDoorLFold
import Derived.Test.YtjbfembblgkakaaDoorTreeM
namespace Go.Proofs.YtjbfembblgkakaaDoor
open Go Go.RowKit
open M
set_option linter.unusedVariables false

theorem equal4 (a b c d : Bool) (w : World) : Sem.run Tryd.prog (Op.equalIn 10000 114 (.agg #[.bool a, .bool b, .bool c, .bool d]) (.agg #[.bool false, .bool false, .bool false, .bool false])) w = .ok (!(a || b || c || d)) w := by
  cases a <;> cases b <;> cases c <;> cases d <;> kernel_rfl
set_option maxRecDepth 100000 in
set_option maxHeartbeats 1000000 in
theorem hasVars_any (r : Tr) (wide vars : Int) (hok : r.Ok wide vars) (hp : Pos r) (hv4 : vars ≤ 4) (b : Nat) (w : World) (htr : TrAt w (Old w) r b) :
    Calls Tryd.prog 150 #[ptr b] w fun e w' => e = .returned (.bool (trVar r)) ∧ Below w.heap.size w w' := by
  have hv : ∀ x ∈ r.flat, x.1 = 2 → 0 ≤ x.2 ∧ x.2 < 4 := by
    intro x hx h2
    have h3 := ok_vars hok x hx h2
    have h4 := hp x hx
    omega
  have gN := nameVars_any r b w.heap.size (fun _ => false) (w.alloc (.cells #[.bool false, .bool false, .bool false, .bool false] 114)) (TrAt.frame (fun k hk => ⟨by simp; exact Nat.lt_succ_of_lt hk, Nat.ne_of_lt hk⟩) (fun k hk => Below.heap_alloc _ _ _ hk) htr) (by
    show (w.heap.push _)[w.heap.size]? = _
    rw [Array.getElem?_push_size]
    rfl) hv ⟨wide, vars, hok⟩
  simp only [Bool.false_or] at gN
  have HB1 : Hid (Below w.heap.size w (w.alloc (.cells #[.bool false, .bool false, .bool false, .bool false] 114))) := (Below.refl _ _).alloc (Nat.le_refl _) _
  have HV : Hid (trVar r = (decide (((2, 0) : Nd) ∈ r.flat) || decide (((2, 1) : Nd) ∈ r.flat) || decide (((2, 2) : Nd) ∈ r.flat) || decide (((2, 3) : Nd) ∈ r.flat))) := by
    show _ = _
    rw [Bool.eq_iff_iff]
    simp only [Bool.or_eq_true, decide_eq_true_eq]
    rw [trVar_iff hok]
    constructor
    · rintro ⟨⟨op, n⟩, hx, h2⟩
      simp only at h2
      subst h2
      have h4 := hv (2, n) hx rfl
      simp only at h4
      rcases (show n = 0 ∨ n = 1 ∨ n = 2 ∨ n = 3 by omega) with rfl | rfl | rfl | rfl
      · exact Or.inl (Or.inl (Or.inl hx))
      · exact Or.inl (Or.inl (Or.inr hx))
      · exact Or.inl (Or.inr hx)
      · exact Or.inr hx
    · rintro (((h | h) | h) | h) <;> exact ⟨_, h, rfl⟩
  rw [HV.out]
  generalize hF0 : (fun i : Int => decide (((2, i) : Nd) ∈ r.flat)) = F at gN
  have h0 : decide (((2, 0) : Nd) ∈ r.flat) = F 0 := by rw [← hF0]
  have h1 : decide (((2, 1) : Nd) ∈ r.flat) = F 1 := by rw [← hF0]
  have h2 : decide (((2, 2) : Nd) ∈ r.flat) = F 2 := by rw [← hF0]
  have h3 : decide (((2, 3) : Nd) ∈ r.flat) = F 3 := by rw [← hF0]
  rw [h0, h1, h2, h3]
  clear h0 h1 h2 h3 hF0 HV hv htr hok hp
  go_enter Tryd.func150, Tryd.ntmps150
  go_wp2_with fail
  refine gN.mono ?_
  rintro e w2 ⟨rfl, hh2, hbt⟩
  have HB2 : Hid (Below w.heap.size w w2) := HB1.out.trans (hbt.below (Nat.le_refl _) HB1.out.size)
  have d0 := cell_heap (o := 0) hh2
  have d1 := cell_heap (o := 1) hh2
  have d2 := cell_heap (o := 2) hh2
  have d3 := cell_heap (o := 3) hh2
  simp only [bools, List.getElem?_toArray, List.getElem?_cons_succ, List.getElem?_cons_zero] at d0 d1 d2 d3
  have eq4 := equal4 (F 0) (F 1) (F 2) (F 3) w2
  clear gN hh2 hbt
  go_wp2_with fail
  go_ret
  exact ⟨rfl, HB2.out⟩
end Go.Proofs.YtjbfembblgkakaaDoor

namespace Go.Proofs.YtjbfembblgkakaaDoor
open Go Go.RowKit
open M
set_option linter.unusedVariables false

theorem trFold_no (k : Nat) : ∀ r : Tr, trVar r = false → trFold k r = .leaf (litN r.nd.1 (trVal k [] r))
  | .leaf x, h => by
    have h2 : ¬ x.1 = 2 := of_decide_eq_false h
    simp only [trFold, if_neg h2, Tr.nd, trVal, val0]
  | .one x a, h => by
    have h2 : ¬ trVar a = true := by
      have : trVar a = false := h
      rw [this]
      decide
    simp only [trFold, if_neg h2, Tr.nd, trVal]
  | .two x a b, h => by
    have h2 : ¬ (trVar a || trVar b) = true := by
      have : (trVar a || trVar b) = false := h
      rw [this]
      decide
    simp only [trFold, if_neg h2, Tr.nd, trVal]
theorem trFold_yes (k : Nat) : ∀ r : Tr, trVar r = true → trFold k r = Tr.over r.nd (r.parts.map (trFold k))
  | .leaf x, h => by
    have h2 : x.1 = 2 := of_decide_eq_true h
    simp only [trFold, if_pos h2, Tr.parts, List.map_nil, Tr.over, Tr.nd]
  | .one x a, h => by
    have h2 : trVar a = true := h
    simp only [trFold, if_pos h2, Tr.parts, List.map_cons, List.map_nil, Tr.over, Tr.nd]
  | .two x a b, h => by
    have h2 : (trVar a || trVar b) = true := h
    simp only [trFold, if_pos h2, Tr.parts, List.map_cons, List.map_nil, Tr.over, Tr.nd]
theorem litN_own {op v : Int} (h : ¬ ownOf op = 0) : ownOf (litN op v).1 = ownOf op := by
  have hr := ownOf_range op
  unfold litN
  by_cases h2 : ownOf op = 2
  · rw [if_pos h2, h2]
    rfl
  · rw [if_neg h2]
    show ownOf 1 = _
    rw [show ownOf op = 1 by omega]
    rfl
theorem trFold_kind {wide vars : Int} (k : Nat) (r : Tr) (h : r.Ok wide vars) : (trFold k r).kind = r.kind := by
  cases hv : trVar r with
  | false =>
    rw [trFold_no k r hv]
    exact litN_own (Tr.ok_nd h).1
  | true =>
    rw [trFold_yes k r hv]
    unfold Tr.kind
    rw [(Tr.over_parts r.nd _ (by cases r <;> simp [Tr.parts])).2]
theorem trFold_size (k : Nat) : ∀ r : Tr, (trFold k r).size ≤ r.size
  | .leaf x => by
    simp only [trFold]
    split <;> simp [Tr.size]
  | .one x a => by
    have ha := trFold_size k a
    simp only [trFold]
    split <;> simp only [Tr.size] <;> omega
  | .two x a b => by
    have ha := trFold_size k a
    have hb := trFold_size k b
    simp only [trFold]
    split <;> simp only [Tr.size] <;> omega
theorem novar_below {wide vars : Int} {r : Tr} (hok : r.Ok wide vars) (h : trVar r = false) (n : Nat) : VarsBelow r n := by
  intro x hx h2
  have := (trVar_iff hok).2 ⟨x, hx, h2⟩
  rw [h] at this
  cases this
theorem trFold_ok {k : Nat} (hk1 : 1 ≤ k) (hk : k ≤ 64) {vars : Int} : ∀ r : Tr, r.Ok k vars → Pos r → (trFold k r).Ok k vars ∧ Pos (trFold k r) := by
  apply Tr.ind
  intro r ih hok hp
  cases hv : trVar r with
  | false =>
    rw [trFold_no k r hv]
    have hvo := trVal_ok hk1 hk (st := []) (by simp) hok hp (novar_below hok hv _)
    have hk0 := Tr.kind_pos hok
    have hkk : r.kind = ownOf r.nd.1 := rfl
    generalize trVal k [] r = v at *
    rcases hvo with ⟨h1, h2, h3⟩ | ⟨h1, h2⟩
    · simp only at h1 h2 h3
      have e : litN r.nd.1 v = (1, v) := by
        unfold litN
        rw [if_neg (by omega)]
      rw [e]
      exact ⟨⟨(by show ¬ ownOf 1 = 0; decide), by show goodB k v = true; exact good_of k hk1 hk v h3, rfl⟩, fun x hx => by
        simp only [Tr.flat, List.mem_singleton] at hx
        subst hx
        exact h2⟩
    · simp only at h1 h2
      have e : litN r.nd.1 v = (20, v) := by
        unfold litN
        rw [if_pos (by omega)]
      rw [e]
      exact ⟨⟨(by show ¬ ownOf 20 = 0; decide), by show decide (v < 2) = true; exact decide_eq_true (by omega), rfl⟩, fun x hx => by
        simp only [Tr.flat, List.mem_singleton] at hx
        subst hx
        show 0 ≤ v
        omega⟩
  | true =>
    rw [trFold_yes k r hv]
    obtain ⟨n1, n2, n3⟩ := Tr.ok_nd hok
    have hfl : ∀ q ∈ r.parts, ∀ x ∈ q.flat, x ∈ r.flat := by
      intro q hq x hx
      rw [Tr.flat_eq r]
      exact List.mem_append_left _ (List.mem_flatMap.2 ⟨q, hq, hx⟩)
    have hl2 : (r.parts.map (trFold k)).length ≤ 2 := by cases r <;> simp [Tr.parts]
    have hih : ∀ q ∈ r.parts, (trFold k q).Ok k vars ∧ Pos (trFold k q) := fun q hq => ih q hq (Tr.ok_parts hok q hq).2 (fun x hx => hp x (hfl q hq x hx))
    refine ⟨Tr.over_ok n1 n2 (by simpa using n3) ?_, ?_⟩
    · intro q hq
      obtain ⟨q0, hq0, rfl⟩ := List.mem_map.1 hq
      exact ⟨by rw [trFold_kind k q0 (Tr.ok_parts hok q0 hq0).2]; exact (Tr.ok_parts hok q0 hq0).1, (hih q0 hq0).1⟩
    · intro x hx
      rw [Tr.flat_eq, (Tr.over_parts r.nd _ hl2).1, (Tr.over_parts r.nd _ hl2).2] at hx
      rcases List.mem_append.1 hx with hx | hx
      · obtain ⟨q, hq, hx⟩ := List.mem_flatMap.1 hx
        obtain ⟨q0, hq0, rfl⟩ := List.mem_map.1 hq
        exact (hih q0 hq0).2 x hx
      · simp at hx
        subst hx
        refine hp _ ?_
        rw [Tr.flat_eq r]
        simp
/-- without a variable the state says nothing -/
theorem trVal_no (k : Nat) (s t : List Int) : ∀ r : Tr, trVar r = false → trVal k s r = trVal k t r
  | .leaf x, h => by
    have h2 : ¬ x.1 = 2 := of_decide_eq_false h
    simp only [trVal, val0, if_neg h2]
  | .one x a, h => by
    have ha := trVal_no k s t a h
    simp only [trVal, ha]
  | .two x a b, h => by
    have h' : (trVar a || trVar b) = false := h
    rw [Bool.or_eq_false_iff] at h'
    have ha := trVal_no k s t a h'.1
    have hb := trVal_no k s t b h'.2
    simp only [trVal, ha, hb]
theorem litN_val (st : List Int) (op v : Int) : val0 st (litN op v) = v := by
  unfold val0 litN
  split
  · split at * <;> simp_all
  · rfl
/-- a folded tree comes to the same -/
theorem trFold_val (k : Nat) (st : List Int) : ∀ r : Tr, trVal k st (trFold k r) = trVal k st r
  | .leaf x => by
    simp only [trFold]
    split
    · rfl
    · rename_i h
      simp only [trVal, litN_val]
      simp only [val0, if_neg h]
  | .one x a => by
    have ha := trFold_val k st a
    simp only [trFold]
    split
    · simp only [trVal, ha]
    · rename_i h
      have h' : trVar a = false := by simpa using h
      simp only [trVal, litN_val]
      rw [trVal_no k [] st a h']
  | .two x a b => by
    have ha := trFold_val k st a
    have hb := trFold_val k st b
    simp only [trFold]
    split
    · simp only [trVal, ha, hb]
    · rename_i h
      have h' : trVar a = false ∧ trVar b = false := by simpa using h
      simp only [trVal, litN_val]
      rw [trVal_no k [] st a h'.1, trVal_no k [] st b h'.2]
theorem litN_var (op v : Int) : trVar (.leaf (litN op v)) = false := by
  unfold trVar litN
  apply decide_eq_false
  split
  · show ¬ (20 : Int) = 2
    decide
  · show ¬ (1 : Int) = 2
    decide
theorem trFold_var (k : Nat) : ∀ r : Tr, trVar (trFold k r) = trVar r
  | .leaf x => by
    simp only [trFold]
    split
    · rfl
    · rename_i h
      rw [litN_var]
      exact (decide_eq_false h).symm
  | .one x a => by
    have ha := trFold_var k a
    simp only [trFold]
    split
    · simp only [trVar, ha]
    · rename_i h
      rw [litN_var]
      simp only [trVar]
      cases hh : trVar a
      · rfl
      · exact absurd hh h
  | .two x a b => by
    have ha := trFold_var k a
    have hb := trFold_var k b
    simp only [trFold]
    split
    · simp only [trVar, ha, hb]
    · rename_i h
      rw [litN_var]
      simp only [trVar]
      cases hh : (trVar a || trVar b)
      · rfl
      · exact absurd hh h
theorem litN_again (op v : Int) : litN (litN op v).1 (litN op v).2 = litN op v := by
  unfold litN
  by_cases h : ownOf op = 2
  · simp only [if_pos h]
    rfl
  · simp only [if_neg h]
    rfl
/-- a folded tree is folded already -/
theorem trFold_again (k : Nat) : ∀ r : Tr, trFold k (trFold k r) = trFold k r
  | .leaf x => by
    simp only [trFold]
    by_cases h : x.1 = 2
    · simp only [if_pos h, trFold]
    · simp only [if_neg h, trFold]
      have h2 : ¬ (litN x.1 x.2).1 = 2 := of_decide_eq_false (litN_var x.1 x.2)
      rw [if_neg h2, litN_again]
  | .one x a => by
    have ha := trFold_again k a
    simp only [trFold]
    by_cases h : trVar a = true
    · simp only [if_pos h, trFold, trFold_var, ha]
    · simp only [if_neg h, trFold]
      have h2 := of_decide_eq_false (litN_var x.1 (val1 k x (trVal k [] a)))
      rw [if_neg h2, litN_again]
  | .two x a b => by
    have ha := trFold_again k a
    have hb := trFold_again k b
    simp only [trFold]
    by_cases h : (trVar a || trVar b) = true
    · simp only [if_pos h, trFold, trFold_var, ha, hb]
    · simp only [if_neg h, trFold]
      have h2 := of_decide_eq_false (litN_var x.1 (val2 k x (trVal k [] a) (trVal k [] b)))
      rw [if_neg h2, litN_again]
theorem litN_mem (i op v : Int) : ((2, i) : Nd) ≠ litN op v := by
  intro e
  have h2 := of_decide_eq_false (litN_var op v)
  rw [← e] at h2
  exact h2 rfl
/-- a folded tree has the same variables -/
theorem trFold_mem {wide vars : Int} (k : Nat) (i : Int) : ∀ r : Tr, r.Ok wide vars → (((2, i) : Nd) ∈ (trFold k r).flat ↔ ((2, i) : Nd) ∈ r.flat)
  | .leaf x, _ => by
    simp only [trFold]
    split
    · rfl
    · rename_i h
      simp only [Tr.flat, List.mem_singleton]
      constructor
      · intro e
        exact absurd e (litN_mem i _ _)
      · intro e
        rw [← e] at h
        exact absurd rfl h
  | .one x a, hok => by
    have ha := trFold_mem k i a hok.2.2.2.2
    simp only [trFold]
    split
    · simp only [Tr.flat, List.mem_append, ha]
    · rename_i h
      have h' : trVar a = false := by simpa using h
      simp only [Tr.flat, List.mem_append, List.mem_singleton]
      constructor
      · intro e
        exact absurd e (litN_mem i _ _)
      · rintro (e | e)
        · have := (trVar_iff hok.2.2.2.2).2 ⟨_, e, rfl⟩
          rw [h'] at this
          cases this
        · have h3 := hok.2.2.1
          rw [← e] at h3
          exact absurd (show (0 : Nat) = 1 from h3) (by decide)
  | .two x a b, hok => by
    have ha := trFold_mem k i a hok.2.2.2.2.2.1
    have hb := trFold_mem k i b hok.2.2.2.2.2.2
    simp only [trFold]
    split
    · simp only [Tr.flat, List.mem_append, ha, hb]
    · rename_i h
      have h' : trVar a = false ∧ trVar b = false := by simpa using h
      simp only [Tr.flat, List.mem_append, List.mem_singleton]
      constructor
      · intro e
        exact absurd e (litN_mem i _ _)
      · rintro ((e | e) | e)
        · have := (trVar_iff hok.2.2.2.2.2.1).2 ⟨_, e, rfl⟩
          rw [h'.1] at this
          cases this
        · have := (trVar_iff hok.2.2.2.2.2.2).2 ⟨_, e, rfl⟩
          rw [h'.2] at this
          cases this
        · have h3 := hok.2.2.1
          rw [← e] at h3
          exact absurd (show (0 : Nat) = 2 from h3) (by decide)
theorem trPut_flat {wide vars : Int} (bs : List Tr) : ∀ r : Tr, r.Ok wide vars → Pos r → VarsBelow r bs.length → (trPut bs r).flat = putsL (bs.map Tr.flat) r.flat
  | .leaf x, hok, hp, hv => by
    simp only [trPut, putsL, Tr.flat, List.flatMap_cons, List.flatMap_nil, List.append_nil]
    split
    · rename_i h
      have h1 := hv x (by simp [Tr.flat]) h
      simp [List.getD_eq_getElem?_getD, h1]
    · rfl
  | .one x a, hok, hp, hv => by
    have ha := trPut_flat bs a hok.2.2.2.2 (fun x hx => hp x (by simp [Tr.flat, hx])) (fun x hx => hv x (by simp [Tr.flat, hx]))
    have hx : ¬ x.1 = 2 := by
      intro e
      have h3 := hok.2.2.1
      rw [e] at h3
      exact absurd (show (0 : Nat) = 1 from h3) (by decide)
    simp only [trPut, Tr.flat]
    rw [putsL_snoc, if_neg hx, ha]
  | .two x a b, hok, hp, hv => by
    have ha := trPut_flat bs a hok.2.2.2.2.2.1 (fun x hx => hp x (by simp [Tr.flat, hx])) (fun x hx => hv x (by simp [Tr.flat, hx]))
    have hb := trPut_flat bs b hok.2.2.2.2.2.2 (fun x hx => hp x (by simp [Tr.flat, hx])) (fun x hx => hv x (by simp [Tr.flat, hx]))
    have hx : ¬ x.1 = 2 := by
      intro e
      have h3 := hok.2.2.1
      rw [e] at h3
      exact absurd (show (0 : Nat) = 2 from h3) (by decide)
    simp only [trPut, Tr.flat]
    rw [putsL_snoc, if_neg hx, ha, hb]
    unfold putsL
    rw [List.flatMap_append]
theorem trPut_kind {wide vars : Int} (bs : List Tr) (hb : ∀ q ∈ bs, q.kind = 1) (r : Tr) (hok : r.Ok wide vars) : (trPut bs r).kind = r.kind := by
  cases r with
  | leaf x =>
    simp only [trPut]
    split
    · rename_i h
      have e : (Tr.leaf x).kind = 1 := by
        show ownOf x.1 = 1
        rw [h]
        rfl
      rw [e, List.getD_eq_getElem?_getD]
      cases hg : bs[x.2.toNat]? with
      | none => exact e
      | some q => exact hb q (List.mem_of_getElem? hg)
    · rfl
  | one x a => rfl
  | two x a b => rfl
theorem trPut_ok {wide vars : Int} (bs : List Tr) (hb : ∀ q ∈ bs, q.kind = 1 ∧ q.Ok wide vars) : ∀ r : Tr, r.Ok wide vars → (trPut bs r).Ok wide vars
  | .leaf x, hok => by
    simp only [trPut]
    split
    · rw [List.getD_eq_getElem?_getD]
      cases hg : bs[x.2.toNat]? with
      | none => exact hok
      | some q => exact (hb q (List.mem_of_getElem? hg)).2
    · exact hok
  | .one x a, hok => by
    have ha := trPut_ok bs hb a hok.2.2.2.2
    exact ⟨hok.1, hok.2.1, hok.2.2.1, by rw [trPut_kind bs (fun q hq => (hb q hq).1) a hok.2.2.2.2]; exact hok.2.2.2.1, ha⟩
  | .two x a b, hok => by
    have ha := trPut_ok bs hb a hok.2.2.2.2.2.1
    have hb' := trPut_ok bs hb b hok.2.2.2.2.2.2
    exact ⟨hok.1, hok.2.1, hok.2.2.1, by rw [trPut_kind bs (fun q hq => (hb q hq).1) a hok.2.2.2.2.2.1]; exact hok.2.2.2.1, by rw [trPut_kind bs (fun q hq => (hb q hq).1) b hok.2.2.2.2.2.2]; exact hok.2.2.2.2.1, ha, hb'⟩
/-- what is put for the variables does as their values do -/
theorem trPut_val (k : Nat) (st : List Int) (bs : List Tr) : ∀ r : Tr, VarsBelow r bs.length → trVal k st (trPut bs r) = trVal k (bs.map (trVal k st)) r
  | .leaf x, hv => by
    simp only [trPut]
    split
    · rename_i h
      have h1 := hv x (by simp [Tr.flat]) h
      simp only [trVal, val0, if_pos h]
      simp [List.getD_eq_getElem?_getD, h1]
    · rename_i h
      simp only [trVal, val0, if_neg h]
  | .one x a, hv => by
    have ha := trPut_val k st bs a (fun x hx => hv x (by simp [Tr.flat, hx]))
    simp only [trPut, trVal, ha]
  | .two x a b, hv => by
    have ha := trPut_val k st bs a (fun x hx => hv x (by simp [Tr.flat, hx]))
    have hb := trPut_val k st bs b (fun x hx => hv x (by simp [Tr.flat, hx]))
    simp only [trPut, trVal, ha, hb]
end Go.Proofs.YtjbfembblgkakaaDoor

namespace Go.Proofs.YtjbfembblgkakaaDoor
open Go Go.RowKit
open M
set_option linter.unusedVariables false

/-- the tree that nodeOver made, among all that lies there -/
theorem tr_all {w w' : World} {S : Nat → Prop} {t : Tr} {b : Nat} (hS : ∀ k, S k → k < w.heap.size) (hb : Below w.heap.size w w') (h : TrAt w' (fun k => S k ∨ (w.heap.size ≤ k ∧ k < w'.heap.size)) t b) : TrAt w' (Old w') t b :=
  TrAt.frame (fun k hk => by
    rcases hk with hk | hk
    · exact Nat.lt_of_lt_of_le (hS k hk) hb.size
    · exact hk.2) (fun _ _ => rfl) h
/-- blocks of S or made since w, which lie there and are not the row's -/
abbrev Mix (S : Nat → Prop) (w wr : World) (v : Value) : Nat → Prop := fun k => (S k ∨ w.heap.size ≤ k) ∧ OldBut wr v k
theorem mix_next {S : Nat → Prop} {w w3 w7 : World} {v v0 v7 : Value} {o : Obj} {l : List Tr} {ps : List Nat} (ht : TrsAt w3 (Mix S w w3 v) l ps) (grow : (w3.alloc o).grownBy w7 v0.ownBlock) (hat : v7.ownBlock = v0.ownBlock ∨ v7.ownBlock = some (w3.heap.size + 1)) (hvb : v0.ownBlock = v.ownBlock) : TrsAt w7 (Mix S w w7 v7) l ps := by
  have hs := grow.size
  rw [show (w3.alloc o).heap.size = w3.heap.size + 1 from by simp] at hs
  refine TrsAt.frame (fun k hk => ⟨hk.1, ?_, ?_⟩) (fun k hk => ?_) ht
  · have := hk.2.1
    omega
  · rcases hat with h | h
    · rw [h, hvb]
      exact hk.2.2
    · rw [h]
      intro e
      have := Option.some.inj e
      have := hk.2.1
      omega
  · rw [grow.block k (by have := hk.2.1; simp; omega) (by rw [hvb]; exact hk.2.2)]
    exact Below.heap_alloc _ _ _ hk.2.1
/-- S or made since w -/
abbrev New (S : Nat → Prop) (w w' : World) : Nat → Prop := fun k => S k ∨ (w.heap.size ≤ k ∧ k < w'.heap.size)
theorem new_low {S : Nat → Prop} {w w1 w' : World} {t : Tr} {b : Nat} (hs : w.heap.size ≤ w1.heap.size) (h : TrAt w' (New S w1 w') t b) : TrAt w' (New S w w') t b :=
  TrAt.frame (fun k hk => hk.elim Or.inl fun h => Or.inr ⟨Nat.le_trans hs h.1, h.2⟩) (fun _ _ => rfl) h
set_option maxRecDepth 100000 in
theorem leafOf_any (S : Nat → Prop) (kind n : Int) (hk : kind = 1 ∨ kind = 2) (w : World) (hS : ∀ k, S k → k < w.heap.size) :
    Calls Tryd.prog 151 #[.int .i64 kind, .int .u64 n] w fun e w' => ∃ b, e = .returned (ptr b) ∧ TrAt w' (New S w w') (.leaf (if kind = 2 then 20 else 1, n)) b ∧ Below w.heap.size w w' := by
  have G : Hid (∀ op : Int, op = 20 ∨ op = 1 → Calls Tryd.prog 139 #[.agg #[.int .i64 op, .int .u64 n], .slice none 0 0] w fun e w' => ∃ b, e = .returned (ptr b) ∧ TrAt w' (New S w w') (.leaf (op, n)) b ∧ Below w.heap.size w w') := by
    intro op hop
    refine (nodeOver_made op n [] [] (.slice none 0 0) w S hS ⟨by simp, Or.inl ⟨rfl, none, 0, rfl⟩⟩ ⟨rfl, fun i a p ha _ => by simp at ha⟩ (by rcases hop with rfl | rfl <;> decide) (by rcases hop with rfl | rfl <;> rfl) (fun q hq => by cases hq) (by simp [sizes])).mono ?_
    rintro e w' ⟨b, he, htr, hb⟩
    exact ⟨b, he, htr, hb⟩
  rcases hk with rfl | rfl
  · have g := G.out 1 (Or.inr rfl)
    clear G
    go_enter Tryd.func151, Tryd.ntmps151
    go_wp2_with fail
    refine g.mono ?_
    rintro e w1 ⟨b, rfl, htr, hb⟩
    have HT : Hid _ := htr
    have HB : Hid _ := hb
    clear g htr hb
    go_wp2_with fail
    go_ret
    exact ⟨_, rfl, HT.out, HB.out⟩
  · have g := G.out 20 (Or.inl rfl)
    clear G
    go_enter Tryd.func151, Tryd.ntmps151
    go_wp2_with fail
    refine g.mono ?_
    rintro e w1 ⟨b, rfl, htr, hb⟩
    have HT : Hid _ := htr
    have HB : Hid _ := hb
    clear g htr hb
    go_wp2_with fail
    go_ret
    exact ⟨_, rfl, HT.out, HB.out⟩
/-- what fold does with a tree -/
def FoldP (k : Nat) (vars : Int) (r : Tr) : Prop := ∀ (S : Nat → Prop) (b : Nat) (w : World), (∀ k, S k → k < w.heap.size) → Tab w → TrAt w (Old w) r b → r.Ok k vars → Pos r → r.size ≤ 100000 →
  Calls Tryd.prog 86 #[ptr b, .int .i64 k] w fun e w' => ∃ b', e = .returned (ptr b') ∧ TrAt w' (New S w w') (trFold k r) b' ∧ Below w.heap.size w w'
set_option maxRecDepth 100000 in
set_option maxHeartbeats 4000000 in
theorem fold_step (k : Nat) (hk1 : 1 ≤ k) (hk : k ≤ 64) (vars : Int) (hv4 : vars ≤ 4) (r : Tr) (ih : ∀ q ∈ r.parts, FoldP k vars q) : FoldP k vars r := by
  intro S b w hSW hT htr hok hp hsz
  have g1 := hasVars_any r k vars hok hp hv4 b w htr
  cases hv : trVar r with
  | false =>
    rw [hv] at g1
    rw [trFold_no k r hv]
    have gV : ∀ w1, Below w.heap.size w w1 → Calls Tryd.prog 81 #[ptr b, .int .i64 k, .slice none 0 0] w1 fun e w' => e = .returned (.int .u64 (trVal k [] r)) ∧ Below w1.heap.size w1 w' :=
      fun w1 hb => value_any k hk1 hk vars [] (.slice none 0 0) (by simp) (by simp) r b w1 (hT.below hb hT.some) (htr.below hb) (Or.inl ⟨rfl, none, 0, rfl⟩) hok hp (novar_below hok hv _)
    have gL : ∀ w1, Below w.heap.size w w1 → Calls Tryd.prog 151 #[.int .i64 r.kind, .int .u64 (trVal k [] r)] w1 fun e w' => ∃ b, e = .returned (ptr b) ∧ TrAt w' (New S w1 w') (.leaf (litN r.nd.1 (trVal k [] r))) b ∧ Below w1.heap.size w1 w' :=
      fun w1 hb => leafOf_any S r.kind (trVal k [] r) (Tr.kind_pos hok) w1 (fun k hk => Nat.lt_of_lt_of_le (hSW k hk) hb.size)
    obtain ⟨ps, ⟨hb0, _, _, n2, _⟩, _⟩ := trAt_open htr
    have GV : Hid _ := gV
    have GL : Hid _ := gL
    have HN2 : Hid (∀ w1, Below w.heap.size w w1 → w1.cell? ⟨b, 2, none⟩ = some (.int .i64 r.kind)) := fun w1 hb => by
      rw [hb.cell (p := ⟨b, 2, none⟩) hb0]
      exact n2
    clear ih hT htr hok hp hv gV gL n2
    generalize trVal k [] r = vv at *
    go_enter Tryd.func86, Tryd.ntmps86
    go_wp2_with fail
    refine g1.mono ?_
    rintro e w1 ⟨rfl, hb1⟩
    clear g1
    have n2 := HN2.out w1 hb1
    have HB1 : Hid _ := hb1
    clear hb1
    go_wp2_with fail
    go_region_with (first | (go_at_call 81; refine (GV.out _ HB1.out.drew).mono ?_; rintro e w2 ⟨rfl, hb2⟩; have HB2 : Hid (Below w.heap.size w w2) := HB1.out.drew.trans (hb2.mono HB1.out.size); have n2' := HN2.out w2 HB2.out; clear hb2) | (go_at_call 151; refine (GL.out _ HB2.out).mono ?_; rintro e w3 ⟨b3, rfl, ht3, hb3⟩; have HT3 : Hid _ := new_low HB2.out.size ht3; have HB3 : Hid (Below w.heap.size w w3) := HB2.out.trans (hb3.mono HB2.out.size); clear ht3 hb3))
    all_goals
      go_wp2_with fail
      go_ret
      exact ⟨_, rfl, HT3.out, HB3.out⟩
  | true =>
    rw [hv] at g1
    rw [trFold_yes k r hv]
    obtain ⟨ps, ⟨hb0, n0, n1, _, _, pvl, n4, hpv⟩, hpt⟩ := trAt_open htr
    obtain ⟨pa, pc, hpsh⟩ := hpv.shape
    have hpl2 : ps.length ≤ 2 := by
      have h2 : r.parts.length ≤ 2 := by cases r <;> simp [Tr.parts]
      have := hpt.1
      omega
    have HN : Hid (∀ w1, Below w.heap.size w w1 → w1.cell? ⟨b, 0, none⟩ = some (.int .i64 r.nd.1) ∧ w1.cell? ⟨b, 1, none⟩ = some (.int .u64 r.nd.2) ∧ w1.cell? ⟨b, 4, none⟩ = some pvl) := fun w1 hb => by
      refine ⟨?_, ?_, ?_⟩
      · rw [hb.cell (p := ⟨b, 0, none⟩) hb0]
        exact n0
      · rw [hb.cell (p := ⟨b, 1, none⟩) hb0]
        exact n1
      · rw [hb.cell (p := ⟨b, 4, none⟩) hb0]
        exact n4
    have HIH : Hid (∀ (j q' : Nat) (q : Tr) (w1 : World), r.parts[j]? = some q → ps[j]? = some q' → Below w.heap.size w w1 → Calls Tryd.prog 86 #[ptr q', .int .i64 k] w1 fun e w' => ∃ b', e = .returned (ptr b') ∧ TrAt w' (New S w1 w') (trFold k q) b' ∧ Below w1.heap.size w1 w') := by
      intro j q' q w1 hq hq' hb1
      have hmem := List.mem_of_getElem? hq
      have hfl : ∀ x ∈ q.flat, x ∈ r.flat := by
        intro x hx
        rw [Tr.flat_eq r]
        exact List.mem_append_left _ (List.mem_flatMap.2 ⟨q, hmem, hx⟩)
      have hqs : q.size ≤ r.size := by
        rw [Tr.size_eq r]
        have := size_le_sizes hmem
        omega
      exact ih q hmem S q' w1 (fun k hk => Nat.lt_of_lt_of_le (hSW k hk) hb1.size) (hT.below hb1 hT.some) ((hpt.2 j q q' hq hq').below hb1) (Tr.ok_parts hok q hmem).2 (fun x hx => hp x (hfl x hx)) (by omega)
    have HMADE : Hid (∀ (bs : List Nat) (v : Value) (w1 : World) (S1 : Nat → Prop), (∀ k, S1 k → k < w1.heap.size) → PtrsAt w1 (Old w1) v bs → TrsAt w1 S1 (r.parts.map (trFold k)) bs → Calls Tryd.prog 139 #[.agg #[.int .i64 r.nd.1, .int .u64 r.nd.2], v] w1 fun e w' => ∃ b', e = .returned (ptr b') ∧ TrAt w' (New S1 w1 w') (Tr.over r.nd (r.parts.map (trFold k))) b' ∧ Below w1.heap.size w1 w') := by
      intro bs v w1 S1 hS1 h1 h2
      obtain ⟨m1, m2, m3⟩ := Tr.ok_nd hok
      refine nodeOver_made r.nd.1 r.nd.2 (r.parts.map (trFold k)) bs v w1 S1 hS1 h1 h2 m1 (by simpa using m3) ?_ ?_
      · intro q hq
        obtain ⟨q0, hq0, rfl⟩ := List.mem_map.1 hq
        rw [trFold_kind k q0 (Tr.ok_parts hok q0 hq0).2]
        exact (Tr.ok_parts hok q0 hq0).1
      · have h3 : ∀ l : List Tr, sizes (l.map (trFold k)) ≤ sizes l := by
          intro l
          induction l with
          | nil => simp [sizes]
          | cons a l ihl =>
            have := trFold_size k a
            simp only [List.map_cons, sizes]
            omega
        have h4 := h3 r.parts
        have h5 := Tr.size_eq r
        omega
    have HPV : Hid _ := hpv
    have HL : Hid (r.parts.length = ps.length) := hpt.1
    have HSW : Hid _ := hSW
    obtain ⟨i0, hi, hz0, hz1, hz2⟩ := info_parts infoPtr
    clear ih hT htr hok hp hv hpv hpt n0 n1 n4 hb0 hSW
    subst hpsh
    generalize hTR : Tr.over r.nd (r.parts.map (trFold k)) = TR at *
    clear hTR
    generalize r.nd.1 = op at *
    generalize r.nd.2 = n at *
    go_enter Tryd.func86, Tryd.ntmps86
    go_wp2_with fail
    refine g1.mono ?_
    rintro e w1 ⟨rfl, hb1⟩
    clear g1
    obtain ⟨_, _, n4⟩ := HN.out w1 hb1
    have HB1 : Hid (Below w.heap.size w w1) := hb1
    clear hb1
    go_wp2_with fail
    go_loopw [5, 24] (fun v i wr => ∃ (j : Nat) (bs : List Nat), j ≤ ps.length ∧ i = .int .i64 j ∧ Hid (wr.ownsRow w.heap.size 101 1 v bs.length (ptrs bs)) ∧ Hid (TrsAt wr (Mix S w wr v) ((r.parts.take j).map (trFold k)) bs) ∧ Hid (Below w.heap.size w wr)) (fun _ i _ => ps.length - (intOf i).toNat)
    case atStart => exact ⟨0, [], by omega, rfl, World.ownsRow_nil _ _ _ _, ⟨rfl, fun i a p ha _ => by simp at ha⟩, HB1⟩
    case round =>
      obtain ⟨j, bs, hj, rfl, HO, HS, HB⟩ := hrel
      have hbl : bs.length = j := by
        have h1 := HS.out.1
        have h2 := HL.out
        simp at h1
        omega
      by_cases hlt' : j < ps.length
      · obtain ⟨p, hp⟩ : ∃ p, ps[j]? = some p := ⟨ps[j], List.getElem?_eq_getElem hlt'⟩
        obtain ⟨q, hq⟩ : ∃ q, r.parts[j]? = some q := ⟨r.parts[j]'(by have := HL.out; omega), List.getElem?_eq_getElem _⟩
        obtain ⟨g, off, rfl, hg, c0⟩ := PtrsAt.at HPV.out hp
        rw [← HB.out.cell (p := ⟨g, off + j, none⟩) hg] at c0
        have gI := HIH.out j p q wr hq hp HB.out
        have HE : Hid ((r.parts.take j).map (trFold k) ++ [trFold k q] = (r.parts.take (j + 1)).map (trFold k)) := by
          show _ = _
          rw [List.take_add_one, hq]
          simp
        obtain ⟨av, cv, hsv⟩ := own_shape HO.out
        have HBL : Hid (bs.length = j) := hbl
        have hb2' : bs.length ≤ 2 := by omega
        clear hp hq hg hbl
        generalize hNL : (r.parts.take (j + 1)).map (trFold k) = NL at *
        have HNL : Hid _ := hNL
        clear hNL
        generalize trFold k q = tq at *
        subst hsv
        go_wp2_with fail
        refine gI.mono ?_
        rintro e w2 ⟨b2, rfl, ht2, hb2⟩
        have HB2 : Hid (Below w.heap.size w w2) := HB.out.trans (hb2.mono HB.out.size)
        have HS2 : Hid (TrsAt w2 (Mix S w w2 (.slice av bs.length cv)) NL (bs ++ [b2])) := by
          show TrsAt _ _ _ _
          rw [← HE.out]
          refine trs_snoc (TrsAt.frame (fun k hk => ⟨hk.1, Nat.lt_of_lt_of_le hk.2.1 hb2.size, hk.2.2⟩) (fun k hk => hb2.block k hk.2.1) HS.out) (TrAt.frame (fun k hk => ?_) (fun _ _ => rfl) ht2)
          rcases hk with hk | hk
          · have h1 := HSW.out k hk
            have h2 := HB2.out.size
            exact ⟨Or.inl hk, by omega, fun e => by have := (HO.out.lt k e.symm).1; omega⟩
          · have h2 := HB.out.size
            exact ⟨Or.inr (by omega), hk.2, fun e => by have := (HO.out.lt k e.symm).2; omega⟩
        have own2 : w2.ownsRow w.heap.size 101 1 (.slice av bs.length cv) bs.length (ptrs bs) := owns_below HO.out hb2
        have HO2 : Hid _ := own2
        have HLX : Hid (ptrs bs ++ [ptr b2] = ptrs (bs ++ [b2]) ∧ bs.length + 1 = (bs ++ [b2]).length) := by
          constructor
          · simp [ptrs]
          · simp
        have own1 := own2.alloc (.cells #[ptr b2] 101)
        generalize ptrs bs = xs0 at own1 HLX
        generalize bs ++ [b2] = NB at *
        have HBx : Hid (Below w.heap.size w (w2.alloc (.cells #[ptr b2] 101))) := HB2.out.alloc HB2.out.size _
        have cellsN := onePtr_cells w2 b2
        clear gI ht2 hb2 own2
        go_wp2_with (at_builtin; refine wpList_append_own_at _ rfl _ _ 118 rfl w.heap.size 101 i0 (.pointer none) 1 8 Tryd.underlying118 hi hz0 hz1 hz2 rfl (by decide) _ _ _ rfl own1 ⟨w2.heap.size, 0, none⟩ 1 1 [ptr b2] rfl rfl cellsN (by intro u hu; simp at hu; subst hu; rfl) (by unfold maxLen; omega) (by omega) (by have h := HB2.out.size; simp; omega) ?_)
        intro v7 w7 own7 grow7 _ hat7
        have HO7 : Hid (w7.ownsRow w.heap.size 101 1 v7 NB.length (ptrs NB)) := by
          show World.ownsRow _ _ _ _ _ _ _
          rw [← HLX.out.1, ← HLX.out.2]
          exact own7
        have HT7 : Hid (TrsAt w7 (Mix S w w7 v7) NL NB) := mix_next HS2.out grow7 hat7 rfl
        have HB7 : Hid (Below w.heap.size w w7) := HBx.out.grown grow7 HBx.out.size (fun k hk => (World.ownsRow.lt HO2.out k hk).1)
        clear own1 own7 grow7 hat7 cellsN
        go_wp2_with fail
        go_roundw
        case rel => exact ⟨j + 1, NB, by omega, by go_num, HO7, by rw [HNL.out]; exact HT7, HB7⟩
        case measure => simp [intOf]; omega
      · obtain rfl : j = ps.length := by omega
        have hall : (r.parts.take ps.length).map (trFold k) = r.parts.map (trFold k) := by
          rw [← HL.out, List.take_length]
        have hS2 := HS.out
        rw [hall] at hS2
        obtain ⟨av, cv, hsv⟩ := own_shape HO.out
        have g9 := HMADE.out bs u5 wr (Mix S w wr u5) (fun k hk => hk.2.1) (ptrs_of_own HO.out (by omega)) hS2
        obtain ⟨n0, n1, _⟩ := HN.out wr HB.out
        clear hS2 hall HS HIH HPV HMADE hbl
        subst hsv
        go_wp2_with fail
        refine g9.mono ?_
        rintro e w9 ⟨b9, rfl, ht9, hb9⟩
        have HT9 : Hid (TrAt w9 (fun k => S k ∨ (w.heap.size ≤ k ∧ k < w9.heap.size)) TR b9) := by
          refine TrAt.frame (fun k hk => ?_) (fun _ _ => rfl) ht9
          have h2 := HB.out.size
          have h3 := hb9.size
          rcases hk with hk | hk
          · rcases hk.1 with h1 | h1
            · exact Or.inl h1
            · exact Or.inr ⟨h1, Nat.lt_of_lt_of_le hk.2.1 h3⟩
          · exact Or.inr ⟨by omega, hk.2⟩
        have HB9 : Hid (Below w.heap.size w w9) := HB.out.trans (hb9.mono HB.out.size)
        clear g9 ht9 hb9
        go_wp2_with fail
        go_ret
        exact ⟨_, rfl, HT9.out, HB9.out⟩
theorem fold_any (k : Nat) (hk1 : 1 ≤ k) (hk : k ≤ 64) (vars : Int) (hv4 : vars ≤ 4) : ∀ r : Tr, FoldP k vars r := Tr.ind (fold_step k hk1 hk vars hv4)
end Go.Proofs.YtjbfembblgkakaaDoor

namespace Go.Proofs.YtjbfembblgkakaaDoor
open Go Go.RowKit
open M
set_option linter.unusedVariables false

set_option maxRecDepth 100000 in
set_option maxHeartbeats 1000000 in
theorem impl_FoldTerm : DoesFoldTerm := by
  intro wide vars v t w hT h hl hcap hw0 hw1 hv0 hv1
  by_cases hk : 0 < kindL wide vars t
  · obtain ⟨g1, g2, g3, g4, g5, r, hr, k1, k2, k3⟩ := root_tree hk
    have g := rootOf_yes wide vars v t w hT h r hk hr
    have hfl := foldL_tree hk hr
    rw [decide_eq_true hk, hfl]
    obtain ⟨k, rfl, hk1, hk64⟩ := wideB_true g1
    rw [Int.toNat_natCast]
    have hsz : r.size ≤ 48 := by
      have := r.flat_len
      rw [k2] at this
      omega
    have hp : Pos r := by
      intro x hx
      rw [k2] at hx
      exact (h.1 x hx).2.2.1
    have GF : Hid (∀ (b : Nat) (w1 : World), Below w.heap.size w w1 → TrAt w1 (Old w1) r b → Calls Tryd.prog 86 #[ptr b, .int .i64 k] w1 fun e w' => ∃ b', e = .returned (ptr b') ∧ TrAt w' (New (fun _ => False) w1 w') (trFold k r) b' ∧ Below w1.heap.size w1 w') :=
      fun b w1 hb htr => fold_any k hk1 hk64 vars g3 r (fun _ => False) b w1 (fun k hk => hk.elim) (hT.below hb hT.some) htr k1 hp (by omega)
    have HSZ : Hid ((trFold k r).size ≤ 48) := Nat.le_trans (trFold_size k r) hsz
    generalize trFold k r = tf at *
    clear hT h hk hr k1 k2 k3 hfl hp hsz g1 hcap
    go_enter Tryd.func22, Tryd.ntmps22
    go_wp2_with fail
    refine g.mono ?_
    rintro e w1 ⟨b, rfl, htr, hb1⟩
    have g7 := GF.out b w1 hb1 htr
    have HB1 : Hid _ := hb1
    clear g htr hb1 GF
    go_wp2_with fail
    refine g7.mono ?_
    rintro e w2 ⟨b2, rfl, ht2, hb2⟩
    have g8 := nodesOf_yes tf b2 w2 (TrAt.frame (fun k hk => by
      rcases hk with hk | hk
      · exact hk.elim
      · exact hk.2) (fun _ _ => rfl) ht2) HSZ.out
    have HB2 : Hid (Below w.heap.size w w2) := HB1.out.trans (hb2.mono HB1.out.size)
    clear g7 ht2 hb2
    go_wp2_with fail
    refine g8.mono ?_
    rintro e w3 ⟨v3, rfl, ho3, hb3⟩
    have HO3 : Hid (OwnNodes w3 w.heap.size v3 tf.flat) := ho3.low HB2.out.size
    have HB3 : Hid (Below w.heap.size w w3) := HB2.out.trans (hb3.mono HB2.out.size)
    clear g8 ho3 hb3
    go_wp2_with fail
    go_ret2
    exact ⟨_, rfl, HO3.out, HB3.out⟩
  · have g := rootOf_no wide vars v t w hT h hk
    have e1 : foldL wide vars t = [] := by
      unfold foldL
      rw [if_neg hk]
    rw [decide_eq_false hk, e1]
    clear hT h hk e1 hcap
    go_enter Tryd.func22, Tryd.ntmps22
    go_wp2_with fail
    refine g.mono ?_
    rintro e w1 ⟨rfl, hb1⟩
    have HB1 : Hid _ := hb1
    clear g hb1
    go_wp2_with fail
    go_ret2
    exact ⟨_, rfl, World.ownsRow_nil _ _ _ _, HB1.out⟩
end Go.Proofs.YtjbfembblgkakaaDoor
