/-
  Plain mathematics for terms as trees: a term's tree, its nodes in a row, its kind and size; what the pile makes of trees it makes of all that is read off them. No program stands in it.
-/
import Derived.Test.YtjbfembblgkakaaDoorValue
namespace Go.Proofs.YtjbfembblgkakaaDoor.M
open Go

/-- a term as a tree -/
inductive Tr where
  | leaf (x : Nd)
  | one (x : Nd) (a : Tr)
  | two (x : Nd) (a b : Tr)
def Tr.nd : Tr → Nd
  | .leaf x => x
  | .one x _ => x
  | .two x _ _ => x
def Tr.parts : Tr → List Tr
  | .leaf _ => []
  | .one _ a => [a]
  | .two _ a b => [a, b]
def Tr.size : Tr → Nat
  | .leaf _ => 1
  | .one _ a => 1 + a.size
  | .two _ a b => 1 + a.size + b.size
def Tr.flat : Tr → List Nd
  | .leaf x => [x]
  | .one x a => a.flat ++ [x]
  | .two x a b => a.flat ++ b.flat ++ [x]
def Tr.kind (t : Tr) : Int := ownOf t.nd.1
/-- each node has the parts that its op wants -/
def Tr.Ok (wide vars : Int) : Tr → Prop
  | .leaf x => ¬ ownOf x.1 = 0 ∧ okN wide vars x.1 x.2 = true ∧ manyOf x.1 = 0
  | .one x a => ¬ ownOf x.1 = 0 ∧ okN wide vars x.1 x.2 = true ∧ manyOf x.1 = 1 ∧ a.kind = partOf x.1 ∧ a.Ok wide vars
  | .two x a b => ¬ ownOf x.1 = 0 ∧ okN wide vars x.1 x.2 = true ∧ manyOf x.1 = 2 ∧ a.kind = partOf x.1 ∧ b.kind = partOf x.1 ∧ a.Ok wide vars ∧ b.Ok wide vars
theorem Tr.flat_len : ∀ t : Tr, t.flat.length = t.size
  | .leaf _ => rfl
  | .one _ a => by
    have := a.flat_len
    simp only [Tr.flat, Tr.size, List.length_append, List.length_singleton]
    omega
  | .two _ a b => by
    have := a.flat_len
    have := b.flat_len
    simp only [Tr.flat, Tr.size, List.length_append, List.length_singleton]
    omega
theorem Tr.size_pos : ∀ t : Tr, 1 ≤ t.size
  | .leaf _ => Nat.le_refl _
  | .one _ a => by simp only [Tr.size]; omega
  | .two _ a b => by simp only [Tr.size]; omega
theorem Tr.ind {P : Tr → Prop} (h : ∀ t, (∀ q ∈ t.parts, P q) → P t) : ∀ t, P t
  | .leaf x => h _ (fun q hq => by cases hq)
  | .one x a => h _ (fun q hq => by
    have ha := Tr.ind h a
    simp only [Tr.parts, List.mem_singleton] at hq
    subst hq
    exact ha)
  | .two x a b => h _ (fun q hq => by
    have ha := Tr.ind h a
    have hb := Tr.ind h b
    simp only [Tr.parts, List.mem_cons, List.not_mem_nil, or_false] at hq
    rcases hq with rfl | rfl
    · exact ha
    · exact hb)
def sizes : List Tr → Nat
  | [] => 0
  | a :: l => a.size + sizes l
theorem sizes_append : ∀ l m : List Tr, sizes (l ++ m) = sizes l + sizes m
  | [], m => by simp [sizes]
  | a :: l, m => by
    have := sizes_append l m
    simp only [List.cons_append, sizes]
    omega
theorem Tr.size_eq (t : Tr) : t.size = 1 + sizes t.parts := by
  cases t <;> simp only [Tr.size, Tr.parts, sizes] <;> omega
theorem Tr.flat_eq (t : Tr) : t.flat = t.parts.flatMap Tr.flat ++ [t.nd] := by
  cases t <;> simp [Tr.flat, Tr.parts, Tr.nd]
theorem Tr.ok_nd {wide vars : Int} {t : Tr} (h : t.Ok wide vars) : ¬ ownOf t.nd.1 = 0 ∧ okN wide vars t.nd.1 t.nd.2 = true ∧ manyOf t.nd.1 = t.parts.length := by
  cases t with
  | leaf x => exact ⟨h.1, h.2.1, h.2.2⟩
  | one x a => exact ⟨h.1, h.2.1, h.2.2.1⟩
  | two x a b => exact ⟨h.1, h.2.1, h.2.2.1⟩
theorem Tr.ok_parts {wide vars : Int} {t : Tr} (h : t.Ok wide vars) : ∀ q ∈ t.parts, q.kind = partOf t.nd.1 ∧ q.Ok wide vars := by
  cases t with
  | leaf x => intro q hq; cases hq
  | one x a =>
    intro q hq
    simp only [Tr.parts, List.mem_singleton] at hq
    subst hq
    exact ⟨h.2.2.2.1, h.2.2.2.2⟩
  | two x a b =>
    intro q hq
    simp only [Tr.parts, List.mem_cons, List.not_mem_nil, or_false] at hq
    rcases hq with rfl | rfl
    · exact ⟨h.2.2.2.1, h.2.2.2.2.2.1⟩
    · exact ⟨h.2.2.2.2.1, h.2.2.2.2.2.2⟩
/-- a tree over parts -/
def Tr.over (x : Nd) : List Tr → Tr
  | [a] => .one x a
  | [a, b] => .two x a b
  | _ => .leaf x
theorem Tr.over_parts (x : Nd) (l : List Tr) (h : l.length ≤ 2) : (Tr.over x l).parts = l ∧ (Tr.over x l).nd = x := by
  match l, h with
  | [], _ => exact ⟨rfl, rfl⟩
  | [a], _ => exact ⟨rfl, rfl⟩
  | [a, b], _ => exact ⟨rfl, rfl⟩
  | _ :: _ :: _ :: _, h => simp at h
theorem Tr.over_ok {wide vars : Int} {x : Nd} {l : List Tr} (h1 : ¬ ownOf x.1 = 0) (h2 : okN wide vars x.1 x.2 = true) (h3 : manyOf x.1 = l.length) (h4 : ∀ q ∈ l, q.kind = partOf x.1 ∧ q.Ok wide vars) : (Tr.over x l).Ok wide vars := by
  have := manyOf_le x.1
  match l, h3, h4 with
  | [], h3, h4 => exact ⟨h1, h2, h3⟩
  | [a], h3, h4 => exact ⟨h1, h2, h3, (h4 a (by simp)).1, (h4 a (by simp)).2⟩
  | [a, b], h3, h4 => exact ⟨h1, h2, h3, (h4 a (by simp)).1, (h4 b (by simp)).1, (h4 a (by simp)).2, (h4 b (by simp)).2⟩
  | _ :: _ :: _ :: _, h3, _ => simp at h3; omega
theorem Tr.over_self (t : Tr) : Tr.over t.nd t.parts = t := by
  cases t <;> rfl
/-- a tree's nodes lay its kind on the pile -/
theorem Tr.fold_flat {wide vars : Int} : ∀ (t : Tr) (p : List Int), t.Ok wide vars → foldK wide vars t.flat p = some (p ++ [t.kind])
  | .leaf x, p, h => by
    obtain ⟨h1, h2, h3⟩ := h
    simp only [Tr.flat, foldK, stepK]
    rw [if_neg (by rw [h2, h3]; simp [h1]), h3]
    rfl
  | .one x a, p, h => by
    obtain ⟨h1, h2, h3, h4, h5⟩ := h
    have ia := Tr.fold_flat a p h5
    rw [Tr.flat, foldK_append, ia]
    simp only [Option.bind_some, foldK, stepK]
    rw [if_neg (by rw [h2, h3]; simp [h1]), h3]
    rw [show (Tr.one x a).kind = ownOf x.1 from rfl]
    simp [popN, h4]
  | .two x a b, p, h => by
    obtain ⟨h1, h2, h3, h4, h4', h5, h6⟩ := h
    have ia := Tr.fold_flat a p h5
    have ib := Tr.fold_flat b (p ++ [a.kind]) h6
    rw [Tr.flat, foldK_append, foldK_append, ia]
    simp only [Option.bind_some]
    rw [ib]
    simp only [Option.bind_some, foldK, stepK]
    rw [if_neg (by rw [h2, h3]; simp [h1]), h3]
    rw [show (Tr.two x a b).kind = ownOf x.1 from rfl]
    simp [popN, h4, h4']
theorem Tr.kind_pos {wide vars : Int} {t : Tr} (h : t.Ok wide vars) : t.kind = 1 ∨ t.kind = 2 := by
  have h1 := (Tr.ok_nd h).1
  have := ownOf_range t.nd.1
  unfold Tr.kind
  omega
theorem Tr.kindL_eq {wide vars : Int} {t : Tr} (h : t.Ok wide vars) (hw : wideB wide = true) (h1 : 1 ≤ vars) (h4 : vars ≤ 4) (hs : t.size ≤ 48) : kindL wide vars t.flat = t.kind := by
  have hl := t.flat_len
  have hp := t.size_pos
  unfold kindL
  rw [if_pos ⟨hw, h1, h4, by omega, by omega⟩, Tr.fold_flat t [] h]
  rfl
theorem Tr.kindL_long {wide vars : Int} {t : Tr} (hs : 48 < t.size) : kindL wide vars t.flat = 0 := by
  have hl := t.flat_len
  unfold kindL
  rw [if_neg (by intro h; omega)]
/-- what is read off entries -/
def Ent.map {α β : Type} (h : α → β) (e : Ent α) : Ent β := ⟨e.at0, e.kind, h e.val⟩
section
variable {α β : Type} {wide vars : Int} {f0 : Nd → α} {f1 : Nd → α → α} {f2 : Nd → α → α → α} {g0 : Nd → β} {g1 : Nd → β → β} {g2 : Nd → β → β → β}
theorem stepE_map (h : α → β) (h0 : ∀ x, h (f0 x) = g0 x) (h1 : ∀ x a, h (f1 x a) = g1 x (h a)) (h2 : ∀ x a b, h (f2 x a b) = g2 x (h a) (h b)) (i : Nat) (p : List (Ent α)) (x : Nd) :
    stepE wide vars g0 g1 g2 i (p.map (Ent.map h)) x = (stepE wide vars f0 f1 f2 i p x).map (List.map (Ent.map h)) := by
  unfold stepE
  split
  · rfl
  split
  · simp [Ent.map, h0]
  split
  · match p with
    | [] => rfl
    | d :: r =>
      simp only [List.map_cons]
      show (if d.kind = _ then _ else _) = _
      split
      · simp [Ent.map, h1]
      · rfl
  · match p with
    | [] => rfl
    | [_] => rfl
    | d :: c :: r =>
      simp only [List.map_cons]
      show (if d.kind = _ ∧ c.kind = _ then _ else _) = _
      split
      · simp [Ent.map, h2]
      · rfl
theorem pileE_map (h : α → β) (h0 : ∀ x, h (f0 x) = g0 x) (h1 : ∀ x a, h (f1 x a) = g1 x (h a)) (h2 : ∀ x a b, h (f2 x a b) = g2 x (h a) (h b)) (t : List Nd) :
    ∀ j, pileE wide vars g0 g1 g2 t j = (pileE wide vars f0 f1 f2 t j).map (List.map (Ent.map h))
  | 0 => rfl
  | j + 1 => by
    simp only [pileE]
    rw [pileE_map h h0 h1 h2 t j]
    cases pileE wide vars f0 f1 f2 t j with
    | none => rfl
    | some p =>
      simp only [Option.map_some, Option.bind_some]
      cases t[j]? with
      | none => rfl
      | some x =>
        simp only [Option.bind_some]
        exact stepE_map h h0 h1 h2 j p x
end
/-- the pile of trees -/
abbrev pileT (wide vars : Int) (t : List Nd) (j : Nat) : Option (List (Ent Tr)) := pileE wide vars Tr.leaf Tr.one Tr.two t j
abbrev EntOk (wide vars : Int) (e : Ent Tr) : Prop := e.val.Ok wide vars ∧ e.kind = e.val.kind
theorem pileT_ok {wide vars : Int} {t : List Nd} : ∀ (j : Nat) (p : List (Ent Tr)), pileT wide vars t j = some p → (∀ e ∈ p, EntOk wide vars e) ∧ (p.reverse.flatMap fun e => e.val.flat) = t.take j
  | 0, p, h => by
    simp only [pileE, Option.some.injEq] at h
    subst h
    exact ⟨fun e he => (by cases he), rfl⟩
  | j + 1, q, h => by
    obtain ⟨p, x, hp, hx, hs⟩ := pileE_step h
    obtain ⟨i1, i2⟩ := pileT_ok j p hp
    have e : t.take (j + 1) = t.take j ++ [x] := by
      rw [List.take_add_one, hx]
      rfl
    rw [e, ← i2]
    obtain ⟨n1, n2, ⟨m0, rfl⟩ | ⟨m1, d, r, rfl, hd, rfl⟩ | ⟨m2, d, c, r, rfl, hd, hc, rfl⟩⟩ := stepE_inv hs
    · refine ⟨?_, by simp [Tr.flat]⟩
      intro e he
      rcases List.mem_cons.1 he with rfl | he
      · exact ⟨⟨n1, n2, m0⟩, rfl⟩
      · exact i1 e he
    · have id := i1 d (by simp)
      refine ⟨?_, by simp [Tr.flat]⟩
      intro e he
      rcases List.mem_cons.1 he with rfl | he
      · exact ⟨⟨n1, n2, m1, by rw [← id.2, hd], id.1⟩, rfl⟩
      · exact i1 e (by simp [he])
    · have id := i1 d (by simp)
      have ic := i1 c (by simp)
      refine ⟨?_, by simp [Tr.flat]⟩
      intro e he
      rcases List.mem_cons.1 he with rfl | he
      · exact ⟨⟨n1, n2, m2, by rw [← ic.2, hc], by rw [← id.2, hd], ic.1, id.1⟩, rfl⟩
      · exact i1 e (by simp [he])
/-- the pile stands just where the plain one does -/
theorem foldK_of_pileT {wide vars : Int} {t : List Nd} {j : Nat} {p : List (Ent Tr)} (h : pileT wide vars t j = some p) : foldK wide vars (t.take j) [] = some (p.map Ent.kind).reverse := by
  obtain ⟨h1, h2⟩ := pileT_ok j p h
  rw [← h2]
  have aux : ∀ (l : List (Ent Tr)) (q : List Int), (∀ e ∈ l, EntOk wide vars e) → foldK wide vars (l.flatMap fun e => e.val.flat) q = some (q ++ l.map Ent.kind) := by
    intro l
    induction l with
    | nil => intro q _; simp [foldK]
    | cons e l ih =>
      intro q hq
      have he := hq e (by simp)
      rw [List.flatMap_cons, foldK_append, Tr.fold_flat e.val q he.1]
      simp only [Option.bind_some]
      rw [ih _ (fun e he => hq e (by simp [he])), ← he.2]
      simp
  rw [aux p.reverse [] (fun e he => h1 e (by simpa using he))]
  simp
/-- the tree of a good term -/
theorem root_tree {wide vars : Int} {t : List Nd} (h : 0 < kindL wide vars t) : wideB wide = true ∧ 1 ≤ vars ∧ vars ≤ 4 ∧ 1 ≤ t.length ∧ t.length ≤ 48 ∧ ∃ r : Tr, pileT wide vars t t.length = some [⟨0, r.kind, r⟩] ∧ r.Ok wide vars ∧ r.flat = t ∧ r.kind = kindL wide vars t := by
  obtain ⟨g1, g2, g3, g4, g5, e, ⟨r, hr⟩, hk⟩ := tree_root (f0 := Tr.leaf) (f1 := Tr.one) (f2 := Tr.two) h
  refine ⟨g1, g2, g3, g4, g5, e.val, ?_⟩
  rw [show t.length - 1 + 1 = t.length from by omega] at hr
  have hf := foldK_of_pileT hr
  rw [List.take_length] at hf
  have hr0 : r = [] := by
    unfold kindL at h
    rw [if_pos ⟨g1, g2, g3, g4, g5⟩, hf] at h
    cases r with
    | nil => rfl
    | cons d r =>
      exfalso
      generalize hq : (List.map Ent.kind (e :: d :: r)).reverse = q at h
      have hl := congrArg List.length hq
      simp at hl
      match q, hl, h with
      | [], hl, h => simp at h
      | [_], hl, h => simp at hl
      | _ :: _ :: _, hl, h => simp at h
  subst hr0
  obtain ⟨k1, k2⟩ := pileT_ok t.length [e] hr
  obtain ⟨k3, k4⟩ := k1 e (by simp)
  have hb := pile_below (t.length - 1) (t.length - 1) (Nat.le_refl _) e [] (by rw [show t.length - 1 + 1 = t.length from by omega]; exact hr)
  have h0 : e.at0 = 0 := by
    have h2 := (pileT_ok _ _ hb.2).2
    simp at h2
    rcases h2 with h2 | h2
    · exact h2
    · rw [h2] at g4
      simp at g4
  refine ⟨?_, k3, by simpa using k2, by rw [← k4, hk]⟩
  show pileE wide vars Tr.leaf Tr.one Tr.two t t.length = _
  rw [hr, ← k4, ← h0]
end Go.Proofs.YtjbfembblgkakaaDoor.M
