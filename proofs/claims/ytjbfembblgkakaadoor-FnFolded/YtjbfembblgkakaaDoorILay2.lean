/-
  The program's nodesOf, TurnTerm and JoinTerms.
-/
import Derived.Test.YtjbfembblgkakaaDoorILay
namespace Go.Proofs.YtjbfembblgkakaaDoor
open Go Go.RowKit
open M
set_option linter.unusedVariables false

set_option maxRecDepth 100000 in
theorem nodesOf_nil (w : World) : Calls Tryd.prog 85 #[.pointer none] w fun e w' => e = .returned (.tuple #[.slice none 0 0, .bool false]) ∧ w' = w := by
  go_enter Tryd.func85, Tryd.ntmps85
  go_wp2_with fail
  go_ret2
  exact ⟨rfl, rfl⟩
set_option maxRecDepth 100000 in
theorem nodesOf_long (r : Tr) (b : Nat) (w : World) (S : Nat → Prop) (ht : TrAt w S r b) (hs : 48 < r.size) : Calls Tryd.prog 85 #[ptr b] w fun e w' => e = .returned (.tuple #[.slice none 0 0, .bool false]) ∧ w' = w := by
  obtain ⟨ps, ⟨_, _, _, _, n3, _⟩, _⟩ := trAt_open ht
  clear ht
  go_enter Tryd.func85, Tryd.ntmps85
  go_wp2_with fail
  go_ret2
  exact ⟨rfl, rfl⟩
set_option maxRecDepth 100000 in
theorem nodesOf_yes (r : Tr) (b : Nat) (w : World) (ht : TrAt w (Old w) r b) (hs : r.size ≤ 48) : Calls Tryd.prog 85 #[ptr b] w fun e w' => ∃ v', e = .returned (.tuple #[v', .bool true]) ∧ OwnNodes w' w.heap.size v' r.flat ∧ Below w.heap.size w w' := by
  obtain ⟨ps, ⟨_, _, _, _, n3, _⟩, _⟩ := trAt_open ht
  have HT : Hid _ := ht
  obtain ⟨i0, hi, hz0, hz1, hz2⟩ := info_parts infoNode
  have HSS : Hid (r.size ≤ 48) := hs
  clear ht
  go_enter Tryd.func85, Tryd.ntmps85
  go_wp2_with (at_make; refine wpList_make_own _ rfl _ _ 24 rfl w.heap.size 112 i0 (.agg #[.int .i64 0, .int .u64 0]) 2 Tryd.underlying24 hi hz0 hz1 .i64 .i64 _ r.size rfl rfl rfl (by rw [hz2]; omega) (by unfold maxLen; omega) (Nat.le_refl _) ?_)
  intro w1 own1 grow1
  have g := layBehind_any r b [] (.slice (some ⟨w.heap.size, 0, none⟩) 0 r.size) w1 w.heap.size (TrAt.frame (fun k hk => ⟨Nat.lt_of_lt_of_le hk grow1.size, fun e => by have h1 : k = w.heap.size := Option.some.inj e; have h2 : k < w.heap.size := hk; omega⟩) (fun k hk => grow1.block k hk (by simp)) HT.out) own1 grow1.size (by have := HSS.out; simp; omega)
  have HB1 : Hid (Below w.heap.size w w1) := (Below.refl _ _).grown grow1 (Nat.le_refl _) (fun k hk => by cases hk)
  clear own1 grow1 n3
  go_wp2_with fail
  refine g.mono ?_
  rintro e w2 ⟨v2, rfl, ho2, hl2⟩
  have HO : Hid (OwnNodes w2 w.heap.size v2 r.flat) := ho2
  have HB : Hid (Below w.heap.size w w2) := HB1.out.grown hl2.1 HB1.out.size (fun k hk => by have e : w.heap.size = k := Option.some.inj hk; omega)
  clear g ho2 hl2
  go_wp2_with fail
  go_ret2
  exact ⟨_, rfl, HO.out, HB.out⟩
/-- parts that are not those that the op wants -/
theorem nodeOver_not (op n : Int) (qs : List (Option (Nat × Tr))) (g : Nat) (cap : Nat) (w : World) (hl : qs.length ≤ 48) (hg : g < w.heap.size)
    (hc : ∀ (i : Nat) (q : Option (Nat × Tr)), qs[i]? = some q → w.cell? ⟨g, i, none⟩ = some (pv q))
    (ht : ∀ (b : Nat) (a : Tr), some (b, a) ∈ qs → TrAt w (Old w) a b ∧ a.size ≤ 1000000)
    (hbad : ¬ (¬ ownOf op = 0 ∧ manyOf op = qs.length ∧ ∀ q ∈ qs, ∃ b a, q = some (b, a) ∧ a.kind = partOf op)) :
    Calls Tryd.prog 139 #[.agg #[.int .i64 op, .int .u64 n], .slice (some ⟨g, 0, none⟩) qs.length cap] w fun e w' => e = .returned (.pointer none) ∧ Below w.heap.size w w' := by
  by_cases h0 : ownOf op = 0 ∨ qs.length ≠ manyOf op
  · exact nodeOver_shape op n _ _ cap (by omega) h0 w
  · have h1 : ¬ ownOf op = 0 := fun e => h0 (Or.inl e)
    have h2 : manyOf op = qs.length := Classical.byContradiction fun e => h0 (Or.inr (fun e2 => e e2.symm))
    exact nodeOver_bad op n qs _ cap w h1 h2 (fun i q hq => ⟨g, 0, rfl, hg, by rw [Nat.zero_add]; exact hc i q hq⟩) ht (fun h => hbad ⟨h1, h2, h⟩)
/-- a root that may be none -/
def RootQ (wide vars : Int) (t : List Nd) (q : Option (Nat × Tr)) (w : World) : Prop :=
  match q with
  | none => ¬ 0 < kindL wide vars t
  | some (b, r) => 0 < kindL wide vars t ∧ pileT wide vars t t.length = some [⟨0, r.kind, r⟩] ∧ TrAt w (Old w) r b ∧ r.Ok wide vars ∧ r.flat = t ∧ r.kind = kindL wide vars t ∧ t.length ≤ 48 ∧ wideB wide = true ∧ 1 ≤ vars ∧ vars ≤ 4
theorem RootQ.below {wide vars : Int} {t : List Nd} {q : Option (Nat × Tr)} {w w' : World} (h : RootQ wide vars t q w) (hb : Below w.heap.size w w') : RootQ wide vars t q w' := by
  match q, h with
  | none, h => exact h
  | some (b, r), ⟨h1, h2, h3, h4⟩ => exact ⟨h1, h2, h3.below hb, h4⟩
theorem rootOf_q (wide vars : Int) (v : Value) (t : List Nd) (w : World) (hT : Tab w) (h : NodesAt w v t) :
    Calls Tryd.prog 79 #[.int .i64 wide, .int .i64 vars, v] w fun e w' => ∃ q, e = .returned (pv q) ∧ RootQ wide vars t q w' ∧ Below w.heap.size w w' := by
  by_cases hk : 0 < kindL wide vars t
  · obtain ⟨g1, g2, g3, g4, g5, r, hr, k1, k2, k3⟩ := root_tree hk
    refine (rootOf_yes wide vars v t w hT h r hk hr).mono ?_
    rintro e w' ⟨p, he, htr, hb⟩
    exact ⟨some (p, r), he, ⟨hk, hr, htr, k1, k2, k3, g5, g1, g2, g3⟩, hb⟩
  · refine (rootOf_no wide vars v t w hT h hk).mono ?_
    rintro e w' ⟨he, hb⟩
    exact ⟨none, he, hk, hb⟩
theorem RootQ.tree {wide vars : Int} {t : List Nd} {q : Option (Nat × Tr)} {w : World} (h : RootQ wide vars t q w) : ∀ (b : Nat) (a : Tr), q = some (b, a) → TrAt w (Old w) a b ∧ a.size ≤ 1000000 := by
  rintro b a rfl
  obtain ⟨h1, h2, h3, h4, h5, h6, h7, h8⟩ := h
  refine ⟨h3, ?_⟩
  have := a.flat_len
  rw [h5] at this
  omega
theorem okN_zero {wide vars op : Int} (h : manyOf op ≠ 0) : okN wide vars op 0 = true := by
  unfold okN
  rw [if_neg (by rintro rfl; exact h rfl), if_neg (by rintro rfl; exact h rfl), if_neg (by rintro rfl; exact h rfl)]
  rfl
theorem many_ops {op : Int} (h : manyOf op ≠ 0) : op = 13 ∨ op = 19 ∨ (3 ≤ op ∧ op ≤ 12) ∨ (14 ≤ op ∧ op ≤ 18) := by
  unfold manyOf at h
  split at h
  · omega
  · split at h
    · omega
    · exact absurd rfl h
theorem own_many {op : Int} (h : manyOf op ≠ 0) : ¬ ownOf op = 0 := by
  have := many_ops h
  unfold ownOf
  split
  · decide
  · split
    · decide
    · omega
theorem part_many {op : Int} (h : manyOf op ≠ 0) : 0 < partOf op := by
  have := many_ops h
  unfold partOf
  split
  · decide
  · split
    · decide
    · omega
theorem oneV_cells (w : World) (x : Value) : (w.alloc (.cells #[x] 101)).cell? ⟨w.heap.size, 0, none⟩ = some x := by simp
/-- what comes of a node over parts -/
theorem made_nodes (r : Tr) (b : Nat) (w : World) (ht : TrAt w (Old w) r b) (wide vars : Int) (hok : r.Ok wide vars) (hw : wideB wide = true) (h1 : 1 ≤ vars) (h4 : vars ≤ 4) :
    Calls Tryd.prog 85 #[ptr b] w fun e w' => ∃ v', e = .returned (.tuple #[v', .bool (decide (0 < kindL wide vars r.flat))]) ∧ OwnNodes w' w.heap.size v' (madeL wide vars r.flat) ∧ Below w.heap.size w w' := by
  unfold madeL
  by_cases hs : r.size ≤ 48
  · have hk := Tr.kindL_eq hok hw h1 h4 hs
    have hp : 0 < kindL wide vars r.flat := by
      rw [hk]
      have := Tr.kind_pos hok
      omega
    rw [if_pos hp, decide_eq_true hp]
    exact nodesOf_yes r b w ht hs
  · have hk := Tr.kindL_long (wide := wide) (vars := vars) (t := r) (by omega)
    have hp : ¬ 0 < kindL wide vars r.flat := by omega
    rw [if_neg hp, decide_eq_false hp]
    refine (nodesOf_long r b w (Old w) ht (by omega)).mono ?_
    rintro e w' ⟨rfl, rfl⟩
    exact ⟨_, rfl, World.ownsRow_nil _ _ _ _, Below.refl _ _⟩
end Go.Proofs.YtjbfembblgkakaaDoor
