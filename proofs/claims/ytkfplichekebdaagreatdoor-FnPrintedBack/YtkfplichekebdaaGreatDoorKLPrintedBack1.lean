/-
  Lists of tokens: comparisons, marks that the laws lay into them and look for again.
  The program's nodesOf, TurnTerm and JoinTerms.
  The model's reader of terms: its fields in memory, and what each of its small methods does.
  The model's reader of terms: kinds and leaves.
  Plain mathematics: what is read of tokens stands at their front.
  The model's reader of terms: a leaf, whatever its text is.
  How long runs of bytes are: the program's runSize, digitsSize, lettersSize.
  Where the library's functions that chapter 3 calls lie in this program: for their contracts.
  How long signs are: the program's signSize, bracketSize.
  Names: the program's NameOf, and the walk of its exact law.
  Numbers as texts: the program's NumText, over the library's FormatUint.
  Numbers as texts: the program's ReadNum, over the library's ParseUint; the walk of its exact law.
  Plain mathematics: how long the token at the front of a text is, by its sorts. No program stands in it.
  Tokens of a text: the program's tokenSize and TokensOf.
  A folded tree whole: the model's l2Fold.
  A folded tree whole, and a folded term: the model's l2Fold, FoldTerm.
  A folded term: the model's FoldTerm.
  What is put for variables: the model's PutAll.
  What is put for variables: the model's PutAll whole.
  Plain mathematics for trees: what a tree comes to, the tree that is folded, the tree with trees put for its variables, and the variables of a term in their order.
  The walk of the exact law of VarsIn, out of what the program's own function does.
  The variables of a tree: the program's nameVars, hasVars and VarsIn.
  What an op makes of its parts' values: the program's numberOf, holdsOf and bitOf.
  The walk of the exact law of ValueOf, out of what the program's own function does.
  What a tree comes to in a state: the program's value and ValueOf.
  The walk of the exact law of FoldTerm, out of what the program's own function does.
  A tree that is folded: the program's hasVars, leafOf, fold and FoldTerm.
  Plain mathematics for trees: the tree that is folded is good, no longer, of the same kind, comes to the same, has the same variables and is folded already; what is put for variables does as their values do.
  The program's leafOf, fold and FoldTerm.
  The program's reader of terms: its fields in memory, its small methods, the op of a sign.
  The program's reader of terms: a fault, a token, the op of a sign, a node over parts.
  The program's reader of terms: a number, a name, a node over parts.
  The program's reader of terms: a node over parts that were read.
  Plain mathematics: how a term in brackets is read, case by case; the op of a sign found by a loop.
  The program's reader of terms: a sign ahead of a term.
  The program's reader of terms: two terms in brackets.
  The program's reader of terms: a term.
-/
import Derived.Test.YtkfplichekebdaaGreatDoorToks
import Derived.Outline
import Derived.Test.YtkfplichekebdaaGreatDoorILay
import Derived.Test.YtkfplichekebdaaGreatDoorLTurn
import Derived.Maps.AppendAt
import Derived.Test.YtkfplichekebdaaGreatDoorSign
import Derived.Test.YtkfplichekebdaaGreatDoorTextM
import Derived.Test.YtkfplichekebdaaGreatDoorReadN
import Derived.Lib.OthersKept
import Derived.Laws.RangeAny
import Derived.Shelf.Strconv.Itoa0
import Derived.Shelf.Strconv.Itoa1
import Derived.Shelf.LaysM
import Derived.Shelf.Strconv.Itoa2
import Derived.Shelf.Strconv.Itoa3
import Derived.Shelf.Strconv.Clone
import Derived.Ground.MpProg
import Derived.Shelf.Pu.ParseUintPublic10
import Derived.Shelf.Pu.ErrVarParseUint
import Derived.Shelf.Strings.Prefix
import Derived.Test.YtkfplichekebdaaGreatDoorChecked
import Derived.Test.YtkfplichekebdaaGreatDoorTables
import Derived.Laws.Rows
import Derived.Test.YtkfplichekebdaaGreatDoorNumC
import Derived.Lib.ItoaMem
import Derived.BigCall
import Derived.BigGuard
import Derived.Lib.AtoiErrMem
import Derived.WalkMore
import Derived.Test.YtkfplichekebdaaGreatDoorFold2
import Derived.Test.YtkfplichekebdaaGreatDoorTree
import Derived.Test.YtkfplichekebdaaGreatDoorVars
import Derived.Test.YtkfplichekebdaaGreatDoorVal2
import Derived.Test.YtkfplichekebdaaGreatDoorLGood
import Derived.Test.YtkfplichekebdaaGreatDoorU64
import Derived.Test.YtkfplichekebdaaGreatDoorTextB
namespace Go.Proofs.YtkfplichekebdaaGreatDoor
open Go Go.RowKit
open M
set_option linter.unusedVariables false

/-- a slice whose elements are these tokens -/
def ToksAt (w : World) (v : Value) (t : List M.Tok) : Prop :=
  t.length ≤ 9223372036854775807 ∧ ((t = [] ∧ ∃ (a : Option Addr) (cap : Nat), v = .slice a 0 cap) ∨
  ∃ b off cap : Nat, v = .slice (some ⟨b, off, none⟩) t.length cap ∧ b < w.heap.size ∧ ∀ (i : Nat) (x : M.Tok), t[i]? = some x → w.cell? ⟨b, off + i * 2, none⟩ = some (.int .i64 (x.1 : Int)) ∧ w.cell? ⟨b, off + i * 2 + 1, none⟩ = some (tx x.2))
theorem ToksAt.below {w w' : World} {v : Value} {t : List M.Tok} (h : ToksAt w v t) (hb : Below w.heap.size w w') : ToksAt w' v t := by
  obtain ⟨hl, h⟩ := h
  refine ⟨hl, ?_⟩
  rcases h with h | ⟨b, off, cap, hv, hlt, hc⟩
  · exact Or.inl h
  · refine Or.inr ⟨b, off, cap, hv, Nat.lt_of_lt_of_le hlt hb.size, fun i x hx => ?_⟩
    rw [hb.cell (p := ⟨b, off + i * 2, none⟩) hlt, hb.cell (p := ⟨b, off + i * 2 + 1, none⟩) hlt]
    exact hc i x hx
theorem flatK_at : ∀ (t : List M.Tok) (i : Nat) (x : M.Tok), t[i]? = some x → (flatK t)[i * 2]? = some (.int .i64 (x.1 : Int)) ∧ (flatK t)[i * 2 + 1]? = some (tx x.2)
  | [], i, x, h => by simp at h
  | a :: t, 0, x, h => by
    simp at h
    subst h
    exact ⟨rfl, rfl⟩
  | a :: t, i + 1, x, h => by
    have ih := flatK_at t i x (by simpa using h)
    have e : flatK (a :: t) = [.int .i64 (a.1 : Int), tx a.2] ++ flatK t := rfl
    rw [e, List.getElem?_append_right (by simp; omega), List.getElem?_append_right (by simp; omega)]
    rw [show (i + 1) * 2 - [Value.int .i64 (a.1 : Int), tx a.2].length = i * 2 from by simp; omega, show (i + 1) * 2 + 1 - [Value.int .i64 (a.1 : Int), tx a.2].length = i * 2 + 1 from by simp; omega]
    exact ih
theorem toks_of_own {w : World} {base : Nat} {v : Value} {t : List M.Tok} (hl : t.length ≤ 9223372036854775807) (h : OwnToks w base v t) : ToksAt w v t := by
  refine ⟨hl, ?_⟩
  rcases h.2 with ⟨h1, h2⟩ | ⟨g, cap, cur, h1, h2, h3, _⟩
  · exact Or.inl ⟨List.length_eq_zero_iff.1 h2, none, 0, h1⟩
  · subst h1
    have hlt : g < w.heap.size := by
      by_cases hg' : g < w.heap.size
      · exact hg'
      · rw [Array.getElem?_eq_none (by omega)] at h3
        cases h3
    refine Or.inr ⟨g, 0, cap, rfl, hlt, fun i x hx => ?_⟩
    have hi : i < t.length := (List.getElem?_eq_some_iff.1 hx).1
    have := flatK_len t
    rw [Nat.zero_add, h.cellAt (i * 2) (by omega), h.cellAt (i * 2 + 1) (by omega)]
    exact flatK_at t i x hx
/-- the text of a mark -/
def markL (k : Nat) : Tx := 109 :: numL k
end Go.Proofs.YtkfplichekebdaaGreatDoor

namespace Go.Proofs.YtkfplichekebdaaGreatDoor
open Go Go.RowKit
open M
set_option linter.unusedVariables false

set_option maxRecDepth 100000 in
theorem nodesOf_nil (w : World) : Calls Tryz.prog 36 #[.pointer none] w fun e w' => e = .returned (.tuple #[.slice none 0 0, .bool false]) ∧ w' = w := by
  go_enter Tryz.func36, Tryz.ntmps36
  go_wp2_with fail
  go_ret2
  exact ⟨rfl, rfl⟩
set_option maxRecDepth 100000 in
theorem nodesOf_long (r : Tr) (b : Nat) (w : World) (S : Nat → Prop) (ht : TrAt w S r b) (hs : 48 < r.size) : Calls Tryz.prog 36 #[ptr b] w fun e w' => e = .returned (.tuple #[.slice none 0 0, .bool false]) ∧ w' = w := by
  obtain ⟨ps, ⟨_, _, _, _, n3, _⟩, _⟩ := trAt_open ht
  clear ht
  go_enter Tryz.func36, Tryz.ntmps36
  go_wp2_with fail
  go_ret2
  exact ⟨rfl, rfl⟩
set_option maxRecDepth 100000 in
theorem nodesOf_yes (r : Tr) (b : Nat) (w : World) (ht : TrAt w (Old w) r b) (hs : r.size ≤ 48) : Calls Tryz.prog 36 #[ptr b] w fun e w' => ∃ v', e = .returned (.tuple #[v', .bool true]) ∧ OwnNodes w' w.heap.size v' r.flat ∧ Below w.heap.size w w' := by
  obtain ⟨ps, ⟨_, _, _, _, n3, _⟩, _⟩ := trAt_open ht
  have HT : Hid _ := ht
  obtain ⟨i0, hi, hz0, hz1, hz2⟩ := info_parts infoNode
  have HSS : Hid (r.size ≤ 48) := hs
  clear ht
  go_enter Tryz.func36, Tryz.ntmps36
  go_wp2_with (at_make; refine wpList_make_own _ rfl _ _ 24 rfl w.heap.size 63 i0 (.agg #[.int .i64 0, .int .u64 0]) 2 Tryz.underlying24 hi hz0 hz1 .i64 .i64 _ r.size rfl rfl rfl (by rw [hz2]; omega) (by unfold maxLen; omega) (Nat.le_refl _) ?_)
  intro w1 own1 grow1
  have g := layBehind_any r b [] (.slice (some ⟨w.heap.size, 0, none⟩) 0 r.size) w1 w.heap.size (TrAt.frame (fun k hk => ⟨Nat.lt_of_lt_of_le hk grow1.size, fun e => by have h1 : k = w.heap.size := Option.some.inj e; have h2 : k < w.heap.size := hk; omega⟩) (fun k hk => grow1.block k hk (by simp)) HT.out) own1 grow1.size (by have := HSS.out; simp; omega)
  have HB1 : Hid (Below w.heap.size w w1) := (Below.refl _ _).grown grow1 (Nat.le_refl _) (fun k hk => by cases hk)
  clear own1 grow1 n3
  go_wp2_with fail
  refine g.mono ?_
  rintro e w2 ⟨v2, rfl, ho2, hl2⟩
  have HO : Hid (OwnNodes w2 w.heap.size v2 r.flat) := ho2
  have HB : Hid (Below w.heap.size w w2) := HB1.out.grown hl2.1 HB1.out.size (fun k hk => by have e : w.heap.size = k := Option.some.inj hk; omega)
  clear g ho2 hl2
  go_wp2_with fail
  go_ret2
  exact ⟨_, rfl, HO.out, HB.out⟩
/-- parts that are not those that the op wants -/
theorem nodeOver_not (op n : Int) (qs : List (Option (Nat × Tr))) (g : Nat) (cap : Nat) (w : World) (hl : qs.length ≤ 48) (hg : g < w.heap.size)
    (hc : ∀ (i : Nat) (q : Option (Nat × Tr)), qs[i]? = some q → w.cell? ⟨g, i, none⟩ = some (pv q))
    (ht : ∀ (b : Nat) (a : Tr), some (b, a) ∈ qs → TrAt w (Old w) a b ∧ a.size ≤ 1000000)
    (hbad : ¬ (¬ ownOf op = 0 ∧ manyOf op = qs.length ∧ ∀ q ∈ qs, ∃ b a, q = some (b, a) ∧ a.kind = partOf op)) :
    Calls Tryz.prog 56 #[.agg #[.int .i64 op, .int .u64 n], .slice (some ⟨g, 0, none⟩) qs.length cap] w fun e w' => e = .returned (.pointer none) ∧ Below w.heap.size w w' := by
  by_cases h0 : ownOf op = 0 ∨ qs.length ≠ manyOf op
  · exact nodeOver_shape op n _ _ cap (by omega) h0 w
  · have h1 : ¬ ownOf op = 0 := fun e => h0 (Or.inl e)
    have h2 : manyOf op = qs.length := Classical.byContradiction fun e => h0 (Or.inr (fun e2 => e e2.symm))
    exact nodeOver_bad op n qs _ cap w h1 h2 (fun i q hq => ⟨g, 0, rfl, hg, by rw [Nat.zero_add]; exact hc i q hq⟩) ht (fun h => hbad ⟨h1, h2, h⟩)
/-- a root that may be none -/
def RootQ (wide vars : Int) (t : List Nd) (q : Option (Nat × Tr)) (w : World) : Prop :=
  match q with
  | none => ¬ 0 < kindL wide vars t
  | some (b, r) => 0 < kindL wide vars t ∧ pileT wide vars t t.length = some [⟨0, r.kind, r⟩] ∧ TrAt w (Old w) r b ∧ r.Ok wide vars ∧ r.flat = t ∧ r.kind = kindL wide vars t ∧ t.length ≤ 48 ∧ wideB wide = true ∧ 1 ≤ vars ∧ vars ≤ 4
theorem RootQ.below {wide vars : Int} {t : List Nd} {q : Option (Nat × Tr)} {w w' : World} (h : RootQ wide vars t q w) (hb : Below w.heap.size w w') : RootQ wide vars t q w' := by
  match q, h with
  | none, h => exact h
  | some (b, r), ⟨h1, h2, h3, h4⟩ => exact ⟨h1, h2, h3.below hb, h4⟩
theorem rootOf_q (wide vars : Int) (v : Value) (t : List Nd) (w : World) (hT : Tab w) (h : NodesAt w v t) :
    Calls Tryz.prog 27 #[.int .i64 wide, .int .i64 vars, v] w fun e w' => ∃ q, e = .returned (pv q) ∧ RootQ wide vars t q w' ∧ Below w.heap.size w w' := by
  by_cases hk : 0 < kindL wide vars t
  · obtain ⟨g1, g2, g3, g4, g5, r, hr, k1, k2, k3⟩ := root_tree hk
    refine (rootOf_yes wide vars v t w hT h r hk hr).mono ?_
    rintro e w' ⟨p, he, htr, hb⟩
    exact ⟨some (p, r), he, ⟨hk, hr, htr, k1, k2, k3, g5, g1, g2, g3⟩, hb⟩
  · refine (rootOf_no wide vars v t w hT h hk).mono ?_
    rintro e w' ⟨he, hb⟩
    exact ⟨none, he, hk, hb⟩
theorem RootQ.tree {wide vars : Int} {t : List Nd} {q : Option (Nat × Tr)} {w : World} (h : RootQ wide vars t q w) : ∀ (b : Nat) (a : Tr), q = some (b, a) → TrAt w (Old w) a b ∧ a.size ≤ 1000000 := by
  rintro b a rfl
  obtain ⟨h1, h2, h3, h4, h5, h6, h7, h8⟩ := h
  refine ⟨h3, ?_⟩
  have := a.flat_len
  rw [h5] at this
  omega
theorem okN_zero {wide vars op : Int} (h : manyOf op ≠ 0) : okN wide vars op 0 = true := by
  unfold okN
  rw [if_neg (by rintro rfl; exact h rfl), if_neg (by rintro rfl; exact h rfl), if_neg (by rintro rfl; exact h rfl)]
  rfl
theorem many_ops {op : Int} (h : manyOf op ≠ 0) : op = 13 ∨ op = 19 ∨ (3 ≤ op ∧ op ≤ 12) ∨ (14 ≤ op ∧ op ≤ 18) := by
  unfold manyOf at h
  split at h
  · omega
  · split at h
    · omega
    · exact absurd rfl h
theorem own_many {op : Int} (h : manyOf op ≠ 0) : ¬ ownOf op = 0 := by
  have := many_ops h
  unfold ownOf
  split
  · decide
  · split
    · decide
    · omega
theorem part_many {op : Int} (h : manyOf op ≠ 0) : 0 < partOf op := by
  have := many_ops h
  unfold partOf
  split
  · decide
  · split
    · decide
    · omega
theorem oneV_cells (w : World) (x : Value) : (w.alloc (.cells #[x] 49)).cell? ⟨w.heap.size, 0, none⟩ = some x := by simp
/-- what comes of a node over parts -/
theorem made_nodes (r : Tr) (b : Nat) (w : World) (ht : TrAt w (Old w) r b) (wide vars : Int) (hok : r.Ok wide vars) (hw : wideB wide = true) (h1 : 1 ≤ vars) (h4 : vars ≤ 4) :
    Calls Tryz.prog 36 #[ptr b] w fun e w' => ∃ v', e = .returned (.tuple #[v', .bool (decide (0 < kindL wide vars r.flat))]) ∧ OwnNodes w' w.heap.size v' (madeL wide vars r.flat) ∧ Below w.heap.size w w' := by
  unfold madeL
  by_cases hs : r.size ≤ 48
  · have hk := Tr.kindL_eq hok hw h1 h4 hs
    have hp : 0 < kindL wide vars r.flat := by
      rw [hk]
      have := Tr.kind_pos hok
      omega
    rw [if_pos hp, decide_eq_true hp]
    exact nodesOf_yes r b w ht hs
  · have hk := Tr.kindL_long (wide := wide) (vars := vars) (t := r) (by omega)
    have hp : ¬ 0 < kindL wide vars r.flat := by omega
    rw [if_neg hp, decide_eq_false hp]
    refine (nodesOf_long r b w (Old w) ht (by omega)).mono ?_
    rintro e w' ⟨rfl, rfl⟩
    exact ⟨_, rfl, World.ownsRow_nil _ _ _ _, Below.refl _ _⟩
end Go.Proofs.YtkfplichekebdaaGreatDoor

namespace Go.Proofs.YtkfplichekebdaaGreatDoor
open Go Go.RowKit
open M
set_option linter.unusedVariables false

/-- tokens that lie below a block -/
def ToksIn (w : World) (b : Nat) (v : Value) (l : List M.Tok) : Prop :=
  (l = [] ∧ ∃ (a : Option Addr) (cap : Nat), v = .slice a 0 cap) ∨
  ∃ g off cap : Nat, v = .slice (some ⟨g, off, none⟩) l.length cap ∧ (g < b ∧ l.length ≤ cap) ∧ ∀ (i : Nat) (x : M.Tok), l[i]? = some x → w.cell? ⟨g, off + i * 2, none⟩ = some (.int .i64 (x.1 : Int)) ∧ w.cell? ⟨g, off + i * 2 + 1, none⟩ = some (tx x.2)
/-- all but block b and the row's block is as it was; the row stays where it is, or lies in a new block -/
structure Keep (b : Nat) (w w' : World) (vo vo' : Value) : Prop where
  os : w'.os = w.os
  tape : w'.tape = w.tape
  output : w'.output = w.output
  size : w.heap.size ≤ w'.heap.size
  block : ∀ k, k < w.heap.size → k ≠ b → some k ≠ vo.ownBlock → w'.heap[k]? = w.heap[k]?
  row : vo'.ownBlock = vo.ownBlock ∨ ∃ k, vo'.ownBlock = some k ∧ w.heap.size ≤ k
theorem Keep.refl (b : Nat) (w : World) (vo : Value) : Keep b w w vo vo := ⟨rfl, rfl, rfl, Nat.le_refl _, fun _ _ _ _ => rfl, Or.inl rfl⟩
theorem Keep.apart {b : Nat} {u v : World} {x y : Value} (h : Keep b u v x y) {k : Nat} (hk : k < u.heap.size) (hx : some k ≠ x.ownBlock) : some k ≠ y.ownBlock := by
  rcases h.row with e | ⟨g, e, hg⟩
  · rw [e]; exact hx
  · rw [e]
    intro e2
    have := Option.some.inj e2
    omega
theorem Keep.trans {b : Nat} {u v w : World} {x y z : Value} (h : Keep b u v x y) (k : Keep b v w y z) : Keep b u w x z := by
  refine ⟨k.os.trans h.os, k.tape.trans h.tape, k.output.trans h.output, Nat.le_trans h.size k.size, fun i hi hb hx => (k.block i (Nat.lt_of_lt_of_le hi h.size) hb (h.apart hi hx)).trans (h.block i hi hb hx), ?_⟩
  rcases k.row with e | ⟨g, e, hg⟩
  · rw [e]; exact h.row
  · exact Or.inr ⟨g, e, Nat.le_trans h.size hg⟩
theorem Keep.below {b : Nat} {w w' : World} (vo : Value) (h : Below w.heap.size w w') : Keep b w w' vo vo :=
  ⟨h.os, h.tape, h.output, h.size, fun k hk _ _ => h.block k hk, Or.inl rfl⟩
theorem Keep.set {b : Nat} {u w : World} {x y : Value} (h : Keep b u w x y) (o : Nat) (v : Value) : Keep b u (w.setCell ⟨b, o, none⟩ v) x y :=
  h.trans ⟨rfl, rfl, rfl, by simp [World.setCell], fun k _ hk _ => Below.heap_setCell _ _ _ _ hk, Or.inl rfl⟩
theorem Keep.grown {b : Nat} {u w w' : World} {x y z : Value} (h : Keep b u w x y) (hg : w.grownBy w' y.ownBlock) (hat : z.ownBlock = y.ownBlock ∨ z.ownBlock = some w.heap.size) : Keep b u w' x z :=
  h.trans ⟨hg.os, hg.tape, hg.output, hg.size, fun k hk _ hx => hg.block k hk hx, by rcases hat with e | e; exact Or.inl e; exact Or.inr ⟨_, e, Nat.le_refl _⟩⟩
theorem ToksIn.same {b : Nat} {w w' : World} {v : Value} {l : List M.Tok} (h : ToksIn w b v l) (hk : ∀ k, k < b → w'.heap[k]? = w.heap[k]?) : ToksIn w' b v l := by
  rcases h with h | ⟨g, off, cap, hv, hg, hc⟩
  · exact Or.inl h
  · refine Or.inr ⟨g, off, cap, hv, hg, fun i x hx => ?_⟩
    have e := hk g hg.1
    rw [World.cell?_of_block (w := w) (a := ⟨g, off + i * 2, none⟩) e, World.cell?_of_block (w := w) (a := ⟨g, off + i * 2 + 1, none⟩) e]
    exact hc i x hx
theorem ToksIn.shape {w : World} {b : Nat} {v : Value} {l : List M.Tok} (h : ToksIn w b v l) : ∃ (a : Option Addr) (cap : Nat), v = .slice a l.length cap := by
  rcases h with ⟨rfl, a, cap, h⟩ | ⟨g, off, cap, h, _⟩
  · exact ⟨a, cap, h⟩
  · exact ⟨_, cap, h⟩
/-- the first token, and the rest behind it -/
theorem ToksIn.first {w : World} {b : Nat} {a : Option Addr} {n cap : Nat} {x : M.Tok} {l : List M.Tok} (h : ToksIn w b (.slice a n cap) (x :: l)) :
    ∃ g off : Nat, a = some ⟨g, off, none⟩ ∧ g < b ∧ w.cell? ⟨g, off, none⟩ = some (.int .i64 (x.1 : Int)) ∧ w.cell? ⟨g, off + 1, none⟩ = some (tx x.2) ∧ (∀ cap', l.length ≤ cap' → ToksIn w b (.slice (some ⟨g, off + 2, none⟩) l.length cap') l) ∧ l.length + 1 ≤ cap := by
  rcases h with ⟨h, _⟩ | ⟨g, off, cap0, hv, hg, hc⟩
  · cases h
  · simp only [Value.slice.injEq] at hv
    obtain ⟨rfl, rfl, rfl⟩ := hv
    obtain ⟨h0, h1⟩ := hc 0 x rfl
    refine ⟨g, off, rfl, hg.1, by simpa using h0, by simpa using h1, fun cap' hcap => Or.inr ⟨g, off + 2, cap', rfl, ⟨hg.1, hcap⟩, fun i y hy => ?_⟩, by have := hg.2; simpa using this⟩
    have h2 := hc (i + 1) y (by simpa using hy)
    rw [show off + (i + 1) * 2 = off + 2 + i * 2 from by omega] at h2
    exact h2
/-- the tokens behind the first, as the program cuts them -/
theorem ToksIn.cut {w : World} {b g off cap : Nat} {l : List M.Tok} (htl : ∀ cap', l.length ≤ cap' → ToksIn w b (.slice (some ⟨g, off + 2, none⟩) l.length cap') l) (hcap : l.length + 1 ≤ cap) : (cap = 1 → ∀ a c, ToksIn w b (.slice a 0 c) l) ∧ (cap ≠ 1 → ToksIn w b (.slice (some ⟨g, off + 2, none⟩) l.length (cap - 1)) l) := by
  refine ⟨fun h a c => ?_, fun _ => htl _ (by omega)⟩
  have hl : l = [] := List.length_eq_zero_iff.1 (by omega)
  subst hl
  exact Or.inl ⟨rfl, a, c, rfl⟩
abbrev rdCells (wide vars : Int) (vt : Value) (long : Nat) (vo : Value) (code at_ : Int) : Array Value := #[.int .i64 wide, .int .i64 vars, vt, .int .i64 (long : Int), vo, .int .i64 code, .int .i64 at_]
/-- the reader -/
structure RdAt (w : World) (b Bo : Nat) (wide vars : Int) (long : Nat) (vt vo : Value) (l : List M.Tok) (o : List Nd) (code at_ : Int) : Prop where
  heap : w.heap[b]? = some (.cells (rdCells wide vars vt long vo code at_) 82 (0, 0))
  toks : ToksIn w b vt l
  own : OwnNodes w Bo vo o
  low : b < Bo
  bound : Bo ≤ w.heap.size
  many : l.length ≤ 1000
  some : o.length ≤ 1000
theorem RdAt.cell {w : World} {b Bo : Nat} {wide vars : Int} {long : Nat} {vt vo : Value} {l : List M.Tok} {o : List Nd} {code at_ : Int} (h : RdAt w b Bo wide vars long vt vo l o code at_) :
    w.cell? ⟨b, 0, none⟩ = Option.some (.int .i64 wide) ∧ w.cell? ⟨b, 1, none⟩ = Option.some (.int .i64 vars) ∧ w.cell? ⟨b, 2, none⟩ = Option.some vt ∧ w.cell? ⟨b, 3, none⟩ = Option.some (.int .i64 (long : Int)) ∧ w.cell? ⟨b, 4, none⟩ = Option.some vo ∧ w.cell? ⟨b, 5, none⟩ = Option.some (.int .i64 code) ∧ w.cell? ⟨b, 6, none⟩ = Option.some (.int .i64 at_) := by
  refine ⟨?_, ?_, ?_, ?_, ?_, ?_, ?_⟩ <;> (rw [cell_heap h.heap]; rfl)
/-- the reader in a later world in which its block is as it was -/
theorem RdAt.later {w w' : World} {b Bo : Nat} {wide vars : Int} {long : Nat} {vt vo : Value} {l : List M.Tok} {o : List Nd} {code at_ : Int} (h : RdAt w b Bo wide vars long vt vo l o code at_) (hb : Below w.heap.size w w') : RdAt w' b Bo wide vars long vt vo l o code at_ := by
  have hlt : b < w.heap.size := Nat.lt_of_lt_of_le h.low h.bound
  exact ⟨by rw [hb.block b hlt]; exact h.heap, h.toks.same (fun k hk => hb.block k (Nat.lt_trans hk hlt)), owns_below h.own hb, h.low, Nat.le_trans h.bound hb.size, h.many, h.some⟩
theorem own_same {w w' : World} {Bo : Nat} {e : TypeId} {sz : Nat} {v : Value} {n : Nat} {xs : List Value} (h : w.ownsRow Bo e sz v n xs) (hk : ∀ k, Bo ≤ k → w'.heap[k]? = w.heap[k]?) : w'.ownsRow Bo e sz v n xs := by
  obtain ⟨h1, h2⟩ := h
  refine ⟨h1, ?_⟩
  rcases h2 with h2 | ⟨g, cap, cur, hv, hg, hh, r⟩
  · exact Or.inl h2
  · exact Or.inr ⟨g, cap, cur, hv, hg, by rw [hk g hg]; exact hh, r⟩
/-- the reader's own block is written -/
theorem RdAt.set {w w' : World} {b Bo : Nat} {wide vars : Int} {long : Nat} {vt vt' vo : Value} {l l' : List M.Tok} {o : List Nd} {code at_ code' at' : Int} (h : RdAt w b Bo wide vars long vt vo l o code at_)
    (hh : w'.heap[b]? = Option.some (.cells (rdCells wide vars vt' long vo code' at') 82 (0, 0))) (ho : ∀ k, k ≠ b → w'.heap[k]? = w.heap[k]?) (hs : w'.heap.size = w.heap.size) (ht : ToksIn w b vt' l') (hl : l'.length ≤ 1000) :
    RdAt w' b Bo wide vars long vt' vo l' o code' at' := by
  have hlow := h.low
  refine ⟨hh, ?_, own_same h.own (fun k hk => ho k (by omega)), h.low, by rw [hs]; exact h.bound, hl, h.some⟩
  rcases ht with ht | ⟨g, off, cap, hv, hg, hc⟩
  · exact Or.inl ht
  · refine Or.inr ⟨g, off, cap, hv, hg, fun i x hx => ?_⟩
    have e := ho g (by have := hg.1; omega)
    rw [World.cell?_of_block (w := w) (a := ⟨g, off + i * 2, none⟩) e, World.cell?_of_block (w := w) (a := ⟨g, off + i * 2 + 1, none⟩) e]
    exact hc i x hx
theorem set_size (w : World) (a : Addr) (v : Value) : (w.setCell a v).heap.size = w.heap.size := by simp [World.setCell]
theorem RdAt.faulted {w : World} {b Bo : Nat} {wide vars : Int} {long : Nat} {vt vo : Value} {l : List M.Tok} {o : List Nd} {code at_ : Int} (h : RdAt w b Bo wide vars long vt vo l o code at_) (c p : Int) :
    RdAt ((w.setCell ⟨b, 5, none⟩ (.int .i64 c)).setCell ⟨b, 6, none⟩ (.int .i64 p)) b Bo wide vars long vt vo l o c p :=
  h.set (by rw [heap_set (heap_set h.heap)]; rfl) (fun k hk => by rw [Below.heap_setCell _ _ _ _ hk, Below.heap_setCell _ _ _ _ hk]) (by rw [set_size, set_size]) h.toks h.many
theorem RdAt.faulted2 {w : World} {b Bo : Nat} {wide vars : Int} {long : Nat} {vt vo : Value} {l : List M.Tok} {o : List Nd} {code at_ : Int} (h : RdAt w b Bo wide vars long vt vo l o code at_) (c q p : Int) :
    RdAt (((w.setCell ⟨b, 5, none⟩ (.int .i64 c)).setCell ⟨b, 6, none⟩ (.int .i64 q)).setCell ⟨b, 6, none⟩ (.int .i64 p)) b Bo wide vars long vt vo l o c p :=
  h.set (by rw [heap_set (heap_set (heap_set h.heap))]; rfl) (fun k hk => by rw [Below.heap_setCell _ _ _ _ hk, Below.heap_setCell _ _ _ _ hk, Below.heap_setCell _ _ _ _ hk]) (by rw [set_size, set_size, set_size]) h.toks h.many
theorem RdAt.moved {w : World} {b Bo : Nat} {wide vars : Int} {long : Nat} {vt vt' vo : Value} {l l' : List M.Tok} {o : List Nd} {code at_ : Int} (h : RdAt w b Bo wide vars long vt vo l o code at_) (ht : ToksIn w b vt' l') (hl : l'.length ≤ 1000) :
    RdAt (w.setCell ⟨b, 2, none⟩ vt') b Bo wide vars long vt' vo l' o code at_ :=
  h.set (by rw [heap_set h.heap]; rfl) (fun k hk => by rw [Below.heap_setCell _ _ _ _ hk]) (by rw [set_size]) ht hl
/-- what a method of the reader leaves behind -/
def RdTo (w w' : World) (b Bo : Nat) (vo : Value) (wide vars : Int) (long : Nat) (l : List M.Tok) (o : List Nd) (code at_ : Int) : Prop := ∃ vt' vo', RdAt w' b Bo wide vars long vt' vo' l o code at_ ∧ Keep b w w' vo vo'
set_option maxRecDepth 100000 in
set_option maxHeartbeats 1000000 in
theorem fault_any {w : World} {b Bo : Nat} {wide vars : Int} {long : Nat} {vt vo : Value} {l : List M.Tok} {o : List Nd} {code at_ : Int} (h : RdAt w b Bo wide vars long vt vo l o code at_) (c : Int) :
    Calls Tryz.prog 49 #[ptr b, .int .i64 c] w fun e w' => e = .returned (.int .i64 0) ∧ RdTo w w' b Bo vo wide vars long l o c (placeOf long l : Int) := by
  obtain ⟨c0, c1, c2, c3, c4, c5, c6⟩ := h.cell
  obtain ⟨ta, tc, hsh⟩ := h.toks.shape
  subst hsh
  have f5 := frozen_heap (o := 5) h.heap
  have f6 := frozen_heap (o := 6) h.heap
  match l, h with
  | [], h =>
    have HF : Hid _ := h.faulted c (long : Int)
    have HK : Hid (Keep b w ((w.setCell ⟨b, 5, none⟩ (.int .i64 c)).setCell ⟨b, 6, none⟩ (.int .i64 (long : Int))) vo vo) := ((Keep.refl b w vo).set 5 _).set 6 _
    clear h
    go_enter Tryz.func49, Tryz.ntmps49
    go_wp2_with fail
    go_ret
    exact ⟨rfl, _, _, HF.out, HK.out⟩
  | x :: l, h =>
    obtain ⟨g, off, rfl, hg, t0, t1, _, _⟩ := h.toks.first
    have hlt := h.low
    have hne : g ≠ b := by omega
    have s0 : ((w.setCell ⟨b, 5, none⟩ (.int .i64 c)).setCell ⟨b, 6, none⟩ (.int .i64 (long : Int))).cell? ⟨g, off, none⟩ = some (.int .i64 (x.1 : Int)) := by
      rw [cell_otherBlock (fun e => hne e.symm), cell_otherBlock (fun e => hne e.symm)]
      exact t0
    have HF : Hid _ := h.faulted2 c (long : Int) (x.1 : Int)
    have HK : Hid (Keep b w (((w.setCell ⟨b, 5, none⟩ (.int .i64 c)).setCell ⟨b, 6, none⟩ (.int .i64 (long : Int))).setCell ⟨b, 6, none⟩ (.int .i64 (x.1 : Int))) vo vo) := (((Keep.refl b w vo).set 5 _).set 6 _).set 6 _
    have hlen : (0 : Int) < ((x :: l).length : Int) := by simp
    have hmany := h.many
    clear h
    generalize (x :: l).length = n at *
    go_enter Tryz.func49, Tryz.ntmps49
    go_wp2_with fail
    go_ret
    exact ⟨rfl, _, _, HF.out, HK.out⟩
set_option maxRecDepth 100000 in
set_option maxHeartbeats 1000000 in
theorem take_yes {w : World} {b Bo : Nat} {wide vars : Int} {long : Nat} {vt vo : Value} {p : Nat} {s : Tx} {l : List M.Tok} {o : List Nd} {code at_ : Int} (h : RdAt w b Bo wide vars long vt vo ((p, s) :: l) o code at_) :
    Calls Tryz.prog 78 #[ptr b, tx s] w fun e w' => e = .returned (.bool true) ∧ RdTo w w' b Bo vo wide vars long l o code at_ := by
  obtain ⟨c0, c1, c2, c3, c4, c5, c6⟩ := h.cell
  obtain ⟨ta, tc, hsh⟩ := h.toks.shape
  subst hsh
  have f2 := frozen_heap (o := 2) h.heap
  obtain ⟨g, off, rfl, hg, t0, t1, htl, hcap⟩ := h.toks.first
  have hmany := h.many
  obtain ⟨hc1, hc2⟩ := ToksIn.cut htl hcap
  have hlen : (0 : Int) < (((p, s) :: l).length : Int) := by simp
  have HM : Hid (∀ vt', ToksIn w b vt' l → RdAt (w.setCell ⟨b, 2, none⟩ vt') b Bo wide vars long vt' vo l o code at_) := fun vt' ht => h.moved ht (by simp at hmany; omega)
  have HK : Hid (∀ v, Keep b w (w.setCell ⟨b, 2, none⟩ v) vo vo) := fun v => (Keep.refl b w vo).set 2 _
  have H1 : Hid _ := hc1
  have H2 : Hid _ := hc2
  rw [show ((p, s) :: l).length = l.length + 1 from rfl] at *
  clear h htl hc1 hc2
  by_cases ht1 : tc = 1
  · subst ht1
    go_enter Tryz.func78, Tryz.ntmps78
    go_wp2_with fail
    go_ret
    exact ⟨rfl, _, _, HM.out _ (H1.out (by first | rfl | trivial) _ _), HK.out _⟩
  · go_enter Tryz.func78, Tryz.ntmps78
    go_wp2_with fail
    go_ret
    exact ⟨rfl, _, _, HM.out _ (H2.out ht1), HK.out _⟩
set_option maxRecDepth 100000 in
set_option maxHeartbeats 1000000 in
theorem take_no {w : World} {b Bo : Nat} {wide vars : Int} {long : Nat} {vt vo : Value} {s : Tx} {l : List M.Tok} {o : List Nd} {code at_ : Int} (h : RdAt w b Bo wide vars long vt vo l o code at_) (hne : ∀ x r, l = x :: r → x.2 ≠ s) :
    Calls Tryz.prog 78 #[ptr b, tx s] w fun e w' => e = .returned (.bool false) ∧ RdTo w w' b Bo vo wide vars long l o 3 (placeOf long l : Int) := by
  have gf := fault_any h 3
  obtain ⟨c0, c1, c2, c3, c4, c5, c6⟩ := h.cell
  obtain ⟨ta, tc, hsh⟩ := h.toks.shape
  subst hsh
  have hmany := h.many
  match l, h, hne with
  | [], h, _ =>
    clear h
    go_enter Tryz.func78, Tryz.ntmps78
    go_wp2_with fail
    refine gf.mono ?_
    rintro e w1 ⟨rfl, hrd⟩
    have HRD : Hid (RdTo w w1 b Bo vo wide vars long _ o 3 _) := hrd
    clear gf hrd
    go_wp2_with fail
    go_ret
    exact ⟨rfl, HRD.out⟩
  | x :: l, h, hne =>
    obtain ⟨g, off, rfl, hg, t0, t1, _, _⟩ := h.toks.first
    have hq : (x.2 == s) = false := beq_eq_false_iff_ne.2 (hne x l rfl)
    have hlen : (0 : Int) < ((x :: l).length : Int) := by simp
    clear h hne
    rw [show (x :: l).length = l.length + 1 from rfl] at *
    generalize x.2 = xt at *
    go_enter Tryz.func78, Tryz.ntmps78
    go_wp2_with fail
    refine gf.mono ?_
    rintro e w1 ⟨rfl, hrd⟩
    have HRD : Hid (RdTo w w1 b Bo vo wide vars long _ o 3 _) := hrd
    clear gf hrd
    go_wp2_with fail
    go_ret
    exact ⟨rfl, HRD.out⟩
set_option maxRecDepth 100000 in
set_option maxHeartbeats 1000000 in
theorem put_any {w : World} {b Bo : Nat} {wide vars : Int} {long : Nat} {vt vo : Value} {l : List M.Tok} {o : List Nd} {code at_ : Int} (h : RdAt w b Bo wide vars long vt vo l o code at_) (op n : Int) (hol : o.length < 1000) :
    Calls Tryz.prog 102 #[ptr b, .int .i64 op, .int .u64 n] w fun e w' => e = .returned (.int .i64 (ownOf op)) ∧ RdTo w w' b Bo vo wide vars long l (o ++ [(op, n)]) code at_ := by
  obtain ⟨c0, c1, c2, c3, c4, c5, c6⟩ := h.cell
  have g := l2Need_any op w
  have HB0 : Hid (Bo ≤ w.heap.size) := h.bound
  have HT0 : Hid (ToksIn w b vt l) := h.toks
  obtain ⟨i0, hi, hz0, hz1, hz2⟩ := info_parts infoNode
  generalize manyOf op = m at *
  generalize partOf op = q at *
  generalize ownOf op = ow at *
  go_enter Tryz.func102, Tryz.ntmps102
  go_wp2_with fail
  refine g.mono ?_
  rintro e w1 ⟨rfl, rfl⟩
  clear g
  have HBA : Hid (Below w1.heap.size w1 (w1.alloc (.cells #[.int .i64 op, .int .u64 n] 63))) := (Below.refl _ _).alloc (Nat.le_refl _) _
  have h2 := h.later HBA.out
  have own2 : (w1.alloc (.cells #[.int .i64 op, .int .u64 n] 63)).ownsRow Bo 63 2 vo o.length (flat o) := h2.own
  have cellsA := one_cells2 w1 op n
  have HSB : Hid (Bo ≤ (w1.alloc (.cells #[.int .i64 op, .int .u64 n] 63)).heap.size) := h2.bound
  have HR2 : Hid (RdAt (w1.alloc (.cells #[.int .i64 op, .int .u64 n] 63)) b Bo wide vars long vt vo l o code at_) := h2
  clear h h2
  go_wp2_with (at_builtin; refine wpList_append_own_at _ rfl _ _ 24 rfl Bo 63 i0 (.agg #[.int .i64 0, .int .u64 0]) 2 16 Tryz.underlying24 hi hz0 hz1 hz2 rfl (by decide) _ _ _ rfl own2 ⟨w1.heap.size, 0, none⟩ 1 1 [.int .i64 op, .int .u64 n] rfl rfl cellsA (flat_one [(op, n)]) (by unfold maxLen; omega) (by omega) HSB.out ?_)
  intro vb wb ownb growb _ hatb
  obtain ⟨va, vc, hvb⟩ := own_shape ownb
  have hgo : ∀ k, vo.ownBlock = some k → Bo ≤ k := fun k hk => (own_block own2 hk).1
  have HR3 : Hid (w1.heap.size ≤ wb.heap.size ∧ wb.heap[b]? = some (.cells (rdCells wide vars vt long vo code at_) 82 (0, 0)) ∧ Keep b w1 wb vo vb) := by
    have hlow := HR2.out.low
    have hbd := HR2.out.bound
    have e : wb.heap[b]? = (w1.alloc (.cells #[.int .i64 op, .int .u64 n] 63)).heap[b]? := growb.block b (by omega) (fun e => by have := hgo b e.symm; omega)
    exact ⟨Nat.le_trans HBA.out.size growb.size, by rw [e]; exact HR2.out.heap, (Keep.below vo HBA.out).grown growb (by rw [show (w1.alloc (.cells #[.int .i64 op, .int .u64 n] 63)).heap.size = w1.heap.size + 1 from by simp]; exact hatb)⟩
  have d4 : wb.cell? ⟨b, 4, none⟩ = some vo := by rw [cell_heap HR3.out.2.1]; rfl
  have e4 := frozen_heap (o := 4) HR3.out.2.1
  have HF : Hid (RdTo w1 (wb.setCell ⟨b, 4, none⟩ vb) b Bo vo wide vars long l (o ++ [(op, n)]) code at_) := by
    have hlow := HR2.out.low
    refine ⟨vt, vb, ⟨?_, ?_, ?_, hlow, ?_, HR2.out.many, by simp; omega⟩, HR3.out.2.2.set 4 _⟩
    · rw [heap_set HR3.out.2.1]
      rfl
    · exact HT0.out.same (fun k hk => (HR3.out.2.2.set 4 _).block k (by have := HB0.out; omega) (by omega) (fun e => by have := hgo k e.symm; omega))
    · show (wb.setCell ⟨b, 4, none⟩ vb).ownsRow Bo 63 2 vb (o ++ [(op, n)]).length (flat (o ++ [(op, n)]))
      rw [List.length_append, List.length_singleton, flat_append]
      exact own_same ownb (fun k hk => Below.heap_setCell _ _ _ _ (fun e => by have e2 : k = b := e; omega))
    · rw [set_size]
      exact Nat.le_trans HB0.out HR3.out.1
  clear own2 ownb growb cellsA hgo hatb
  subst hvb
  go_wp2_with fail
  go_ret
  exact ⟨rfl, HF.out⟩
end Go.Proofs.YtkfplichekebdaaGreatDoor

namespace Go.Proofs.YtkfplichekebdaaGreatDoor
open Go Go.RowKit
open M
set_option linter.unusedVariables false

theorem RdTo.trans {u v w : World} {b Bo : Nat} {wide vars : Int} {long : Nat} {l : List M.Tok} {o : List Nd} {code at_ : Int} {x y : Value} (k : RdTo v w b Bo y wide vars long l o code at_) (h : Keep b u v x y) : RdTo u w b Bo x wide vars long l o code at_ := by
  obtain ⟨vt, vo, h1, h2⟩ := k
  exact ⟨vt, vo, h1, h.trans h2⟩
theorem keep_drew {b : Nat} {u w : World} {x y : Value} (h : Keep b u w x y) : Keep b u w.drew x y := ⟨h.os, h.tape, h.output, h.size, h.block, h.row⟩
theorem cut_run {w : World} {b g off cap : Nat} {l : List M.Tok} (htl : ∀ cap', l.length ≤ cap' → ToksIn w b (.slice (some ⟨g, off + 2, none⟩) l.length cap') l) (hcap : l.length + 1 ≤ cap) :
    ∃ (a : Option Addr) (c : Nat), (∀ W : World, (Instr.slice 43 (.slice (some ⟨g, off, none⟩) (l.length + 1) cap) (some (.int .i64 1)) none none).run Tryz.prog W = .ok (.slice a l.length c) W) ∧ ToksIn w b (.slice a l.length c) l := by
  obtain ⟨h1, h2⟩ := ToksIn.cut htl hcap
  have hu := Tryz.underlying43
  have hz := Tryz.sizeOf47
  by_cases ht : cap = 1
  · have hl : l.length = 0 := by omega
    rw [hl]
    subst ht
    refine ⟨some ⟨g, off, none⟩, 0, fun W => ?_, h1 rfl _ _⟩
    go_simp
  · refine ⟨some ⟨g, off + 2, none⟩, cap - 1, fun W => ?_, h2 ht⟩
    go_simp
    intro h
    omega
/-- a token is taken off -/
theorem RdAt.pop {w : World} {b Bo : Nat} {wide vars : Int} {long : Nat} {vt vo : Value} {p : Nat} {s : Tx} {l : List M.Tok} {o : List Nd} {code at_ : Int} (h : RdAt w b Bo wide vars long vt vo ((p, s) :: l) o code at_) :
    ∃ (g off cap : Nat) (a : Option Addr) (c : Nat), vt = .slice (Option.some ⟨g, off, none⟩) (l.length + 1) cap ∧ g < b ∧ w.cell? ⟨g, off, none⟩ = Option.some (.int .i64 (p : Int)) ∧ w.cell? ⟨g, off + 1, none⟩ = Option.some (tx s) ∧
      (∀ W : World, (Instr.slice 43 (.slice (Option.some ⟨g, off, none⟩) (l.length + 1) cap) (Option.some (.int .i64 1)) none none).run Tryz.prog W = .ok (.slice a l.length c) W) ∧
      RdAt (w.setCell ⟨b, 2, none⟩ (.slice a l.length c)) b Bo wide vars long (.slice a l.length c) vo l o code at_ ∧ l.length + 1 ≤ 1000 := by
  obtain ⟨ta, tc, hsh⟩ := h.toks.shape
  subst hsh
  obtain ⟨g, off, rfl, hg, t0, t1, htl, hcap⟩ := h.toks.first
  obtain ⟨a, c, hr, ht⟩ := cut_run htl hcap
  have hm := h.many
  simp only [List.length_cons] at hm
  exact ⟨g, off, tc, a, c, rfl, hg, t0, t1, hr, h.moved ht (by omega), hm⟩
set_option maxRecDepth 100000 in
set_option maxHeartbeats 1000000 in
theorem kinds_yes {w : World} {b Bo : Nat} {wide vars : Int} {long : Nat} {vt vo : Value} {l : List M.Tok} {o : List Nd} {code at_ : Int} (h : RdAt w b Bo wide vars long vt vo l o code at_) (op p a c : Int) (hol : o.length < 1000)
    (hm : (manyOf op = 1 ∧ a = partOf op) ∨ (manyOf op = 2 ∧ a = partOf op ∧ c = partOf op)) :
    Calls Tryz.prog 77 #[ptr b, .int .i64 op, .int .i64 p, .int .i64 a, .int .i64 c] w fun e w' => e = .returned (.int .i64 (ownOf op)) ∧ RdTo w w' b Bo vo wide vars long l (o ++ [(op, 0)]) code at_ := by
  have g := l2Need_any op w
  have gp := put_any h op 0 hol
  have GP : Hid (Calls Tryz.prog 102 #[ptr b, .int .i64 op, .int .u64 0] w fun e w' => e = .returned (.int .i64 (ownOf op)) ∧ RdTo w w' b Bo vo wide vars long l (o ++ [(op, 0)]) code at_) := gp
  clear h gp
  generalize ownOf op = ow at *
  rcases hm with ⟨h1, rfl⟩ | ⟨h1, rfl, rfl⟩
  · rw [h1] at g
    clear h1
    generalize partOf op = q at *
    go_enter Tryz.func77, Tryz.ntmps77
    go_wp2_with fail
    refine g.mono ?_
    rintro e w1 ⟨rfl, rfl⟩
    clear g
    go_wp2_with fail
    refine (Hid.out GP).mono ?_
    rintro e w2 ⟨rfl, hr⟩
    have HR : Hid (RdTo w1 w2 b Bo vo wide vars long l (o ++ [(op, 0)]) code at_) := hr
    clear GP hr
    go_wp2_with fail
    go_ret
    exact ⟨rfl, HR.out⟩
  · rw [h1] at g
    clear h1
    generalize partOf op = q at *
    go_enter Tryz.func77, Tryz.ntmps77
    go_wp2_with fail
    refine g.mono ?_
    rintro e w1 ⟨rfl, rfl⟩
    clear g
    go_wp2_with fail
    refine (Hid.out GP).mono ?_
    rintro e w2 ⟨rfl, hr⟩
    have HR : Hid (RdTo w1 w2 b Bo vo wide vars long l (o ++ [(op, 0)]) code at_) := hr
    clear GP hr
    go_wp2_with fail
    go_ret
    exact ⟨rfl, HR.out⟩
set_option maxRecDepth 100000 in
set_option maxHeartbeats 1000000 in
theorem kinds_no {w : World} {b Bo : Nat} {wide vars : Int} {long : Nat} {vt vo : Value} {l : List M.Tok} {o : List Nd} {code at_ : Int} (h : RdAt w b Bo wide vars long vt vo l o code at_) (op p a c : Int)
    (hm : (manyOf op = 1 ∧ a ≠ partOf op) ∨ (manyOf op = 2 ∧ (a ≠ partOf op ∨ c ≠ partOf op))) :
    Calls Tryz.prog 77 #[ptr b, .int .i64 op, .int .i64 p, .int .i64 a, .int .i64 c] w fun e w' => e = .returned (.int .i64 0) ∧ RdTo w w' b Bo vo wide vars long l o 6 p := by
  have g := l2Need_any op w
  obtain ⟨c0, c1, c2, c3, c4, c5, c6⟩ := h.cell
  have f5 := frozen_heap (o := 5) h.heap
  have f6 := frozen_heap (o := 6) h.heap
  have HF : Hid (RdTo w ((w.setCell ⟨b, 5, none⟩ (.int .i64 6)).setCell ⟨b, 6, none⟩ (.int .i64 p)) b Bo vo wide vars long l o 6 p) := ⟨_, _, h.faulted 6 p, ((Keep.refl b w vo).set 5 _).set 6 _⟩
  clear h
  generalize ownOf op = ow at *
  have hm2 : a ≠ partOf op ∨ (a = partOf op ∧ manyOf op = 2 ∧ c ≠ partOf op) := by
    by_cases ha : a = partOf op
    · rcases hm with ⟨_, h⟩ | ⟨h2, h | h⟩
      · exact absurd ha h
      · exact absurd ha h
      · exact Or.inr ⟨ha, h2, h⟩
    · exact Or.inl ha
  rcases hm2 with ha | ⟨rfl, h1, hc⟩
  · have e1 : (a != partOf op) = true := bne_iff_ne.2 ha
    clear hm ha
    generalize partOf op = q at *
    generalize manyOf op = m at *
    go_enter Tryz.func77, Tryz.ntmps77
    go_wp2_with fail
    refine g.mono ?_
    rintro e w1 ⟨rfl, rfl⟩
    clear g
    go_wp2_with fail
    go_ret
    exact ⟨rfl, HF.out⟩
  · rw [h1] at g
    have e1 : (c != partOf op) = true := bne_iff_ne.2 hc
    clear hm hc h1
    generalize partOf op = q at *
    go_enter Tryz.func77, Tryz.ntmps77
    go_wp2_with fail
    refine g.mono ?_
    rintro e w1 ⟨rfl, rfl⟩
    clear g
    go_wp2_with fail
    go_ret
    exact ⟨rfl, HF.out⟩
set_option maxRecDepth 100000 in
set_option maxHeartbeats 2000000 in
theorem leaf_digit {w : World} {b Bo : Nat} {wide vars : Int} {long : Nat} {vt vo : Value} {p : Nat} {ch : UInt8} {r : Tx} {l : List M.Tok} {o : List Nd} (h : RdAt w b Bo wide vars long vt vo ((p, ch :: r) :: l) o 0 0) (hol : o.length < 1000) (hs : (ch :: r).length ≤ 800) (hd : isDig ch = true) (Y : Bool) (hY : (isNum (ch :: r) && goodB wide (readN (ch :: r))) = Y) :
    Calls Tryz.prog 76 #[ptr b, tx (ch :: r)] w fun e w' => (Y = true ∧ e = .returned (.int .i64 1) ∧ RdTo w w' b Bo vo wide vars long l (o ++ [(1, (readN (ch :: r) : Int))]) 0 0) ∨ (Y = false ∧ e = .returned (.int .i64 0) ∧ RdTo w w' b Bo vo wide vars long ((p, ch :: r) :: l) o 4 (p : Int)) := by
  have hlet : isLet ch = false := by
    have := isDig_nat hd
    cases e : isLet ch with
    | false => rfl
    | true => have := isLet_nat e; omega
  have gn := sReadNum_any (ch :: r) (by omega) w
  have GL : Hid (∀ w1 : World, Calls Tryz.prog 75 #[.int .u8 (ch.toNat : Int)] w1 fun e w' => e = .returned (.bool false) ∧ w' = w1) := fun w1 => by
    have g := l3Letter_any ch w1
    rw [hlet] at g
    exact g
  have GD : Hid (∀ w1 : World, Calls Tryz.prog 74 #[.int .u8 (ch.toNat : Int)] w1 fun e w' => e = .returned (.bool true) ∧ w' = w1) := fun w1 => by
    have g := l3Digit_any ch w1
    rw [hd] at g
    exact g
  have he := tx_at (l := ch :: r) (j := 0) (c := ch) rfl (by rw [tx_size]; simp)
  have hsz : (0 : Int) < ((ch :: r).length : Int) := by simp
  have HR : Hid (∀ w1 : World, Below w.heap.size w w1 → RdAt w1 b Bo wide vars long vt vo ((p, ch :: r) :: l) o 0 0) := fun w1 hb => h.later hb
  have GG : Hid (∀ w1 : World, Calls Tryz.prog 101 #[.int .i64 wide, .int .u64 (readN (ch :: r) : Int)] w1 fun e w' => e = .returned (.bool (goodB wide (readN (ch :: r)))) ∧ w' = w1) := fun w1 => sGoodWord_any wide (readN (ch :: r)) (by omega) (by have := readN_lt (ch :: r); omega) w1
  have HK : Hid (∀ w1 : World, Below w.heap.size w w1 → Keep b w w1 vo vo) := fun w1 hb => Keep.below vo hb
  have HY : Hid ((isNum (ch :: r) && goodB wide (readN (ch :: r))) = Y) := hY
  clear h hY hd hlet
  generalize readN (ch :: r) = N at *
  generalize isNum (ch :: r) = I at *
  generalize goodB wide (N : Int) = G at *
  go_enter Tryz.func76, Tryz.ntmps76
  go_wp2_with fail
  refine gn.mono ?_
  rintro e w1 ⟨rfl, hb1⟩
  have hr1 := HR.out w1 hb1
  have HK1 : Hid (Keep b w w1 vo vo) := HK.out w1 hb1
  have gf := fault_any hr1 4
  have HF1 : Hid (Calls Tryz.prog 49 #[ptr b, .int .i64 4] w1 fun e w' => e = .returned (.int .i64 0) ∧ RdTo w1 w' b Bo vo wide vars long ((p, ch :: r) :: l) o 4 (p : Int)) := gf
  obtain ⟨c0, c1, c2, c3, c4, c5, c6⟩ := hr1.cell
  have f2 := frozen_heap (o := 2) hr1.heap
  obtain ⟨g, off, cap, a, c, rfl, hg, t0, t1, hcut, hr2, hl1⟩ := hr1.pop
  have HP : Hid (Calls Tryz.prog 102 #[ptr b, .int .i64 1, .int .u64 (N : Int)] (w1.setCell ⟨b, 2, none⟩ (.slice a l.length c)) fun e w' => e = .returned (.int .i64 (ownOf 1)) ∧ RdTo (w1.setCell ⟨b, 2, none⟩ (.slice a l.length c)) w' b Bo vo wide vars long l (o ++ [(1, (N : Int))]) 0 0) := put_any hr2 1 (N : Int) hol
  have HK2 : Hid (Keep b w (w1.setCell ⟨b, 2, none⟩ (.slice a l.length c)) vo vo) := HK1.out.set 2 _
  clear gn gf hb1 hr1 hr2 HK HR
  generalize l.length = ln at *
  go_wp2_with fail
  refine (GL.out _).mono ?_
  rintro e w2 ⟨rfl, rfl⟩
  go_wp2_with fail
  refine (GD.out _).mono ?_
  rintro e w2 ⟨rfl, rfl⟩
  cases I with
  | false =>
    go_wp2_with fail
    refine (Hid.out HF1).mono ?_
    rintro e w3 ⟨rfl, hr3⟩
    have H3 : Hid (RdTo w w3 b Bo vo wide vars long ((p, ch :: r) :: l) o 4 (p : Int)) := hr3.trans HK1.out
    clear hr3
    go_wp2_with fail
    go_ret
    exact Or.inr ⟨by have := HY.out; simpa using this.symm, rfl, H3.out⟩
  | true =>
    go_wp2_with fail
    refine (GG.out _).mono ?_
    rintro e w3 ⟨rfl, rfl⟩
    cases G with
    | false =>
      go_wp2_with fail
      refine (Hid.out HF1).mono ?_
      rintro e w4 ⟨rfl, hr3⟩
      have H3 : Hid (RdTo w w4 b Bo vo wide vars long ((p, ch :: r) :: l) o 4 (p : Int)) := hr3.trans HK1.out
      clear hr3
      go_wp2_with fail
      go_ret
      exact Or.inr ⟨by have := HY.out; simpa using this.symm, rfl, H3.out⟩
    | true =>
      go_wp2_with fail
      refine (GL.out _).mono ?_
      rintro e w4 ⟨rfl, rfl⟩
      go_wp2_with fail
      refine (Hid.out HP).mono ?_
      rintro e w4 ⟨rfl, hr3⟩
      have H3 : Hid (RdTo w w4 b Bo vo wide vars long l (o ++ [(1, (N : Int))]) 0 0) := hr3.trans HK2.out
      clear hr3
      go_wp2_with fail
      go_ret
      exact Or.inl ⟨by have := HY.out; simpa using this.symm, rfl, H3.out⟩
set_option maxRecDepth 100000 in
set_option maxHeartbeats 2000000 in
theorem leaf_yes {w : World} {b Bo : Nat} {wide vars : Int} {long : Nat} {vt vo : Value} {p : Nat}  {l : List M.Tok} {o : List Nd} (h : RdAt w b Bo wide vars long vt vo ((p, [121, 101, 115]) :: l) o 0 0) (hol : o.length < 1000)  :
    Calls Tryz.prog 76 #[ptr b, tx ([121, 101, 115])] w fun e w' => e = .returned (.int .i64 (2)) ∧ RdTo w w' b Bo vo wide vars long l (o ++ [(20, 1)]) 0 0 := by
  have hlet : isLet 121 = true := by decide
  have hdig : isDig 121 = false := by decide
  have gn := sReadNum_any ([121, 101, 115]) (by simp) w
  have GL : Hid (∀ w1 : World, Calls Tryz.prog 75 #[.int .u8 (121 : Int)] w1 fun e w' => e = .returned (.bool true) ∧ w' = w1) := fun w1 => by
    have g := l3Letter_any 121 w1
    rw [hlet] at g
    exact g
  have GD : Hid (∀ w1 : World, Calls Tryz.prog 74 #[.int .u8 (121 : Int)] w1 fun e w' => e = .returned (.bool false) ∧ w' = w1) := fun w1 => by
    have g := l3Digit_any 121 w1
    rw [hdig] at g
    exact g
  have HR : Hid (∀ w1 : World, Below w.heap.size w w1 → RdAt w1 b Bo wide vars long vt vo ((p, [121, 101, 115]) :: l) o 0 0) := fun w1 hb => h.later hb
  have HK : Hid (∀ w1 : World, Below w.heap.size w w1 → Keep b w w1 vo vo) := fun w1 hb => Keep.below vo hb
  clear h hlet hdig
  generalize readN ([121, 101, 115]) = N0 at *
  generalize isNum ([121, 101, 115]) = I at *
  go_enter Tryz.func76, Tryz.ntmps76
  go_wp2_with fail
  refine gn.mono ?_
  rintro e w1 ⟨rfl, hb1⟩
  have hr1 := HR.out w1 hb1
  have HK1 : Hid (Keep b w w1 vo vo) := HK.out w1 hb1
  obtain ⟨c0, c1, c2, c3, c4, c5, c6⟩ := hr1.cell
  have f2 := frozen_heap (o := 2) hr1.heap
  obtain ⟨g, off, cap, a, c, rfl, hg, t0, t1, hcut, hr2, hl1⟩ := hr1.pop
  have HP : Hid (Calls Tryz.prog 102 #[ptr b, .int .i64 20, .int .u64 1] (w1.setCell ⟨b, 2, none⟩ (.slice a l.length c)).drew fun e w' => e = .returned (.int .i64 (ownOf 20)) ∧ RdTo (w1.setCell ⟨b, 2, none⟩ (.slice a l.length c)).drew w' b Bo vo wide vars long l (o ++ [(20, 1)]) 0 0) := put_any (hr2.later (Below.refl _ _).drew) 20 1 hol
  have HK2 : Hid (Keep b w (w1.setCell ⟨b, 2, none⟩ (.slice a l.length c)).drew vo vo) := keep_drew (HK1.out.set 2 _)
  clear hr2
  generalize l.length = ln at *
  clear gn hb1 hr1 HK HR
  go_wp2_with fail
  refine (GL.out _).mono ?_
  rintro e w2 ⟨rfl, rfl⟩
  go_wp2_with fail
  go_region
  all_goals
    go_wp2_with fail
    refine (GD.out _).mono ?_
    rintro e w2 ⟨rfl, rfl⟩
    go_wp2_with fail
    refine (GL.out _).mono ?_
    rintro e w2 ⟨rfl, rfl⟩
    go_wp2_with fail
    refine (Hid.out HP).mono ?_
    rintro e w4 ⟨rfl, hr3⟩
    have H3 : Hid (RdTo w w4 b Bo vo wide vars long l (o ++ [(20, 1)]) 0 0) := hr3.trans HK2.out
    clear hr3
    go_wp2_with fail
    go_ret
    exact ⟨rfl, H3.out⟩
set_option maxRecDepth 100000 in
set_option maxHeartbeats 2000000 in
theorem leaf_no {w : World} {b Bo : Nat} {wide vars : Int} {long : Nat} {vt vo : Value} {p : Nat}  {l : List M.Tok} {o : List Nd} (h : RdAt w b Bo wide vars long vt vo ((p, [110, 111]) :: l) o 0 0) (hol : o.length < 1000)  :
    Calls Tryz.prog 76 #[ptr b, tx ([110, 111])] w fun e w' => e = .returned (.int .i64 (2)) ∧ RdTo w w' b Bo vo wide vars long l (o ++ [(20, 0)]) 0 0 := by
  have hlet : isLet 110 = true := by decide
  have hdig : isDig 110 = false := by decide
  have gn := sReadNum_any ([110, 111]) (by simp) w
  have GL : Hid (∀ w1 : World, Calls Tryz.prog 75 #[.int .u8 (110 : Int)] w1 fun e w' => e = .returned (.bool true) ∧ w' = w1) := fun w1 => by
    have g := l3Letter_any 110 w1
    rw [hlet] at g
    exact g
  have GD : Hid (∀ w1 : World, Calls Tryz.prog 74 #[.int .u8 (110 : Int)] w1 fun e w' => e = .returned (.bool false) ∧ w' = w1) := fun w1 => by
    have g := l3Digit_any 110 w1
    rw [hdig] at g
    exact g
  have HR : Hid (∀ w1 : World, Below w.heap.size w w1 → RdAt w1 b Bo wide vars long vt vo ((p, [110, 111]) :: l) o 0 0) := fun w1 hb => h.later hb
  have HK : Hid (∀ w1 : World, Below w.heap.size w w1 → Keep b w w1 vo vo) := fun w1 hb => Keep.below vo hb
  clear h hlet hdig
  generalize readN ([110, 111]) = N0 at *
  generalize isNum ([110, 111]) = I at *
  go_enter Tryz.func76, Tryz.ntmps76
  go_wp2_with fail
  refine gn.mono ?_
  rintro e w1 ⟨rfl, hb1⟩
  have hr1 := HR.out w1 hb1
  have HK1 : Hid (Keep b w w1 vo vo) := HK.out w1 hb1
  obtain ⟨c0, c1, c2, c3, c4, c5, c6⟩ := hr1.cell
  have f2 := frozen_heap (o := 2) hr1.heap
  obtain ⟨g, off, cap, a, c, rfl, hg, t0, t1, hcut, hr2, hl1⟩ := hr1.pop
  have HP : Hid (Calls Tryz.prog 102 #[ptr b, .int .i64 20, .int .u64 0] (w1.setCell ⟨b, 2, none⟩ (.slice a l.length c)).drew fun e w' => e = .returned (.int .i64 (ownOf 20)) ∧ RdTo (w1.setCell ⟨b, 2, none⟩ (.slice a l.length c)).drew w' b Bo vo wide vars long l (o ++ [(20, 0)]) 0 0) := put_any (hr2.later (Below.refl _ _).drew) 20 0 hol
  have HK2 : Hid (Keep b w (w1.setCell ⟨b, 2, none⟩ (.slice a l.length c)).drew vo vo) := keep_drew (HK1.out.set 2 _)
  clear hr2
  generalize l.length = ln at *
  clear gn hb1 hr1 HK HR
  go_wp2_with fail
  refine (GL.out _).mono ?_
  rintro e w2 ⟨rfl, rfl⟩
  go_wp2_with fail
  go_region
  all_goals
    go_wp2_with fail
    refine (GD.out _).mono ?_
    rintro e w2 ⟨rfl, rfl⟩
    go_wp2_with fail
    refine (GL.out _).mono ?_
    rintro e w2 ⟨rfl, rfl⟩
    go_wp2_with fail
    refine (Hid.out HP).mono ?_
    rintro e w4 ⟨rfl, hr3⟩
    have H3 : Hid (RdTo w w4 b Bo vo wide vars long l (o ++ [(20, 0)]) 0 0) := hr3.trans HK2.out
    clear hr3
    go_wp2_with fail
    go_ret
    exact ⟨rfl, H3.out⟩
set_option maxRecDepth 100000 in
set_option maxHeartbeats 2000000 in
theorem leaf_var {w : World} {b Bo : Nat} {wide vars : Int} {long : Nat} {vt vo : Value} {p : Nat} {ch : UInt8} {l : List M.Tok} {o : List Nd} (h : RdAt w b Bo wide vars long vt vo ((p, [ch]) :: l) o 0 0) (hol : o.length < 1000) (hlet : isLet ch = true) (hv : ((ch.toNat : Int) - 97) < vars) :
    Calls Tryz.prog 76 #[ptr b, tx ([ch])] w fun e w' => e = .returned (.int .i64 (1)) ∧ RdTo w w' b Bo vo wide vars long l (o ++ [(2, ((ch.toNat : Int) - 97))]) 0 0 := by
  have hdig : isDig ch = false := by
    have := isLet_nat hlet
    cases e : isDig ch with
    | false => rfl
    | true => have := isDig_nat e; omega
  have hb := isLet_nat hlet
  have gn := sReadNum_any ([ch]) (by simp) w
  have GL : Hid (∀ w1 : World, Calls Tryz.prog 75 #[.int .u8 (ch.toNat : Int)] w1 fun e w' => e = .returned (.bool true) ∧ w' = w1) := fun w1 => by
    have g := l3Letter_any ch w1
    rw [hlet] at g
    exact g
  have GD : Hid (∀ w1 : World, Calls Tryz.prog 74 #[.int .u8 (ch.toNat : Int)] w1 fun e w' => e = .returned (.bool false) ∧ w' = w1) := fun w1 => by
    have g := l3Digit_any ch w1
    rw [hdig] at g
    exact g
  have he := tx_at (l := [ch]) (j := 0) (c := ch) rfl (by rw [tx_size]; simp)
  have HR : Hid (∀ w1 : World, Below w.heap.size w w1 → RdAt w1 b Bo wide vars long vt vo ((p, [ch]) :: l) o 0 0) := fun w1 hb => h.later hb
  have HK : Hid (∀ w1 : World, Below w.heap.size w w1 → Keep b w w1 vo vo) := fun w1 hb => Keep.below vo hb
  clear h hlet hdig
  generalize readN ([ch]) = N0 at *
  generalize isNum ([ch]) = I at *
  go_enter Tryz.func76, Tryz.ntmps76
  go_wp2_with fail
  refine gn.mono ?_
  rintro e w1 ⟨rfl, hb1⟩
  have hr1 := HR.out w1 hb1
  have HK1 : Hid (Keep b w w1 vo vo) := HK.out w1 hb1
  obtain ⟨c0, c1, c2, c3, c4, c5, c6⟩ := hr1.cell
  have f2 := frozen_heap (o := 2) hr1.heap
  obtain ⟨g, off, cap, a, c, rfl, hg, t0, t1, hcut, hr2, hl1⟩ := hr1.pop
  have HP : Hid (Calls Tryz.prog 102 #[ptr b, .int .i64 2, .int .u64 ((ch.toNat : Int) - 97)] (w1.setCell ⟨b, 2, none⟩ (.slice a l.length c)).drew fun e w' => e = .returned (.int .i64 (ownOf 2)) ∧ RdTo (w1.setCell ⟨b, 2, none⟩ (.slice a l.length c)).drew w' b Bo vo wide vars long l (o ++ [(2, ((ch.toNat : Int) - 97))]) 0 0) := put_any (hr2.later (Below.refl _ _).drew) 2 ((ch.toNat : Int) - 97) hol
  have HK2 : Hid (Keep b w (w1.setCell ⟨b, 2, none⟩ (.slice a l.length c)).drew vo vo) := keep_drew (HK1.out.set 2 _)
  clear hr2
  generalize l.length = ln at *
  clear gn hb1 hr1 HK HR
  go_wp2_with fail
  refine (GL.out _).mono ?_
  rintro e w2 ⟨rfl, rfl⟩
  go_wp2_with fail
  go_region
  all_goals
    go_wp2_with fail
    refine (GD.out _).mono ?_
    rintro e w2 ⟨rfl, rfl⟩
    go_wp2_with fail
    refine (GL.out _).mono ?_
    rintro e w2 ⟨rfl, rfl⟩
    go_wp2_with fail
    refine (Hid.out HP).mono ?_
    rintro e w4 ⟨rfl, hr3⟩
    have H3 : Hid (RdTo w w4 b Bo vo wide vars long l (o ++ [(2, ((ch.toNat : Int) - 97))]) 0 0) := hr3.trans HK2.out
    clear hr3
    go_wp2_with fail
    go_ret
    exact ⟨rfl, H3.out⟩
set_option maxRecDepth 100000 in
set_option maxHeartbeats 2000000 in
theorem leaf_novar {w : World} {b Bo : Nat} {wide vars : Int} {long : Nat} {vt vo : Value} {p : Nat} {ch : UInt8} {l : List M.Tok} {o : List Nd} (h : RdAt w b Bo wide vars long vt vo ((p, [ch]) :: l) o 0 0) (hol : o.length < 1000) (hlet : isLet ch = true) (hv : ¬ ((ch.toNat : Int) - 97) < vars) :
    Calls Tryz.prog 76 #[ptr b, tx ([ch])] w fun e w' => e = .returned (.int .i64 0) ∧ RdTo w w' b Bo vo wide vars long ((p, [ch]) :: l) o 5 (p : Int) := by
  have hdig : isDig ch = false := by
    have := isLet_nat hlet
    cases e : isDig ch with
    | false => rfl
    | true => have := isDig_nat e; omega
  have hb := isLet_nat hlet
  have gn := sReadNum_any ([ch]) (by simp) w
  have GL : Hid (∀ w1 : World, Calls Tryz.prog 75 #[.int .u8 (ch.toNat : Int)] w1 fun e w' => e = .returned (.bool true) ∧ w' = w1) := fun w1 => by
    have g := l3Letter_any ch w1
    rw [hlet] at g
    exact g
  have GD : Hid (∀ w1 : World, Calls Tryz.prog 74 #[.int .u8 (ch.toNat : Int)] w1 fun e w' => e = .returned (.bool false) ∧ w' = w1) := fun w1 => by
    have g := l3Digit_any ch w1
    rw [hdig] at g
    exact g
  have hvd : decide (((ch.toNat : Int) - 97) < vars) = false := decide_eq_false hv
  have he := tx_at (l := [ch]) (j := 0) (c := ch) rfl (by rw [tx_size]; simp)
  have HR : Hid (∀ w1 : World, Below w.heap.size w w1 → RdAt w1 b Bo wide vars long vt vo ((p, [ch]) :: l) o 0 0) := fun w1 hb => h.later hb
  have HK : Hid (∀ w1 : World, Below w.heap.size w w1 → Keep b w w1 vo vo) := fun w1 hb => Keep.below vo hb
  clear h hlet hdig
  generalize readN ([ch]) = N0 at *
  generalize isNum ([ch]) = I at *
  go_enter Tryz.func76, Tryz.ntmps76
  go_wp2_with fail
  refine gn.mono ?_
  rintro e w1 ⟨rfl, hb1⟩
  have hr1 := HR.out w1 hb1
  have HK1 : Hid (Keep b w w1 vo vo) := HK.out w1 hb1
  obtain ⟨c0, c1, c2, c3, c4, c5, c6⟩ := hr1.cell
  have f2 := frozen_heap (o := 2) hr1.heap
  have HF1 : Hid (Calls Tryz.prog 49 #[ptr b, .int .i64 5] w1.drew fun e w' => e = .returned (.int .i64 0) ∧ RdTo w1.drew w' b Bo vo wide vars long ((p, [ch]) :: l) o 5 (p : Int)) := fault_any (hr1.later (Below.refl _ _).drew) 5
  clear gn hb1 hr1 HK HR
  go_wp2_with fail
  refine (GL.out _).mono ?_
  rintro e w2 ⟨rfl, rfl⟩
  go_wp2_with fail
  go_region
  all_goals
    go_wp2_with fail
    refine (GD.out _).mono ?_
    rintro e w2 ⟨rfl, rfl⟩
    go_wp2_with fail
    refine (GL.out _).mono ?_
    rintro e w2 ⟨rfl, rfl⟩
    go_wp2_with fail
    refine (Hid.out HF1).mono ?_
    rintro e w4 ⟨rfl, hr3⟩
    have H3 : Hid (RdTo w w4 b Bo vo wide vars long ((p, [ch]) :: l) o 5 (p : Int)) := hr3.trans (keep_drew HK1.out)
    clear hr3
    go_wp2_with fail
    go_ret
    exact ⟨rfl, H3.out⟩
set_option maxRecDepth 100000 in
set_option maxHeartbeats 2000000 in
theorem leaf_word {w : World} {b Bo : Nat} {wide vars : Int} {long : Nat} {vt vo : Value} {p : Nat} {ch : UInt8} {S : Tx} {l : List M.Tok} {o : List Nd} (h : RdAt w b Bo wide vars long vt vo ((p, S) :: l) o 0 0) (hol : o.length < 1000) (hlet : isLet ch = true) (hS : S[0]? = some ch) (h2 : 1 < S.length) (hs : S.length ≤ 800) (hy : S ≠ [121, 101, 115]) (hn : S ≠ [110, 111]) :
    Calls Tryz.prog 76 #[ptr b, tx S] w fun e w' => e = .returned (.int .i64 0) ∧ RdTo w w' b Bo vo wide vars long ((p, S) :: l) o 5 (p : Int) := by
  have hdig : isDig ch = false := by
    have := isLet_nat hlet
    cases e : isDig ch with
    | false => rfl
    | true => have := isDig_nat e; omega
  have hb := isLet_nat hlet
  have gn := sReadNum_any S (by omega) w
  have GL : Hid (∀ w1 : World, Calls Tryz.prog 75 #[.int .u8 (ch.toNat : Int)] w1 fun e w' => e = .returned (.bool true) ∧ w' = w1) := fun w1 => by
    have g := l3Letter_any ch w1
    rw [hlet] at g
    exact g
  have GD : Hid (∀ w1 : World, Calls Tryz.prog 74 #[.int .u8 (ch.toNat : Int)] w1 fun e w' => e = .returned (.bool false) ∧ w' = w1) := fun w1 => by
    have g := l3Digit_any ch w1
    rw [hdig] at g
    exact g
  have he := tx_at (l := S) (j := 0) (c := ch) hS (by rw [tx_size]; omega)
  have hsz : (1 : Int) < (S.length : Int) := by omega
  have hs1 : ((S.length : Int) == 1) = false := beq_eq_false_iff_ne.2 (by omega)
  have y1 : ((S : Tx) == [121, 101, 115]) = false := beq_eq_false_iff_ne.2 hy
  have y2 : ((S : Tx) == [110, 111]) = false := beq_eq_false_iff_ne.2 hn
  have HR : Hid (∀ w1 : World, Below w.heap.size w w1 → RdAt w1 b Bo wide vars long vt vo ((p, S) :: l) o 0 0) := fun w1 hb => h.later hb
  have HK : Hid (∀ w1 : World, Below w.heap.size w w1 → Keep b w w1 vo vo) := fun w1 hb => Keep.below vo hb
  clear h hlet hdig
  generalize readN S = N0 at *
  generalize isNum S = I at *
  go_enter Tryz.func76, Tryz.ntmps76
  go_wp2_with fail
  refine gn.mono ?_
  rintro e w1 ⟨rfl, hb1⟩
  have hr1 := HR.out w1 hb1
  have HK1 : Hid (Keep b w w1 vo vo) := HK.out w1 hb1
  obtain ⟨c0, c1, c2, c3, c4, c5, c6⟩ := hr1.cell
  have f2 := frozen_heap (o := 2) hr1.heap
  have HF1 : Hid (Calls Tryz.prog 49 #[ptr b, .int .i64 5] w1.drew fun e w' => e = .returned (.int .i64 0) ∧ RdTo w1.drew w' b Bo vo wide vars long ((p, S) :: l) o 5 (p : Int)) := fault_any (hr1.later (Below.refl _ _).drew) 5
  clear gn hb1 hr1 HK HR
  go_wp2_with fail
  refine (GL.out _).mono ?_
  rintro e w2 ⟨rfl, rfl⟩
  go_wp2_with fail
  go_region
  all_goals
    go_wp2_with fail
    refine (GD.out _).mono ?_
    rintro e w2 ⟨rfl, rfl⟩
    go_wp2_with fail
    refine (GL.out _).mono ?_
    rintro e w2 ⟨rfl, rfl⟩
    go_wp2_with fail
    refine (Hid.out HF1).mono ?_
    rintro e w4 ⟨rfl, hr3⟩
    have H3 : Hid (RdTo w w4 b Bo vo wide vars long ((p, S) :: l) o 5 (p : Int)) := hr3.trans (keep_drew HK1.out)
    clear hr3
    go_wp2_with fail
    go_ret
    exact ⟨rfl, H3.out⟩
end Go.Proofs.YtkfplichekebdaaGreatDoor

namespace Go.Proofs.YtkfplichekebdaaGreatDoor
open Go
open M
set_option linter.unusedVariables false

/-- what is read stands at the front, and has no more nodes than tokens -/
theorem readT_front (wide vars : Int) (long : Nat) : ∀ (f : Nat) (l : List M.Tok) (t : Tr) (r : List M.Tok), readT wide vars long f l = .ok (t, r) → ∃ m, l = m ++ r ∧ t.size ≤ m.length
  | 0, _, _, _, h => by cases h
  | _ + 1, [], _, _, h => by cases h
  | f + 1, x :: q, t, r, h => by
    simp only [readT] at h
    split at h
    · split at h
      · cases h
      · simp only [Except.ok.injEq, Prod.mk.injEq] at h
        obtain ⟨rfl, rfl⟩ := h
        exact ⟨[x], rfl, by simp [Tr.size]⟩
    · split at h
      · split at h
        · cases h
        · rename_i e
          obtain ⟨m, rfl, hm⟩ := readT_front wide vars long f _ _ _ e
          split at h
          · simp only [Except.ok.injEq, Prod.mk.injEq] at h
            obtain ⟨rfl, rfl⟩ := h
            exact ⟨x :: m, rfl, by simp only [Tr.size, List.length_cons]; omega⟩
          · cases h
      · split at h
        · cases h
        · split at h
          · cases h
          · cases h
          · rename_i y r1 e
            obtain ⟨m, rfl, hm⟩ := readT_front wide vars long f _ _ _ e
            split at h
            · cases h
            · split at h
              · cases h
              · cases h
              · rename_i z r2 e2
                obtain ⟨m2, rfl, hm2⟩ := readT_front wide vars long f _ _ _ e2
                split at h
                · cases h
                · split at h
                  · simp only [Except.ok.injEq, Prod.mk.injEq] at h
                    obtain ⟨rfl, rfl⟩ := h
                    refine ⟨x :: (m ++ y :: (m2 ++ [z])), ?_, ?_⟩
                    · simp
                    · simp only [Tr.size, List.length_cons, List.length_append, List.length_nil]; omega
                  · cases h
end Go.Proofs.YtkfplichekebdaaGreatDoor

namespace Go.Proofs.YtkfplichekebdaaGreatDoor
open Go Go.RowKit
open M
set_option linter.unusedVariables false

/-- a leaf -/
theorem leaf_all {w : World} {b Bo : Nat} {wide vars : Int} {long : Nat} {vt vo : Value} {p : Nat} {s : Tx} {l : List M.Tok} {o : List Nd} (h : RdAt w b Bo wide vars long vt vo ((p, s) :: l) o 0 0) (hol : o.length < 1000) (hs : s.length ≤ 800) (hlf : isLeaf s = true) :
    Calls Tryz.prog 76 #[ptr b, tx s] w fun e w' => (∃ nd, leafRd wide vars s = .ok nd ∧ e = .returned (.int .i64 (ownOf nd.1)) ∧ RdTo w w' b Bo vo wide vars long l (o ++ [nd]) 0 0) ∨ (∃ c, leafRd wide vars s = .error c ∧ e = .returned (.int .i64 0) ∧ RdTo w w' b Bo vo wide vars long ((p, s) :: l) o (c : Int) (p : Int)) := by
  match s, h, hs, hlf with
  | ch :: r, h, hs, hlf =>
    cases hd : isDig ch with
    | true =>
      refine (leaf_digit h hol hs hd _ rfl).mono ?_
      rintro e w' (⟨hy, rfl, hr⟩ | ⟨hy, rfl, hr⟩)
      · refine Or.inl ⟨_, ?_, rfl, hr⟩
        simp only [leafRd]
        rw [if_pos hd, if_pos (by simpa using hy)]
      · refine Or.inr ⟨4, ?_, rfl, hr⟩
        simp only [leafRd]
        rw [if_pos hd, if_neg (by intro g; rw [g.1, g.2] at hy; cases hy)]
    | false =>
      have hlet : isLet ch = true := by simpa [isLeaf, hd] using hlf
      have hn := isLet_nat hlet
      by_cases hy : ch :: r = yesL
      · have hy2 : ch :: r = [121, 101, 115] := hy
        simp only [leafRd]
        rw [if_neg (by rw [hd]; decide), if_pos hy]
        rw [hy2] at h ⊢
        exact (leaf_yes h hol).mono fun e w' ⟨he, hr⟩ => Or.inl ⟨_, rfl, he, hr⟩
      · by_cases hno : ch :: r = noL
        · have hy2 : ch :: r = [110, 111] := hno
          simp only [leafRd]
          rw [if_neg (by rw [hd]; decide), if_neg hy, if_pos hno]
          rw [hy2] at h ⊢
          exact (leaf_no h hol).mono fun e w' ⟨he, hr⟩ => Or.inl ⟨_, rfl, he, hr⟩
        · simp only [leafRd]
          rw [if_neg (by rw [hd]; decide), if_neg hy, if_neg hno]
          match r, h, hs, hy, hno with
          | [], h, hs, hy, hno =>
            have e1 : ((ch.toNat - 97 : Nat) : Int) = (ch.toNat : Int) - 97 := by omega
            rw [e1]
            by_cases hv : ((ch.toNat : Int) - 97) < vars
            · rw [if_pos ⟨rfl, hv⟩]
              exact (leaf_var h hol hlet hv).mono fun e w' ⟨he, hr⟩ => Or.inl ⟨_, rfl, he, hr⟩
            · rw [if_neg (fun g => hv g.2)]
              exact (leaf_novar h hol hlet hv).mono fun e w' ⟨he, hr⟩ => Or.inr ⟨5, rfl, he, hr⟩
          | d :: r, h, hs, hy, hno =>
            rw [if_neg (fun g => by simp at g)]
            exact (leaf_word h hol hlet rfl (by simp) hs hy hno).mono fun e w' ⟨he, hr⟩ => Or.inr ⟨5, rfl, he, hr⟩
end Go.Proofs.YtkfplichekebdaaGreatDoor

namespace Go.Proofs.YtkfplichekebdaaGreatDoor
open Go Go.RowKit
open M
set_option linter.unusedVariables false

/-- a byte from lo to hi -/
def inB (lo hi : Nat) (b : UInt8) : Bool := decide (lo ≤ b.toNat) && decide (b.toNat ≤ hi)
theorem runs_stop {p : UInt8 → Bool} {s : Tx} {j : Nat} {c : UInt8} (h1 : (s.take j).all p = true) (hc : s[j]? = some c) (h2 : p c = false) : (s.takeWhile p).length = j := by
  induction s generalizing j with
  | nil => simp at hc
  | cons a s ih =>
    match j with
    | 0 =>
      simp at hc
      subst hc
      simp [h2]
    | j + 1 =>
      simp only [List.take_succ_cons, List.all_cons, Bool.and_eq_true] at h1
      rw [List.takeWhile_cons, if_pos h1.1, List.length_cons, ih h1.2 (by simpa using hc)]
theorem runs_all {p : UInt8 → Bool} {s : Tx} (h : s.all p = true) : (s.takeWhile p).length = s.length := by
  induction s with
  | nil => rfl
  | cons a s ih =>
    simp only [List.all_cons, Bool.and_eq_true] at h
    rw [List.takeWhile_cons, if_pos h.1, List.length_cons, ih h.2, List.length_cons]
set_option maxHeartbeats 6400000 in
set_option maxRecDepth 1000000 in
theorem runSize_any (s : Tx) (lo hi : Nat) (hlo : lo ≤ hi) (hhi : hi < 128) (hl : s.length ≤ 1048576) (w : World) :
    Calls Tryz.prog 103 #[tx s, .int .i32 lo, .int .i32 hi] w fun e w' => e = .returned (.int .i64 ((s.takeWhile (inB lo hi)).length : Int)) ∧ Below w.heap.size w w' := by
  have HS : Hid (∀ (j : Nat) (c : UInt8), (s.take j).all (inB lo hi) = true → s[j]? = some c → inB lo hi c = false → (s.takeWhile (inB lo hi)).length = j) := fun j c h1 h2 h3 => runs_stop h1 h2 h3
  have HA : Hid (s.all (inB lo hi) = true → (s.takeWhile (inB lo hi)).length = s.length) := runs_all
  generalize (s.takeWhile (inB lo hi)).length = R at *
  go_enter Tryz.func103, Tryz.ntmps103
  go_wp2_with fail
  go_loopw [11] (fun _ wr => ∃ pos : Nat, pos ≤ s.length ∧ Hid (wr.heap[w.heap.size]? = some (.stringIter ⟨s.toArray⟩ pos)) ∧ Hid ((s.take pos).all (inB lo hi) = true) ∧ Hid (Below w.heap.size w wr)) (fun _ wr => s.length - wr.iterPos w.heap.size)
  case atStart =>
    refine ⟨0, by omega, World.iter_heap w ⟨s.toArray⟩ 0, rfl, (Below.refl _ w).alloc (Nat.le_refl _) _⟩
  case round =>
    obtain ⟨pos, hpos, HIT, HAL, HB⟩ := hrel
    have hsz : w.heap.size < wr.heap.size := (Array.getElem?_eq_some_iff.1 HIT.out).1
    by_cases hlt' : pos < s.length
    · have hp : pos < (ByteArray.mk s.toArray).size := by rw [tx_size]; exact hlt'
      obtain ⟨c, hcj⟩ : ∃ c, s[pos]? = some c := ⟨s[pos], List.getElem?_eq_getElem hlt'⟩
      have he := tx_at hcj hp
      by_cases hin : inB lo hi c = true
      · have hc2 : lo ≤ c.toNat ∧ c.toNat ≤ hi := by unfold inB at hin; simpa using hin
        have hnx : ∀ ty, (Instr.next (.pointer (some ⟨w.heap.size, 0, none⟩)) true ty).run Tryz.prog wr = .ok (.tuple #[.bool true, .int .i64 pos, .int .i32 (c.toNat : Int)]) (wr.iterAt w.heap.size ⟨s.toArray⟩ (pos + 1)) := fun ty => by
          rw [Lib.run_next_ascii_at wr w.heap.size ⟨s.toArray⟩ pos ty HIT.out hp (by rw [he]; omega), he]
        have HIT2 : Hid ((wr.iterAt w.heap.size ⟨s.toArray⟩ (pos + 1)).heap[w.heap.size]? = some (.stringIter ⟨s.toArray⟩ (pos + 1))) := Lib.iterAt_heap wr w.heap.size ⟨s.toArray⟩ pos (pos + 1) HIT.out
        have HB2 : Hid (Below w.heap.size w (wr.iterAt w.heap.size ⟨s.toArray⟩ (pos + 1))) := Lib.below_iterAt HB.out (k := w.heap.size) (Nat.le_refl _) _ _
        have HAL2 : Hid ((s.take (pos + 1)).all (inB lo hi) = true) := by
          show (s.take (pos + 1)).all (inB lo hi) = true
          rw [take_snoc hcj, List.all_append, HAL.out]
          simp [hin]
        have HM : Hid (wr.iterPos w.heap.size = pos ∧ (wr.iterAt w.heap.size ⟨s.toArray⟩ (pos + 1)).iterPos w.heap.size = pos + 1) := by
          constructor
          · simp only [World.iterPos, HIT.out]
          · simp only [World.iterPos, HIT2.out]
        have c1 : (lo : Int) ≤ c.toNat := by omega
        have c2 : (c.toNat : Int) ≤ hi := by omega
        clear hcj hin hc2 he hp
        go_wp2_with fail
        go_roundw
        case rel => exact ⟨pos + 1, by omega, HIT2, HAL2, HB2⟩
        case measure => rw [HM.out.1, HM.out.2]; omega
      · have hin' : inB lo hi c = false := by simpa using hin
        have HR := (HS.out pos c HAL.out hcj hin').symm
        subst HR
        have hx : ¬ (lo ≤ c.toNat ∧ c.toNat ≤ hi) := by
          intro h
          exact hin (by unfold inB; simp [h.1, h.2])
        obtain ⟨z, hz, hzz, hz3⟩ : ∃ z : Nat, (Utf8.decode ⟨s.toArray⟩ pos).1 = z ∧ (z < lo ∨ hi < z) ∧ z ≤ 2147483647 := by
          refine ⟨_, rfl, ?_, decode_le _ _⟩
          by_cases ha : c.toNat < 128
          · rw [decode_ascii ⟨s.toArray⟩ pos hp (by rw [he]; exact ha), he]
            show c.toNat < lo ∨ hi < c.toNat
            omega
          · have := (decode_high ⟨s.toArray⟩ pos hp (by rw [he]; omega)).1
            omega
        obtain ⟨np, hnp⟩ : ∃ np, pos + (Utf8.decode ⟨s.toArray⟩ pos).2 = np := ⟨_, rfl⟩
        have hnx : ∀ ty, (Instr.next (.pointer (some ⟨w.heap.size, 0, none⟩)) true ty).run Tryz.prog wr = .ok (.tuple #[.bool true, .int .i64 pos, .int .i32 (z : Int)]) (wr.iterAt w.heap.size ⟨s.toArray⟩ np) := fun ty => by
          rw [Lib.run_next_any_at wr w.heap.size ⟨s.toArray⟩ pos ty HIT.out hp, hz, hnp]
        have HB2 : Hid (Below w.heap.size w (wr.iterAt w.heap.size ⟨s.toArray⟩ np)) := Lib.below_iterAt HB.out (k := w.heap.size) (Nat.le_refl _) _ _
        clear hcj hin hin' hx he hp hz hnp
        by_cases hzl : z < lo
        · have c1 : (z : Int) < lo := by omega
          go_wp2_with fail
          go_ret
          exact ⟨rfl, HB2.out⟩
        · have c1 : ¬ (z : Int) < lo := by omega
          have c2 : (hi : Int) < z := by omega
          go_wp2_with fail
          go_ret
          exact ⟨rfl, HB2.out⟩
    · obtain rfl : pos = s.length := by omega
      have HR := HA.out (by have h := HAL.out; rw [List.take_length] at h; exact h)
      have HRR : Hid _ := HR
      clear HR
      have hnx : ∀ ty, (Instr.next (.pointer (some ⟨w.heap.size, 0, none⟩)) true ty).run Tryz.prog wr = _ := fun ty => Lib.run_next_end_at wr w.heap.size ⟨s.toArray⟩ s.length ty HIT.out (by rw [tx_size]; omega)
      go_wp2_with fail
      go_ret
      exact ⟨by rw [HRR.out]; rfl, HB.out⟩
theorem digitsSize_any (s : Tx) (hl : s.length ≤ 1048576) (w : World) : Calls Tryz.prog 79 #[tx s] w fun e w' => e = .returned (.int .i64 ((s.takeWhile isDig).length : Int)) ∧ Below w.heap.size w w' := by
  have g := runSize_any s 48 57 (by decide) (by decide) hl w
  rw [show inB 48 57 = isDig from rfl] at g
  generalize (s.takeWhile isDig).length = R at *
  go_enter Tryz.func79, Tryz.ntmps79
  go_wp2_with fail
  refine g.mono ?_
  rintro e w' ⟨rfl, hb⟩
  have HB : Hid _ := hb
  clear g hb
  go_wp2_with fail
  go_ret
  exact ⟨rfl, HB.out⟩
theorem lettersSize_any (s : Tx) (hl : s.length ≤ 1048576) (w : World) : Calls Tryz.prog 80 #[tx s] w fun e w' => e = .returned (.int .i64 ((s.takeWhile isLet).length : Int)) ∧ Below w.heap.size w w' := by
  have g := runSize_any s 97 122 (by decide) (by decide) hl w
  rw [show inB 97 122 = isLet from rfl] at g
  generalize (s.takeWhile isLet).length = R at *
  go_enter Tryz.func80, Tryz.ntmps80
  go_wp2_with fail
  refine g.mono ?_
  rintro e w' ⟨rfl, hb⟩
  have HB : Hid _ := hb
  clear g hb
  go_wp2_with fail
  go_ret
  exact ⟨rfl, HB.out⟩
end Go.Proofs.YtkfplichekebdaaGreatDoor

namespace Go.Proofs
open Go.Shelf
def Tryz.lays283_ren : Go.Shelf.Ren := ⟨fun | 283 => 91 | n => n, fun | 3 => 3 | 9 => 9 | 4 => 4 | n => n, fun | n => n⟩
theorem Tryz.lays283 : Go.Proofs.Lays.n283 Tryz.prog Tryz.lays283_ren := {
  mixed := by kernel_rfl
  f283 := Tryz.func91.trans (congrArg some (by kernel_rfl))
  t3 := Tryz.underlying3
  a3 := Tryz.isAgg3
  z3 := Tryz.sizeOf3
  v3 := Tryz.zeroValue3
  t4 := Tryz.underlying4
  a4 := Tryz.isAgg4
  z4 := Tryz.sizeOf4
  v4 := Tryz.zeroValue4
  t9 := Tryz.underlying9
  a9 := Tryz.isAgg9
  z9 := Tryz.sizeOf9
  v9 := Tryz.zeroValue9 }
def Tryz.laysM284_ren : Go.Shelf.Ren := ⟨fun | 284 => 92 | 129 => 109 | 317 => 108 | 318 => 110 | n => n, fun | 53 => 34 | 3 => 3 | 212 => 129 | 0 => 0 | 4 => 4 | 46 => 99 | 5 => 5 | 9 => 9 | n => n, fun | 17 => 2 | n => n⟩
theorem Tryz.laysM284 : Go.Proofs.LaysM.n284 Tryz.prog Tryz.laysM284_ren := {
  mixed := by kernel_rfl
  f129 := Tryz.func109.trans (congrArg some (by kernel_rfl))
  f284 := Tryz.func92.trans (congrArg some (by kernel_rfl))
  f317 := Tryz.func108.trans (congrArg some (by kernel_rfl))
  f318 := Tryz.func110.trans (congrArg some (by kernel_rfl))
  t0 := Tryz.underlying0
  a0 := Tryz.isAgg0
  z0 := Tryz.sizeOf0
  v0 := Tryz.zeroValue0
  t3 := Tryz.underlying3
  a3 := Tryz.isAgg3
  z3 := Tryz.sizeOf3
  v3 := Tryz.zeroValue3
  t4 := Tryz.underlying4
  a4 := Tryz.isAgg4
  z4 := Tryz.sizeOf4
  v4 := Tryz.zeroValue4
  t5 := Tryz.underlying5
  a5 := Tryz.isAgg5
  z5 := Tryz.sizeOf5
  v5 := Tryz.zeroValue5
  t9 := Tryz.underlying9
  a9 := Tryz.isAgg9
  z9 := Tryz.sizeOf9
  v9 := Tryz.zeroValue9
  t46 := Tryz.underlying99
  a46 := Tryz.isAgg99
  z46 := Tryz.sizeOf99
  v46 := Tryz.zeroValue99
  t53 := Tryz.underlying34
  a53 := Tryz.isAgg34
  z53 := Tryz.sizeOf34
  v53 := Tryz.zeroValue34
  t212 := Tryz.underlying129
  a212 := Tryz.isAgg129
  z212 := Tryz.sizeOf129
  v212 := Tryz.zeroValue129
  g17 := by kernel_rfl
  i0 := by kernel_rfl
  i3 := by kernel_rfl
  i4 := by kernel_rfl
  i5 := by kernel_rfl
  i9 := by kernel_rfl
  i46 := by kernel_rfl
  i53 := by kernel_rfl
  i212 := by kernel_rfl
  m17 := by kernel_rfl }
def Tryz.lays285_ren : Go.Shelf.Ren := ⟨fun | 285 => 93 | n => n, fun | 37 => 22 | 53 => 34 | 3 => 3 | 4 => 4 | 51 => 130 | 9 => 9 | 5 => 5 | 0 => 0 | n => n, fun | n => n⟩
theorem Tryz.lays285 : Go.Proofs.Lays.n285 Tryz.prog Tryz.lays285_ren := {
  mixed := by kernel_rfl
  f285 := Tryz.func93.trans (congrArg some (by kernel_rfl))
  t0 := Tryz.underlying0
  a0 := Tryz.isAgg0
  z0 := Tryz.sizeOf0
  v0 := Tryz.zeroValue0
  t3 := Tryz.underlying3
  a3 := Tryz.isAgg3
  z3 := Tryz.sizeOf3
  v3 := Tryz.zeroValue3
  t4 := Tryz.underlying4
  a4 := Tryz.isAgg4
  z4 := Tryz.sizeOf4
  v4 := Tryz.zeroValue4
  t5 := Tryz.underlying5
  a5 := Tryz.isAgg5
  z5 := Tryz.sizeOf5
  v5 := Tryz.zeroValue5
  t9 := Tryz.underlying9
  a9 := Tryz.isAgg9
  z9 := Tryz.sizeOf9
  v9 := Tryz.zeroValue9
  t37 := Tryz.underlying22
  a37 := Tryz.isAgg22
  z37 := Tryz.sizeOf22
  v37 := Tryz.zeroValue22
  t51 := Tryz.underlying130
  a51 := Tryz.isAgg130
  z51 := Tryz.sizeOf130
  v51 := Tryz.zeroValue130
  t53 := Tryz.underlying34
  a53 := Tryz.isAgg34
  z53 := Tryz.sizeOf34
  v53 := Tryz.zeroValue34 }
def Tryz.laysM316_ren : Go.Shelf.Ren := ⟨fun | 316 => 83 | n => n, fun | 9 => 9 | 3 => 3 | 4 => 4 | 37 => 22 | 0 => 0 | 127 => 124 | 5 => 5 | n => n, fun | n => n⟩
theorem Tryz.laysM316 : Go.Proofs.LaysM.n316 Tryz.prog Tryz.laysM316_ren := {
  mixed := by kernel_rfl
  f316 := Tryz.func83.trans (congrArg some (by kernel_rfl))
  t0 := Tryz.underlying0
  a0 := Tryz.isAgg0
  z0 := Tryz.sizeOf0
  v0 := Tryz.zeroValue0
  t3 := Tryz.underlying3
  a3 := Tryz.isAgg3
  z3 := Tryz.sizeOf3
  v3 := Tryz.zeroValue3
  t4 := Tryz.underlying4
  a4 := Tryz.isAgg4
  z4 := Tryz.sizeOf4
  v4 := Tryz.zeroValue4
  t9 := Tryz.underlying9
  a9 := Tryz.isAgg9
  z9 := Tryz.sizeOf9
  v9 := Tryz.zeroValue9
  t37 := Tryz.underlying22
  a37 := Tryz.isAgg22
  z37 := Tryz.sizeOf22
  v37 := Tryz.zeroValue22
  t127 := Tryz.underlying124
  a127 := Tryz.isAgg124
  z127 := Tryz.sizeOf124
  v127 := Tryz.zeroValue124
  t5 := Tryz.underlying5
  a5 := Tryz.isAgg5
  z5 := Tryz.sizeOf5
  v5 := Tryz.zeroValue5
  i0 := by kernel_rfl
  i3 := by kernel_rfl
  i4 := by kernel_rfl
  i5 := by kernel_rfl
  i9 := by kernel_rfl
  i37 := by kernel_rfl
  i127 := by kernel_rfl }
def Tryz.laysPu14_ren : Go.Shelf.Ren := ⟨fun | 14 => 39 | 16 => 68 | 17 => 69 | 19 => 95 | 20 => 96 | 21 => 97 | 22 => 98 | 23 => 99 | 24 => 100 | 25 => 83 | 27 => 114 | 26 => 113 | 28 => 118 | 29 => 119 | 30 => 91 | 31 => 92 | 32 => 93 | 33 => 94 | 35 => 109 | 34 => 108 | 36 => 110 | 37 => 111 | 38 => 112 | 39 => 116 | 40 => 117 | n => n, fun | 9 => 9 | 3 => 3 | 22 => 34 | 24 => 70 | 25 => 71 | 4 => 4 | 34 => 116 | 5 => 5 | 36 => 99 | 37 => 22 | 0 => 0 | 39 => 118 | 21 => 21 | 44 => 134 | 47 => 124 | 50 => 139 | 48 => 137 | 2 => 2 | 52 => 111 | 55 => 114 | 59 => 129 | 60 => 130 | 20 => 20 | 61 => 131 | 65 => 140 | 66 => 141 | 67 => 51 | n => n, fun | 0 => 3 | 1 => 4 | 2 => 2 | 3 => 5 | 4 => 6 | n => n⟩
theorem Tryz.laysPu14 : Go.Proofs.LaysPu.n14 Tryz.prog Tryz.laysPu14_ren := {
  mixed := by kernel_rfl
  f14 := Tryz.func39.trans (congrArg some (by kernel_rfl))
  f16 := Tryz.func68.trans (congrArg some (by kernel_rfl))
  f17 := Tryz.func69.trans (congrArg some (by kernel_rfl))
  f19 := Tryz.func95.trans (congrArg some (by kernel_rfl))
  f20 := Tryz.func96.trans (congrArg some (by kernel_rfl))
  f21 := Tryz.func97.trans (congrArg some (by kernel_rfl))
  f22 := Tryz.func98.trans (congrArg some (by kernel_rfl))
  f23 := Tryz.func99.trans (congrArg some (by kernel_rfl))
  f24 := Tryz.func100.trans (congrArg some (by kernel_rfl))
  f25 := Tryz.func83.trans (congrArg some (by kernel_rfl))
  f26 := Tryz.func113.trans (congrArg some (by kernel_rfl))
  f27 := Tryz.func114.trans (congrArg some (by kernel_rfl))
  f28 := Tryz.func118.trans (congrArg some (by kernel_rfl))
  f29 := Tryz.func119.trans (congrArg some (by kernel_rfl))
  f30 := Tryz.func91.trans (congrArg some (by kernel_rfl))
  f31 := Tryz.func92.trans (congrArg some (by kernel_rfl))
  f32 := Tryz.func93.trans (congrArg some (by kernel_rfl))
  f33 := Tryz.func94.trans (congrArg some (by kernel_rfl))
  f34 := Tryz.func108.trans (congrArg some (by kernel_rfl))
  f35 := Tryz.func109.trans (congrArg some (by kernel_rfl))
  f36 := Tryz.func110.trans (congrArg some (by kernel_rfl))
  f37 := Tryz.func111.trans (congrArg some (by kernel_rfl))
  f38 := Tryz.func112.trans (congrArg some (by kernel_rfl))
  f39 := Tryz.func116.trans (congrArg some (by kernel_rfl))
  f40 := Tryz.func117.trans (congrArg some (by kernel_rfl))
  t0 := Tryz.underlying0
  a0 := Tryz.isAgg0
  z0 := Tryz.sizeOf0
  v0 := Tryz.zeroValue0
  i0 := by kernel_rfl
  t2 := Tryz.underlying2
  a2 := Tryz.isAgg2
  z2 := Tryz.sizeOf2
  v2 := Tryz.zeroValue2
  i2 := by kernel_rfl
  t3 := Tryz.underlying3
  a3 := Tryz.isAgg3
  z3 := Tryz.sizeOf3
  v3 := Tryz.zeroValue3
  i3 := by kernel_rfl
  t4 := Tryz.underlying4
  a4 := Tryz.isAgg4
  z4 := Tryz.sizeOf4
  v4 := Tryz.zeroValue4
  i4 := by kernel_rfl
  t5 := Tryz.underlying5
  a5 := Tryz.isAgg5
  z5 := Tryz.sizeOf5
  v5 := Tryz.zeroValue5
  i5 := by kernel_rfl
  t9 := Tryz.underlying9
  a9 := Tryz.isAgg9
  z9 := Tryz.sizeOf9
  v9 := Tryz.zeroValue9
  i9 := by kernel_rfl
  t20 := Tryz.underlying20
  a20 := Tryz.isAgg20
  z20 := Tryz.sizeOf20
  v20 := Tryz.zeroValue20
  i20 := by kernel_rfl
  t21 := Tryz.underlying21
  a21 := Tryz.isAgg21
  z21 := Tryz.sizeOf21
  v21 := Tryz.zeroValue21
  i21 := by kernel_rfl
  t22 := Tryz.underlying34
  a22 := Tryz.isAgg34
  z22 := Tryz.sizeOf34
  v22 := Tryz.zeroValue34
  i22 := by kernel_rfl
  t24 := Tryz.underlying70
  a24 := Tryz.isAgg70
  z24 := Tryz.sizeOf70
  v24 := Tryz.zeroValue70
  i24 := by kernel_rfl
  t25 := Tryz.underlying71
  a25 := Tryz.isAgg71
  z25 := Tryz.sizeOf71
  v25 := Tryz.zeroValue71
  i25 := by kernel_rfl
  t34 := Tryz.underlying116
  a34 := Tryz.isAgg116
  z34 := Tryz.sizeOf116
  v34 := Tryz.zeroValue116
  i34 := by kernel_rfl
  c34 := by kernel_rfl
  t36 := Tryz.underlying99
  a36 := Tryz.isAgg99
  z36 := Tryz.sizeOf99
  v36 := Tryz.zeroValue99
  i36 := by kernel_rfl
  t37 := Tryz.underlying22
  a37 := Tryz.isAgg22
  z37 := Tryz.sizeOf22
  v37 := Tryz.zeroValue22
  i37 := by kernel_rfl
  t39 := Tryz.underlying118
  a39 := Tryz.isAgg118
  z39 := Tryz.sizeOf118
  v39 := Tryz.zeroValue118
  i39 := by kernel_rfl
  t44 := Tryz.underlying134
  a44 := Tryz.isAgg134
  z44 := Tryz.sizeOf134
  v44 := Tryz.zeroValue134
  i44 := by kernel_rfl
  t47 := Tryz.underlying124
  a47 := Tryz.isAgg124
  z47 := Tryz.sizeOf124
  v47 := Tryz.zeroValue124
  i47 := by kernel_rfl
  t48 := Tryz.underlying137
  a48 := Tryz.isAgg137
  z48 := Tryz.sizeOf137
  v48 := Tryz.zeroValue137
  i48 := by kernel_rfl
  t50 := Tryz.underlying139
  a50 := Tryz.isAgg139
  z50 := Tryz.sizeOf139
  v50 := Tryz.zeroValue139
  i50 := by kernel_rfl
  t52 := Tryz.underlying111
  a52 := Tryz.isAgg111
  z52 := Tryz.sizeOf111
  v52 := Tryz.zeroValue111
  i52 := by kernel_rfl
  t55 := Tryz.underlying114
  a55 := Tryz.isAgg114
  z55 := Tryz.sizeOf114
  v55 := Tryz.zeroValue114
  i55 := by kernel_rfl
  t59 := Tryz.underlying129
  a59 := Tryz.isAgg129
  z59 := Tryz.sizeOf129
  v59 := Tryz.zeroValue129
  i59 := by kernel_rfl
  t60 := Tryz.underlying130
  a60 := Tryz.isAgg130
  z60 := Tryz.sizeOf130
  v60 := Tryz.zeroValue130
  i60 := by kernel_rfl
  t61 := Tryz.underlying131
  a61 := Tryz.isAgg131
  z61 := Tryz.sizeOf131
  t65 := Tryz.underlying140
  a65 := Tryz.isAgg140
  z65 := Tryz.sizeOf140
  v65 := Tryz.zeroValue140
  i65 := by kernel_rfl
  t66 := Tryz.underlying141
  a66 := Tryz.isAgg141
  z66 := Tryz.sizeOf141
  v66 := Tryz.zeroValue141
  i66 := by kernel_rfl
  t67 := Tryz.underlying51
  a67 := Tryz.isAgg51
  z67 := Tryz.sizeOf51
  v67 := Tryz.zeroValue51
  i67 := by kernel_rfl
  g0 := by kernel_rfl
  m0 := by kernel_rfl
  g1 := by kernel_rfl
  m1 := by kernel_rfl
  g2 := by kernel_rfl
  m2 := by kernel_rfl
  g3 := by kernel_rfl
  m3 := by kernel_rfl
  g4 := by kernel_rfl
  m4 := by kernel_rfl }
def Tryz.lays99_ren : Go.Shelf.Ren := ⟨fun | 99 => 104 | 206 => 115 | n => n, fun | 9 => 9 | 4 => 4 | 3 => 3 | n => n, fun | n => n⟩
theorem Tryz.lays99 : Go.Proofs.Lays.n99 Tryz.prog Tryz.lays99_ren := {
  mixed := by kernel_rfl
  f99 := Tryz.func104.trans (congrArg some (by kernel_rfl))
  f206 := Tryz.func115.trans (congrArg some (by kernel_rfl))
  t3 := Tryz.underlying3
  a3 := Tryz.isAgg3
  z3 := Tryz.sizeOf3
  v3 := Tryz.zeroValue3
  t4 := Tryz.underlying4
  a4 := Tryz.isAgg4
  z4 := Tryz.sizeOf4
  v4 := Tryz.zeroValue4
  t9 := Tryz.underlying9
  a9 := Tryz.isAgg9
  z9 := Tryz.sizeOf9
  v9 := Tryz.zeroValue9 }
end Go.Proofs

namespace Go.Proofs.YtkfplichekebdaaGreatDoor
open Go Go.RowKit
open M
set_option linter.unusedVariables false

theorem hasPrefix_any (s p : Tx) (w : World) : Calls Tryz.prog 104 #[tx s, tx p] w fun e w' => e = .returned (.bool (p.isPrefixOf s)) ∧ w' = w :=
  Any.strings_HasPrefix Tryz.lays99 ⟨s.toArray⟩ ⟨p.toArray⟩ w
/-- the signs as one value -/
abbrev signsV : Value := .agg signsA
/-- the longest of the first signs that begin a text -/
def signMax (s : Tx) : Nat → Nat
  | 0 => 0
  | j + 1 => if (signN j).isPrefixOf s = true then max (signMax s j) (signN j).length else signMax s j
theorem signMax_le (s : Tx) : ∀ j, signMax s j ≤ 2
  | 0 => by simp [signMax]
  | j + 1 => by
    have := signMax_le s j
    have := signN_len j
    simp only [signMax]
    split <;> omega
theorem index_sign0 (W : World) : (Instr.index 90 signsV (.int .i64 0)).run Tryz.prog W = .ok (tx (signN 0)) W := by kernel_rfl
theorem index_sign1 (W : World) : (Instr.index 90 signsV (.int .i64 1)).run Tryz.prog W = .ok (tx (signN 1)) W := by kernel_rfl
theorem index_sign2 (W : World) : (Instr.index 90 signsV (.int .i64 2)).run Tryz.prog W = .ok (tx (signN 2)) W := by kernel_rfl
theorem index_sign3 (W : World) : (Instr.index 90 signsV (.int .i64 3)).run Tryz.prog W = .ok (tx (signN 3)) W := by kernel_rfl
theorem index_sign4 (W : World) : (Instr.index 90 signsV (.int .i64 4)).run Tryz.prog W = .ok (tx (signN 4)) W := by kernel_rfl
theorem index_sign5 (W : World) : (Instr.index 90 signsV (.int .i64 5)).run Tryz.prog W = .ok (tx (signN 5)) W := by kernel_rfl
theorem index_sign6 (W : World) : (Instr.index 90 signsV (.int .i64 6)).run Tryz.prog W = .ok (tx (signN 6)) W := by kernel_rfl
theorem index_sign7 (W : World) : (Instr.index 90 signsV (.int .i64 7)).run Tryz.prog W = .ok (tx (signN 7)) W := by kernel_rfl
theorem index_sign8 (W : World) : (Instr.index 90 signsV (.int .i64 8)).run Tryz.prog W = .ok (tx (signN 8)) W := by kernel_rfl
theorem index_sign9 (W : World) : (Instr.index 90 signsV (.int .i64 9)).run Tryz.prog W = .ok (tx (signN 9)) W := by kernel_rfl
theorem index_sign10 (W : World) : (Instr.index 90 signsV (.int .i64 10)).run Tryz.prog W = .ok (tx (signN 10)) W := by kernel_rfl
theorem index_sign11 (W : World) : (Instr.index 90 signsV (.int .i64 11)).run Tryz.prog W = .ok (tx (signN 11)) W := by kernel_rfl
theorem index_sign12 (W : World) : (Instr.index 90 signsV (.int .i64 12)).run Tryz.prog W = .ok (tx (signN 12)) W := by kernel_rfl
theorem index_sign13 (W : World) : (Instr.index 90 signsV (.int .i64 13)).run Tryz.prog W = .ok (tx (signN 13)) W := by kernel_rfl
theorem index_sign14 (W : World) : (Instr.index 90 signsV (.int .i64 14)).run Tryz.prog W = .ok (tx (signN 14)) W := by kernel_rfl
theorem index_sign15 (W : World) : (Instr.index 90 signsV (.int .i64 15)).run Tryz.prog W = .ok (tx (signN 15)) W := by kernel_rfl
theorem index_sign16 (W : World) : (Instr.index 90 signsV (.int .i64 16)).run Tryz.prog W = .ok (tx (signN 16)) W := by kernel_rfl
theorem index_sign17 (W : World) : (Instr.index 90 signsV (.int .i64 17)).run Tryz.prog W = .ok (tx (signN 17)) W := by kernel_rfl
theorem index_sign18 (W : World) : (Instr.index 90 signsV (.int .i64 18)).run Tryz.prog W = .ok (tx (signN 18)) W := by kernel_rfl
theorem index_sign19 (W : World) : (Instr.index 90 signsV (.int .i64 19)).run Tryz.prog W = .ok (tx (signN 19)) W := by kernel_rfl
theorem index_sign20 (W : World) : (Instr.index 90 signsV (.int .i64 20)).run Tryz.prog W = .ok (tx (signN 20)) W := by kernel_rfl
theorem index_sign (j : Nat) (hj : j < 21) (W : World) : (Instr.index 90 signsV (.int .i64 (j : Int))).run Tryz.prog W = .ok (tx (signN j)) W :=
  match j, hj with
  | 0, _ => index_sign0 W
  | 1, _ => index_sign1 W
  | 2, _ => index_sign2 W
  | 3, _ => index_sign3 W
  | 4, _ => index_sign4 W
  | 5, _ => index_sign5 W
  | 6, _ => index_sign6 W
  | 7, _ => index_sign7 W
  | 8, _ => index_sign8 W
  | 9, _ => index_sign9 W
  | 10, _ => index_sign10 W
  | 11, _ => index_sign11 W
  | 12, _ => index_sign12 W
  | 13, _ => index_sign13 W
  | 14, _ => index_sign14 W
  | 15, _ => index_sign15 W
  | 16, _ => index_sign16 W
  | 17, _ => index_sign17 W
  | 18, _ => index_sign18 W
  | 19, _ => index_sign19 W
  | 20, _ => index_sign20 W
  | n + 21, h => by omega
set_option maxHeartbeats 6400000 in
set_option maxRecDepth 1000000 in
theorem signSize_any (s : Tx) (w : World) (hS : Signs w) : Calls Tryz.prog 81 #[tx s] w fun e w' => e = .returned (.int .i64 (signMax s 21 : Int)) ∧ w' = w := by
  obtain ⟨tt, fr, hg1⟩ := hS
  have HX : Hid (∀ (j : Nat), j < 21 → ∀ W : World, (Instr.index 90 signsV (.int .i64 (j : Int))).run Tryz.prog W = .ok (tx (signN j)) W) := index_sign
  go_enter Tryz.func81, Tryz.ntmps81
  go_wp2_with (refine wpList_load_row rfl 90 _ rfl 0 rfl tt _ fr _ hg1 Tryz.underlying90 rfl (by kernel_rfl) ?_)
  go_loop [3, 7] (fun v i => ∃ j : Nat, j ≤ 21 ∧ i = .int .i64 j ∧ v = .int .i64 (signMax s j : Int)) (fun _ i => 21 - (intOf i).toNat)
  case atStart => exact ⟨0, by omega, rfl, rfl⟩
  case round =>
    obtain ⟨j, hj, rfl, rfl⟩ := hrel
    by_cases hlt' : j < 21
    · have hix := fun W : World => HX.out j hlt' W
      have g := hasPrefix_any s (signN j) w
      have HM : Hid (signMax s (j + 1) = if (signN j).isPrefixOf s = true then max (signMax s j) (signN j).length else signMax s j) := rfl
      have hle := signMax_le s j
      have hlen := signN_len j
      cases hpre : (signN j).isPrefixOf s with
      | true =>
        rw [hpre] at g
        have HM2 : Hid (signMax s (j + 1) = max (signMax s j) (signN j).length) := by
          have h := HM.out
          rw [if_pos hpre] at h
          exact h
        clear hpre HM
        generalize signN j = sg at *
        generalize signMax s j = mj at *
        go_wp2_with fail
        refine g.mono ?_
        rintro e w' ⟨rfl, rfl⟩
        clear g
        go_wp2_with fail
        go_round
        case rel => exact ⟨j + 1, by omega, by go_num, by rw [HM2.out]; congr 1; first | omega | (split <;> omega)⟩
        case measure => simp [intOf]; omega
      | false =>
        rw [hpre] at g
        have HM2 : Hid (signMax s (j + 1) = signMax s j) := by
          have h := HM.out
          rw [if_neg (by rw [hpre]; decide)] at h
          exact h
        clear hpre HM
        generalize signN j = sg at *
        generalize signMax s j = mj at *
        go_wp2_with fail
        refine g.mono ?_
        rintro e w' ⟨rfl, rfl⟩
        clear g
        go_wp2_with fail
        go_round
        case rel => exact ⟨j + 1, by omega, by go_num, by rw [HM2.out]⟩
        case measure => simp [intOf]; omega
    · obtain rfl : j = 21 := by omega
      go_wp2_with fail
      go_ret
      exact ⟨rfl, rfl⟩
theorem bracketSize_any (s : Tx) (w : World) : Calls Tryz.prog 82 #[tx s] w fun e w' => e = .returned (.int .i64 (if [40].isPrefixOf s || [41].isPrefixOf s then 1 else 0)) ∧ w' = w := by
  have g1 := hasPrefix_any s [40] w
  have g2 := hasPrefix_any s [41] w
  cases h1 : [40].isPrefixOf s with
  | true =>
    rw [h1] at g1
    clear g2 h1
    simp only [Bool.true_or, if_true]
    go_enter Tryz.func82, Tryz.ntmps82
    go_wp2_with (go_at_call 104; refine g1.mono ?_; rintro e w' ⟨rfl, rfl⟩)
    go_ret
    exact ⟨rfl, rfl⟩
  | false =>
    rw [h1] at g1
    cases h2 : [41].isPrefixOf s with
    | true =>
      rw [h2] at g2
      clear h1 h2
      simp only [Bool.or_true, if_true]
      go_enter Tryz.func82, Tryz.ntmps82
      go_wp2_with fail
      refine g1.mono ?_
      rintro e w1 ⟨rfl, rfl⟩
      go_wp2_with fail
      refine g2.mono ?_
      rintro e w1 ⟨rfl, rfl⟩
      go_wp2_with fail
      go_ret
      exact ⟨rfl, rfl⟩
    | false =>
      rw [h2] at g2
      clear h1 h2
      simp only [Bool.or_false]
      go_enter Tryz.func82, Tryz.ntmps82
      go_wp2_with fail
      refine g1.mono ?_
      rintro e w1 ⟨rfl, rfl⟩
      go_wp2_with fail
      refine g2.mono ?_
      rintro e w1 ⟨rfl, rfl⟩
      go_wp2_with fail
      go_ret
      exact ⟨rfl, rfl⟩
end Go.Proofs.YtkfplichekebdaaGreatDoor

namespace Go.Proofs.YtkfplichekebdaaGreatDoor
open Go Go.RowKit
open M
set_option linter.unusedVariables false

theorem iNameOf_any (k : Int) (w : World) : Calls Tryz.prog 17 #[.int .i64 k] w fun e w' => e = .returned (.tuple #[tx (nameT k), .bool (decide (0 ≤ k ∧ k ≤ 3))]) ∧ w' = w := by
  unfold nameT
  by_cases h : 0 ≤ k ∧ k ≤ 3
  · rw [if_pos h, decide_eq_true h]
    have hk : k = 0 ∨ k = 1 ∨ k = 2 ∨ k = 3 := by omega
    clear h
    rcases hk with rfl | rfl | rfl | rfl
    all_goals
      go_enter Tryz.func17, Tryz.ntmps17
      go_wp2_with fail
      go_ret2
      exact ⟨rfl, rfl⟩
  · rw [if_neg h, decide_eq_false h]
    by_cases h0 : k < 0
    · clear h
      go_enter Tryz.func17, Tryz.ntmps17
      go_wp2_with fail
      go_ret2
      exact ⟨rfl, rfl⟩
    · have h1 : ¬ k < 0 := h0
      have h2 : 4 ≤ k := by omega
      clear h
      go_enter Tryz.func17, Tryz.ntmps17
      go_wp2_with fail
      go_ret2
      exact ⟨rfl, rfl⟩
end Go.Proofs.YtkfplichekebdaaGreatDoor

namespace Go.Proofs.YtkfplichekebdaaGreatDoor
open Go Go.RowKit Go.Sort Go.Lib
open M
set_option linter.unusedVariables false

theorem dec_num (n : Nat) : Lib.decDigits n = numL n := by
  refine numL_ind (P := fun n => Lib.decDigits n = numL n) ?_ ?_ n
  · intro n h
    rw [Lib.decDigits, dif_pos h, numL_small h]
    rfl
  · intro n h ih
    rw [Lib.decDigits, dif_neg (by omega), numL_big h, ih]
    rfl
theorem pow_tab {w : World} (h : Pow w) : Lib.TabIs Tryz.prog w nmPow .u64 Lib.pow10Tab := h
theorem small_at (i : Nat) (h : i < 100) (w : World) : Calls Tryz.prog 91 #[.int .i64 i] w fun e w' => e = .returned (tx (numL i)) ∧ w' = w := by
  rw [← dec_num]
  exact Any.internal_strconv_small Tryz.lays283 i h w
theorem numDigits_at (u : Nat) (h1 : 1 ≤ u) (h2 : u < 18446744073709551616) (w : World) (hP : Pow w) : Calls Tryz.prog 92 #[.int .u64 u] w fun e w' => e = .returned (.int .i64 (Lib.nDigits u)) ∧ w' = w :=
  Any.internal_strconv_numDigits Tryz.laysM284 u h1 h2 w (pow_tab hP)
theorem base10_at (blk off cap : Nat) (u : Nat) (d : Array UInt8) (w : World) (hH : Holds (fun (b : UInt8) => Value.int .u8 (b.toNat : Int)) w blk off d) (hu : u < 10 ^ d.size) (hu64 : u < 18446744073709551616) (hsz : d.size < 4611686018427387904) :
    Calls Tryz.prog 93 #[.slice (some ⟨blk, off, none⟩) d.size cap, .int .u64 u] w fun e w' =>
      e = .returned (.tuple #[]) ∧ ∃ (n v' : Nat) (dk : Array UInt8), w' = (putRow (fun (b : UInt8) => Value.int .u8 (b.toNat : Int)) w blk off dk).drewN n ∧ FmtInv d.size u 0 v' dk :=
  Any.internal_strconv_formatBase10 Tryz.lays285 blk off cap u d w hH hu hu64 hsz
/-- the new block's bytes are a row of zeros -/
theorem holds_zero0 (w : World) (T : TypeId) (nd : Nat) (hs : nd ≤ 24) : Holds (fun (b : UInt8) => Value.int .u8 (b.toNat : Int)) (w.alloc (.cells zeros24 T)) w.heap.size 0 (Array.replicate nd (0 : UInt8)) := fun j hj => by
  have hj' : j < nd := by simpa using hj
  refine ⟨?_, World.frozen?_alloc_new _ _ _ _⟩
  rw [World.cell?_alloc_new, zeros24_at _ (by omega), getElem!_pos _ j hj]
  simp
theorem fin_zero (w : World) (o : Obj) (dk : Array UInt8) (k : Nat) : Below w.heap.size w ((putRow (fun (b : UInt8) => Value.int .u8 (b.toNat : Int)) (w.alloc o) w.heap.size 0 dk).drewN k) := by
  rw [alloc_eq_grow]
  obtain ⟨os', _, e⟩ := putRow_grow_new (fun (b : UInt8) => Value.int .u8 (b.toNat : Int)) w #[o] w.heap.size 0 dk (Nat.le_refl _)
  rw [e]
  show Below w.heap.size w (grow (w.drewN k) os')
  refine ⟨rfl, rfl, rfl, by simp [grow, World.drewN], fun i hi => ?_⟩
  simp [grow, World.drewN, Array.getElem?_append, hi]
set_option maxHeartbeats 6400000 in
set_option maxRecDepth 100000 in
theorem format_big (u : Nat) (h100 : 100 ≤ u) (hu64 : u < 18446744073709551616) (w : World) (hP : Pow w) :
    Calls Tryz.prog 67 #[.int .u64 u, .int .i64 10] w fun e w' => e = .returned (tx (numL u)) ∧ Below w.heap.size w w' := by
  have hnd20 : Lib.nDigits u ≤ 20 := by rw [← Lib.decDigits_length, dec_num]; exact numL_len20 hu64
  have hal : Tryz.prog.arrayLen 111 = 24 := by kernel_rfl
  have hsl1 : ∀ W, (Instr.sliceAt 111 (.pointer (some ⟨w.heap.size, 0, none⟩)) none (some (.int .i64 (Lib.nDigits u : Int))) none).run Tryz.prog W = .ok (.slice (some ⟨w.heap.size, 0, none⟩) (Lib.nDigits u) 24) W := fun W => by
    rw [run_sliceAt_array_h W 111 ⟨w.heap.size, 0, none⟩ (by simp [Program.arrayLen, Program.elem, Tryz.underlying111]) .i64 (Lib.nDigits u : Int) (by omega) (by rw [hal]; omega)]
    go_simp
  have hH0 := holds_zero0 w 111 (Lib.nDigits u) (by omega)
  have hfmt := base10_at w.heap.size 0 24 u (Array.replicate (Lib.nDigits u) 0) (w.alloc (.cells Lib.zeros24 111)) hH0 (by rw [Array.size_replicate]; exact Lib.lt_pow_nDigits u) hu64 (by rw [Array.size_replicate]; omega)
  rw [Array.size_replicate] at hfmt
  have HH0 := Lib.hid hH0
  have gN := numDigits_at u (by omega) hu64 (w.alloc (.cells Lib.zeros24 111)) (Lib.tabIs_alloc hP _)
  rw [← dec_num]
  have HL : Hid ((Lib.decDigits u).length = Lib.nDigits u) := Lib.decDigits_length u
  have HR : Hid (∀ {v' : Nat} {dk : Array UInt8}, FmtInv (Lib.nDigits u) u 0 v' dk → ∀ (j : Nat) (hj : j < (Lib.decDigits u).length), (Lib.decDigits u)[j] = dk[j]!) := fun h j hj => Lib.row_is_numeral h j hj
  clear hH0 hal hP
  generalize Lib.decDigits u = l at *
  generalize Lib.nDigits u = nd at *
  go_enter Tryz.func67, Tryz.ntmps67
  go_wp2_with fail
  refine gN.mono ?_
  rintro e w1 ⟨rfl, rfl⟩
  clear gN
  go_wp2_with fail
  refine hfmt.mono ?_
  rintro e w2 ⟨rfl, k, v', dk, rfl, hF⟩
  clear hfmt
  have HB : Hid _ := fin_zero w (.cells Lib.zeros24 111) dk k
  have hcv : (convert 22 9 (.slice (some ⟨w.heap.size, 0, none⟩) nd 24)).run Tryz.prog ((putRow (fun (b : UInt8) => Value.int .u8 (b.toNat : Int)) (w.alloc (.cells Lib.zeros24 111)) w.heap.size 0 dk).drewN k) = .ok (tx l) ((putRow (fun (b : UInt8) => Value.int .u8 (b.toNat : Int)) (w.alloc (.cells Lib.zeros24 111)) w.heap.size 0 dk).drewN k) := by
    have h := run_convert_bytes_back (P := Tryz.prog) ((putRow (fun (b : UInt8) => Value.int .u8 (b.toNat : Int)) (w.alloc (.cells Lib.zeros24 111)) w.heap.size 0 dk).drewN k) 22 9 5 ⟨w.heap.size, 0, none⟩ 24 l Tryz.underlying22 Tryz.underlying5 Tryz.underlying9 (fun j hj => by
      rw [HR.out hF j hj, Lib.add_plain, World.cell?_drewN]
      exact cell?_putRow (fun (b : UInt8) => Value.int .u8 (b.toNat : Int)) _ w.heap.size 0 _ dk HH0.out (by rw [hF.size, Array.size_replicate]) j (by rw [hF.size, ← HL.out]; exact hj))
    rw [HL.out] at h
    exact h
  generalize (putRow (fun (b : UInt8) => Value.int .u8 (b.toNat : Int)) (w.alloc (.cells Lib.zeros24 111)) w.heap.size 0 dk).drewN k = w2 at *
  go_wp2_with fail
  go_ret
  exact ⟨rfl, HB.out⟩
theorem format_small (u : Nat) (h100 : u < 100) (w : World) :
    Calls Tryz.prog 67 #[.int .u64 u, .int .i64 10] w fun e w' => e = .returned (tx (numL u)) ∧ Below w.heap.size w w' := by
  have g := small_at u h100 w
  generalize numL u = l at *
  go_enter Tryz.func67, Tryz.ntmps67
  go_wp2_with fail
  refine g.mono ?_
  rintro e w1 ⟨rfl, rfl⟩
  clear g
  go_wp2_with fail
  go_ret
  exact ⟨rfl, Below.refl _ _⟩
theorem format_any (u : Nat) (hu64 : u < 18446744073709551616) (w : World) (hP : Pow w) :
    Calls Tryz.prog 67 #[.int .u64 u, .int .i64 10] w fun e w' => e = .returned (tx (numL u)) ∧ Below w.heap.size w w' := by
  by_cases h : u < 100
  · exact format_small u h w
  · exact format_big u (by omega) hu64 w hP
theorem formatUint_any (u : Nat) (hu64 : u < 18446744073709551616) (w : World) (hP : Pow w) :
    Calls Tryz.prog 38 #[.int .u64 u, .int .i64 10] w fun e w' => e = .returned (tx (numL u)) ∧ Below w.heap.size w w' := by
  have g := format_any u hu64 w hP
  clear hP
  generalize numL u = l at *
  go_enter Tryz.func38, Tryz.ntmps38
  go_wp2_with fail
  refine g.mono ?_
  rintro e w1 ⟨rfl, hb⟩
  have HB : Hid _ := hb
  clear g hb
  go_wp2_with fail
  go_ret
  exact ⟨rfl, HB.out⟩
theorem iNumText_any (u : Nat) (hu64 : u < 18446744073709551616) (w : World) (hP : Pow w) :
    Calls Tryz.prog 14 #[.int .u64 u] w fun e w' => e = .returned (tx (numL u)) ∧ Below w.heap.size w w' := by
  have g := formatUint_any u hu64 w hP
  clear hP
  generalize numL u = l at *
  go_enter Tryz.func14, Tryz.ntmps14
  go_wp2_with fail
  refine g.mono ?_
  rintro e w1 ⟨rfl, hb⟩
  have HB : Hid _ := hb
  clear g hb
  go_wp2_with fail
  go_ret
  exact ⟨rfl, HB.out⟩
end Go.Proofs.YtkfplichekebdaaGreatDoor

namespace Go.Proofs.YtkfplichekebdaaGreatDoor
open Go Go.RowKit
open M
set_option linter.unusedVariables false

theorem parse_num_rest (n : Nat) : n ≤ 18446744073709551615 → ∀ r : Tx, Lib.parseUintM 18446744073709551615 0 (numL n ++ r) = Lib.parseUintM 18446744073709551615 n r := by
  refine numL_ind (P := fun n => n ≤ 18446744073709551615 → ∀ r : Tx, Lib.parseUintM 18446744073709551615 0 (numL n ++ r) = Lib.parseUintM 18446744073709551615 n r) ?_ ?_ n
  · intro n h hn r
    have hd := dig_nat h
    rw [numL_small h, List.singleton_append]
    simp only [Lib.parseUintM]
    rw [if_pos ⟨by omega, by omega⟩, if_neg (by omega), if_neg (by omega), show 0 * 10 + ((dig n).toNat - 48) = n from by omega]
  · intro n h ih hn r
    have hd := dig_nat (n := n % 10) (by omega)
    rw [numL_big h, List.append_assoc, ih (by omega), List.singleton_append]
    simp only [Lib.parseUintM]
    rw [if_pos ⟨by omega, by omega⟩, if_neg (by omega), if_neg (by omega), show n / 10 * 10 + ((dig (n % 10)).toNat - 48) = n from by omega]
theorem parse_num (n : Nat) (hn : n < 18446744073709551616) : Lib.parseUintB 64 (numL n) = .ok n := by
  unfold Lib.parseUintB
  rw [if_neg (by intro e; have := numL_pos n; rw [e] at this; simp at this)]
  have h := parse_num_rest n (by omega) []
  rw [List.append_nil] at h
  exact h
theorem parse_lt {l : Tx} {u : Nat} (h : Lib.parseUintB 64 l = .ok u) : u < 18446744073709551616 := by
  have key : ∀ (l : Tx) (acc u : Nat), acc ≤ 18446744073709551615 → Lib.parseUintM 18446744073709551615 acc l = .ok u → u ≤ 18446744073709551615 := by
    intro l
    induction l with
    | nil =>
      intro acc u ha h
      simp only [Lib.parseUintM] at h
      injection h with h
      omega
    | cons c r ih =>
      intro acc u ha h
      simp only [Lib.parseUintM] at h
      split at h
      · split at h
        · cases h
        · split at h
          · cases h
          · exact ih _ _ (by omega) h
      · cases h
  unfold Lib.parseUintB at h
  split at h
  · cases h
  · have := key l 0 u (by omega) h
    omega
/-- what ParseUint does with a text of which it is the number, and with another one -/
theorem parse_ok (l : Tx) (hl : l.length ≤ 20) (u : Nat) (h : Lib.parseUintB 64 l = .ok u) (w : World) : Calls Tryz.prog 39 #[tx l, .int .i64 10, .int .i64 64] w fun e w' => e = .returned (.tuple #[.int .u64 u, .nilIface]) ∧ Below w.heap.size w w' := by
  have g : Calls Tryz.prog 39 #[tx l, .int .i64 10, .int .i64 64] w fun e w' => e = .returned (.tuple #[.int .u64 u, .nilIface]) ∧ (w' = w ∨ w' = Lib.bytesWorld w 5 ⟨l.toArray⟩) := Any.strconv_ParseUint_10_at64_ok Tryz.laysPu14 ⟨l.toArray⟩ (by rw [tx_size]; omega) u h w
  refine g.mono ?_
  rintro e w' ⟨he, rfl | rfl⟩
  · exact ⟨he, Below.refl _ _⟩
  · exact ⟨he, Lib.bytesWorld_below _ _ _⟩
theorem parse_no (l : Tx) (hl : l.length ≤ 20) (h : ∀ u, Lib.parseUintB 64 l ≠ .ok u) (w : World) (hR : ErrAt 4 w) (hS : ErrAt 3 w) :
    Calls Tryz.prog 39 #[tx l, .int .i64 10, .int .i64 64] w fun e w' => ∃ (n : Int) (tp : TypeId) (p : Value), e = .returned (.tuple #[.int .u64 n, .iface tp p]) ∧ Below w.heap.size w w' := by
  cases hp : Lib.parseUintB 64 l with
  | ok u => exact absurd hp (h u)
  | «syntax» =>
    obtain ⟨_, tp, p, hc⟩ := hS
    have g := Any.strconv_ParseUint_10_at64_syntax Tryz.laysPu14 ⟨l.toArray⟩ (by rw [tx_size]; omega) hp _ w hc (Or.inr ⟨_, _, rfl⟩)
    refine Calls.mono g ?_
    rintro e w' ⟨N, he, _, _, hb⟩
    exact ⟨_, _, _, he, hb⟩
  | range =>
    obtain ⟨_, tp, p, hc⟩ := hR
    have g := Any.strconv_ParseUint_10_at64_range Tryz.laysPu14 ⟨l.toArray⟩ (by rw [tx_size]; omega) hp _ w hc (Or.inr ⟨_, _, rfl⟩)
    refine Calls.mono g ?_
    rintro e w' ⟨N, he, _, _, hb⟩
    exact ⟨_, _, _, he, hb⟩
set_option maxRecDepth 100000 in
theorem iReadNum_any (l : Tx) (hl : l.length ≤ 9223372036854775807) (w : World) (hP : Pow w) (hR : ErrAt 4 w) (hS : ErrAt 3 w) :
    Calls Tryz.prog 15 #[tx l] w fun e w' => e = .returned (.tuple #[.int .u64 (readN l : Int), .bool (isNum l)]) ∧ Below w.heap.size w w' := by
  by_cases h20 : l.length ≤ 20
  · by_cases hok : ∃ u, Lib.parseUintB 64 l = .ok u
    · obtain ⟨u, hu⟩ := hok
      have g1 := parse_ok l h20 u hu w
      have hlt := parse_lt hu
      have GN : Hid (∀ w1 : World, Below w.heap.size w w1 → Calls Tryz.prog 14 #[.int .u64 u] w1 fun e w' => e = .returned (tx (numL u)) ∧ Below w1.heap.size w1 w') := fun w1 hb => iNumText_any u hlt w1 (hP.below hb)
      by_cases hq : numL u = l
      · have e1 : isNum l = true := isNum_iff.2 ⟨u, hlt, hq⟩
        have e2 : readN l = u := by rw [← hq]; exact readN_num hlt
        rw [e1, e2]
        rw [hq] at GN
        clear hq hu e1 e2 hP hR hS
        go_enter Tryz.func15, Tryz.ntmps15
        go_wp2_with fail
        refine g1.mono ?_
        rintro e w1 ⟨rfl, hb1⟩
        have g2 := GN.out w1 hb1
        have HB1 : Hid _ := hb1
        clear g1 hb1 GN
        go_wp2_with fail
        refine g2.mono ?_
        rintro e w2 ⟨rfl, hb2⟩
        have HB2 : Hid (Below w.heap.size w w2) := HB1.out.trans (hb2.mono HB1.out.size)
        clear g2 hb2
        go_wp2_with fail
        go_ret2
        exact ⟨rfl, HB2.out⟩
      · have e1 : isNum l = false := by
          cases e : isNum l with
          | false => rfl
          | true =>
            obtain ⟨n, hn, he⟩ := isNum_iff.1 e
            have h2 := parse_num n hn
            rw [he, hu] at h2
            injection h2 with h2
            subst h2
            exact absurd he hq
        have e2 : readN l = 0 := by unfold readN; rw [e1]; rfl
        rw [e1, e2]
        have hne : (numL u == l) = false := beq_eq_false_iff_ne.2 hq
        generalize numL u = m at *
        clear hq hu e1 e2 hP hR hS
        go_enter Tryz.func15, Tryz.ntmps15
        go_wp2_with fail
        refine g1.mono ?_
        rintro e w1 ⟨rfl, hb1⟩
        have g2 := GN.out w1 hb1
        have HB1 : Hid _ := hb1
        clear g1 hb1 GN
        go_wp2_with fail
        refine g2.mono ?_
        rintro e w2 ⟨rfl, hb2⟩
        have HB2 : Hid (Below w.heap.size w w2) := HB1.out.trans (hb2.mono HB1.out.size)
        clear g2 hb2
        go_wp2_with fail
        go_ret2
        exact ⟨rfl, HB2.out⟩
    · have g1 := parse_no l h20 (fun u hu => hok ⟨u, hu⟩) w hR hS
      have e1 : isNum l = false := by
        cases e : isNum l with
        | false => rfl
        | true =>
          obtain ⟨n, hn, he⟩ := isNum_iff.1 e
          have h2 := parse_num n hn
          rw [he] at h2
          exact absurd ⟨n, h2⟩ hok
      have e2 : readN l = 0 := by unfold readN; rw [e1]; rfl
      rw [e1, e2]
      clear hok e1 e2 hP hR hS
      go_enter Tryz.func15, Tryz.ntmps15
      go_wp2_with fail
      refine g1.mono ?_
      rintro e w1 ⟨n, tp, p, rfl, hb1⟩
      have HB1 : Hid _ := hb1
      clear g1 hb1
      go_wp2_with fail
      go_ret2
      exact ⟨rfl, HB1.out⟩
  · obtain ⟨e1, e2⟩ := isNum_other (l := l) (fun h => h20 h.2)
    rw [e1, e2]
    clear e1 e2 hP hR hS
    go_enter Tryz.func15, Tryz.ntmps15
    go_wp2_with fail
    go_ret2
    exact ⟨rfl, Below.refl _ _⟩
end Go.Proofs.YtkfplichekebdaaGreatDoor

namespace Go.Proofs.YtkfplichekebdaaGreatDoor
open Go Go.RowKit
open M
set_option linter.unusedVariables false

theorem signMax_bound (s : Tx) (n : Nat) : ∀ j, (∀ k, k < j → (signN k).isPrefixOf s = true → (signN k).length ≤ n) → signMax s j ≤ n
  | 0, _ => by simp [signMax]
  | j + 1, h => by
    have ih := signMax_bound s n j (fun k hk hp => h k (by omega) hp)
    simp only [signMax]
    split
    · rename_i hp
      have := h j (by omega) hp
      omega
    · exact ih
theorem signMax_ge (s : Tx) : ∀ j k, k < j → (signN k).isPrefixOf s = true → (signN k).length ≤ signMax s j
  | 0, k, hk, _ => by omega
  | j + 1, k, hk, hp => by
    simp only [signMax]
    by_cases e : k = j
    · subst e
      rw [if_pos hp]
      omega
    · have ih := signMax_ge s j k (by omega) hp
      split <;> omega
theorem isSign_ex {l : Tx} (h : isSign l = true) : ∃ k, k < 21 ∧ signN k = l := by
  unfold isSign at h
  obtain ⟨i, hi, he⟩ := List.any_eq_true.1 h
  rw [List.mem_range] at hi
  exact ⟨i + 3, by omega, of_decide_eq_true he⟩
theorem isSign_of {l : Tx} {k : Nat} (hk : k < 21) (hl : 1 ≤ l.length) (h : signN k = l) : isSign l = true := by
  unfold isSign
  rw [List.any_eq_true]
  have h3 : 3 ≤ k ∧ k ≤ 19 := by
    subst h
    match k, hk, hl with
    | 0, _, hl => simp [signN] at hl
    | 1, _, hl => simp [signN] at hl
    | 2, _, hl => simp [signN] at hl
    | 20, _, hl => simp [signN] at hl
    | 3, _, _ | 4, _, _ | 5, _, _ | 6, _, _ | 7, _, _ | 8, _, _ | 9, _, _ | 10, _, _ | 11, _, _ | 12, _, _ | 13, _, _ | 14, _, _ | 15, _, _ | 16, _, _ | 17, _, _ | 18, _, _ | 19, _, _ => omega
    | n + 21, hk, _ => omega
  exact ⟨k - 3, List.mem_range.2 (by omega), decide_eq_true (by rw [show k - 3 + 3 = k from by omega]; exact h)⟩
theorem prefix_take {l s : Tx} (h : l.isPrefixOf s = true) : s.take l.length = l ∧ l.length ≤ s.length := by
  obtain ⟨t, rfl⟩ := List.isPrefixOf_iff_prefix.1 h
  simp
theorem take_prefix (s : Tx) (n : Nat) : (s.take n).isPrefixOf s = true := List.isPrefixOf_iff_prefix.2 (List.take_prefix n s)
/-- the longest sign at the front -/
theorem signMax_eq (s : Tx) : signMax s 21 = if 2 ≤ s.length ∧ isSign (s.take 2) = true then 2 else if 1 ≤ s.length ∧ isSign (s.take 1) = true then 1 else 0 := by
  have hle := signMax_le s 21
  split
  · rename_i h
    obtain ⟨k, hk, he⟩ := isSign_ex h.2
    have hp : (signN k).isPrefixOf s = true := by rw [he]; exact take_prefix s 2
    have := signMax_ge s 21 k hk hp
    rw [he, List.length_take] at this
    omega
  · rename_i h2
    have hno2 : ∀ k, k < 21 → (signN k).isPrefixOf s = true → (signN k).length ≤ 1 := by
      intro k hk hp
      have hl := signN_len k
      by_cases e : (signN k).length = 2
      · exfalso
        obtain ⟨t1, t2⟩ := prefix_take hp
        rw [e] at t1 t2
        exact h2 ⟨t2, by rw [t1]; exact isSign_of hk (by omega) rfl⟩
      · omega
    have hle1 := signMax_bound s 1 21 hno2
    split
    · rename_i h
      obtain ⟨k, hk, he⟩ := isSign_ex h.2
      have hp : (signN k).isPrefixOf s = true := by rw [he]; exact take_prefix s 1
      have := signMax_ge s 21 k hk hp
      rw [he, List.length_take] at this
      omega
    · rename_i h1
      have := signMax_bound s 0 21 (fun k hk hp => by
        have hl := hno2 k hk hp
        by_cases e : (signN k).length = 1
        · exfalso
          obtain ⟨t1, t2⟩ := prefix_take hp
          rw [e] at t1 t2
          exact h1 ⟨t2, by rw [t1]; exact isSign_of hk (by omega) rfl⟩
        · omega)
      omega
theorem sign_head {k : Nat} {a : UInt8} {l : Tx} (h : signN k = a :: l) : isDig a = false ∧ isLet a = false := by
  unfold signN at h
  split at h <;> first | (cases h; exact ⟨by decide, by decide⟩) | cases h
theorem isSign_head {a : UInt8} {l : Tx} (h : isSign (a :: l) = true) : isDig a = false ∧ isLet a = false := by
  obtain ⟨k, _, he⟩ := isSign_ex h
  exact sign_head he
theorem runs_zero {p : UInt8 → Bool} {c : UInt8} {r : Tx} (h : p c = false) : ((c :: r).takeWhile p).length = 0 := by simp [h]
theorem runs_pos {p : UInt8 → Bool} {c : UInt8} {r : Tx} (h : p c = true) : 0 < ((c :: r).takeWhile p).length := by simp [h]
def brack (s : Tx) : Nat := if [40].isPrefixOf s || [41].isPrefixOf s then 1 else 0
theorem brack_cons (c : UInt8) (r : Tx) : brack (c :: r) = if c = 40 ∨ c = 41 then 1 else 0 := by
  unfold brack
  by_cases h1 : c = 40
  · subst h1; simp [List.isPrefixOf]
  · by_cases h2 : c = 41
    · subst h2; simp [List.isPrefixOf]
    · simp [List.isPrefixOf, h1, h2]
      refine ⟨fun h => h1 h.symm, fun h => h2 h.symm⟩
theorem longL_sorts (s : Tx) : longL s = max (max (max (s.takeWhile isDig).length (s.takeWhile isLet).length) (signMax s 21)) (brack s) := by
  match s with
  | [] => decide
  | c :: r =>
    rw [signMax_eq, brack_cons]
    unfold longL
    have h2 : ∀ n, 1 ≤ n → (c :: r).take n = c :: r.take (n - 1) := by
      intro n hn
      obtain ⟨m, rfl⟩ : ∃ m, n = m + 1 := ⟨n - 1, by omega⟩
      rfl
    by_cases hd : isDig c = true
    · have hpos := runs_pos (r := r) hd
      have hb := isDig_nat hd
      have hl : isLet c = false := by
        cases h : isLet c with
        | false => rfl
        | true => have := isLet_nat h; omega
      have s2 : ¬ (2 ≤ (c :: r).length ∧ isSign ((c :: r).take 2) = true) := by
        rintro ⟨_, h⟩
        rw [h2 2 (by omega)] at h
        rw [(isSign_head h).1] at hd
        cases hd
      have s1 : ¬ (1 ≤ (c :: r).length ∧ isSign ((c :: r).take 1) = true) := by
        rintro ⟨_, h⟩
        rw [h2 1 (by omega)] at h
        rw [(isSign_head h).1] at hd
        cases hd
      have nb : ¬ (c = 40 ∨ c = 41) := by
        rintro (rfl | rfl) <;> simp at hb
      rw [if_pos hpos, if_neg s2, if_neg s1, if_neg nb, runs_zero hl]
      omega
    · have hd' : isDig c = false := by simpa using hd
      rw [if_neg (by rw [runs_zero hd']; omega), runs_zero hd']
      by_cases hl : isLet c = true
      · have hpos := runs_pos (r := r) hl
        have hb := isLet_nat hl
        have s2 : ¬ (2 ≤ (c :: r).length ∧ isSign ((c :: r).take 2) = true) := by
          rintro ⟨_, h⟩
          rw [h2 2 (by omega)] at h
          rw [(isSign_head h).2] at hl
          cases hl
        have s1 : ¬ (1 ≤ (c :: r).length ∧ isSign ((c :: r).take 1) = true) := by
          rintro ⟨_, h⟩
          rw [h2 1 (by omega)] at h
          rw [(isSign_head h).2] at hl
          cases hl
        have nb : ¬ (c = 40 ∨ c = 41) := by
          rintro (rfl | rfl) <;> simp at hb
        rw [if_pos hpos, if_neg s2, if_neg s1, if_neg nb]
        omega
      · have hl' : isLet c = false := by simpa using hl
        rw [if_neg (by rw [runs_zero hl']; omega), runs_zero hl']
        by_cases s2 : 2 ≤ (c :: r).length ∧ isSign ((c :: r).take 2) = true
        · rw [if_pos s2, if_pos s2]
          split <;> omega
        · rw [if_neg s2, if_neg s2]
          have e1 : (c :: r).take 1 = [c] := rfl
          have n1 : 1 ≤ (c :: r).length := by simp
          rw [e1]
          by_cases s1 : isSign [c] = true
          · rw [if_pos ⟨n1, Or.inr (Or.inr s1)⟩, if_pos ⟨n1, s1⟩]
            split <;> omega
          · rw [if_neg (c := 1 ≤ (c :: r).length ∧ isSign [c] = true) (fun h => s1 h.2)]
            by_cases nb : c = 40 ∨ c = 41
            · rw [if_pos (c := c = 40 ∨ c = 41) nb, if_pos ⟨n1, by rcases nb with rfl | rfl <;> simp⟩]
              omega
            · rw [if_neg (c := c = 40 ∨ c = 41) nb, if_neg (by
                rintro ⟨_, h | h | h⟩
                · exact nb (Or.inl (by simpa using h))
                · exact nb (Or.inr (by simpa using h))
                · exact s1 h)]
              omega
end Go.Proofs.YtkfplichekebdaaGreatDoor

namespace Go.Proofs.YtkfplichekebdaaGreatDoor
open Go Go.RowKit
open M
set_option linter.unusedVariables false

theorem clone_any (s : Tx) (hl : s.length ≤ 1048576) (w : World) : Calls Tryz.prog 51 #[tx s] w fun e w' => e = .returned (tx s) ∧ Below w.heap.size w w' := by
  have g : Calls Tryz.prog 83 #[tx s] w fun e w' => e = .returned (tx s) ∧ Below w.heap.size w w' := Any.stringslite_Clone Tryz.laysM316 ⟨s.toArray⟩ w (by rw [tx_size]; omega)
  go_enter Tryz.func51, Tryz.ntmps51
  go_wp2_with fail
  refine g.mono ?_
  rintro e w' ⟨rfl, hb⟩
  have HB : Hid _ := hb
  clear g hb
  go_wp2_with fail
  go_ret
  exact ⟨rfl, HB.out⟩
theorem run_max4 (a b c d : Nat) (ts : Array TypeId) (t : TypeId) (w : World) : (Builtin.max_ ts t #[.int .i64 (a : Int), .int .i64 (b : Int), .int .i64 (c : Int), .int .i64 (d : Int)]).run Tryz.prog w = .ok (.int .i64 ((max (max (max a b) c) d : Nat) : Int)) w := by
  simp [Builtin.max_, Builtin.max2]
  repeat' split
  all_goals omega
set_option maxHeartbeats 6400000 in
set_option maxRecDepth 1000000 in
theorem tokenSize_any (s : Tx) (hl : s.length ≤ 1048576) (w : World) (hS : Signs w) : Calls Tryz.prog 50 #[tx s] w fun e w' => e = .returned (.int .i64 (longL s : Int)) ∧ Below w.heap.size w w' := by
  have g1 := digitsSize_any s hl w
  have G2 : Hid (∀ w1 : World, Calls Tryz.prog 80 #[tx s] w1 fun e w' => e = .returned (.int .i64 ((s.takeWhile isLet).length : Int)) ∧ Below w1.heap.size w1 w') := fun w1 => lettersSize_any s hl w1
  have G3 : Hid (∀ w1 : World, Below w.heap.size w w1 → Calls Tryz.prog 81 #[tx s] w1 fun e w' => e = .returned (.int .i64 (signMax s 21 : Int)) ∧ w' = w1) := fun w1 hb => signSize_any s w1 (hS.below hb)
  have G4 : Hid (∀ w1 : World, Calls Tryz.prog 82 #[tx s] w1 fun e w' => e = .returned (.int .i64 (brack s : Int)) ∧ w' = w1) := fun w1 => by
    have h := bracketSize_any s w1
    rw [show (if [40].isPrefixOf s || [41].isPrefixOf s then (1 : Int) else 0) = (brack s : Int) from by unfold brack; split <;> rfl] at h
    exact h
  have HM : Hid (longL s = max (max (max (s.takeWhile isDig).length (s.takeWhile isLet).length) (signMax s 21)) (brack s)) := longL_sorts s
  generalize longL s = M at *
  clear hS
  generalize (s.takeWhile isDig).length = a at *
  generalize (s.takeWhile isLet).length = b at *
  generalize signMax s 21 = c at *
  generalize brack s = d at *
  go_enter Tryz.func50, Tryz.ntmps50
  go_wp2_with fail
  refine g1.mono ?_
  rintro e w1 ⟨rfl, hb1⟩
  have g2 := G2.out w1
  have HB1 : Hid _ := hb1
  clear g1 hb1 G2
  go_wp2_with fail
  refine g2.mono ?_
  rintro e w2 ⟨rfl, hb2⟩
  have HB2 : Hid (Below w.heap.size w w2) := HB1.out.trans (hb2.mono HB1.out.size)
  have g3 := G3.out w2 HB2.out
  clear g2 hb2 G3
  go_wp2_with fail
  refine g3.mono ?_
  rintro e w3 ⟨rfl, rfl⟩
  have g4 := G4.out w3
  clear g3 G4
  go_wp2_with fail
  refine g4.mono ?_
  rintro e w4 ⟨rfl, rfl⟩
  clear g4
  have hmx := fun W : World => run_max4 a b c d #[3, 3, 3, 3] 3 W
  rw [← HM.out] at hmx
  go_wp2_with fail
  go_ret
  exact ⟨rfl, HB2.out⟩
theorem iTokensOf_long (s : Tx) (h : 800 < s.length) (hl : s.length ≤ 9223372036854775807) (w : World) : Calls Tryz.prog 22 #[tx s] w fun e w' => e = .returned (.tuple #[.slice none 0 0, .int .i64 0, .bool false]) ∧ w' = w := by
  go_enter Tryz.func22, Tryz.ntmps22
  go_wp2_with fail
  go_step3
  go_wp2_with fail
  (try rw [Exit.noGoto_ret])
  go_ret3
  exact ⟨rfl, rfl⟩
set_option maxRecDepth 100000 in
set_option maxHeartbeats 4000000 in
theorem iTokensOf_in (s : Tx) (h : s.length ≤ 800) (w : World) (hS : Signs w) : Calls Tryz.prog 22 #[tx s] w fun e w' => ∃ v, e = .returned (.tuple #[v, .int .i64 (tokP s : Int), .bool (tokB s)]) ∧ OwnToks w' w.heap.size v (tokL s) ∧ Below w.heap.size w w' := by
  have HOK : Hid (∀ l, tokens s = .ok l → tokL s = l ∧ tokP s = 0 ∧ tokB s = true) := fun l e => by
    unfold tokL tokP tokB
    rw [if_pos h, if_pos h, if_pos h, e]
    exact ⟨rfl, rfl, rfl⟩
  have HER : Hid (∀ p, tokens s = .error p → tokL s = [] ∧ tokP s = p ∧ tokB s = false) := fun p e => by
    unfold tokL tokP tokB
    rw [if_pos h, if_pos h, if_pos h, e]
    exact ⟨rfl, rfl, rfl⟩
  have GT : Hid (∀ (l : Tx) (w1 : World), l.length ≤ 800 → Below w.heap.size w w1 → Calls Tryz.prog 50 #[tx l] w1 fun e w' => e = .returned (.int .i64 (longL l : Int)) ∧ Below w1.heap.size w1 w') := fun l w1 hl hb => tokenSize_any l (by omega) w1 (hS.below hb)
  clear hS
  generalize tokL s = TL at *
  generalize tokP s = TP at *
  generalize tokB s = TB at *
  obtain ⟨i0, hi, hz0, hz1, hz2⟩ := info_parts infoTok
  go_enter Tryz.func22, Tryz.ntmps22
  go_wp2_with fail
  go_step3
  go_wp2_with fail
  go_step3
  go_wp2_with fail
  go_loopw [5, 6] (fun v a wr => ∃ (p : Nat) (l : List M.Tok), p ≤ s.length ∧ a = .int .i64 p ∧ l.length ≤ p ∧ Hid (OwnToks wr w.heap.size v l) ∧ Hid (tokens s = appT l (toks p (s.drop p))) ∧ Hid (Below w.heap.size w wr)) (fun _ a _ => s.length - (intOf a).toNat)
  case atStart => exact ⟨0, [], by omega, rfl, by simp, World.ownsRow_nil _ _ _ _, (by rw [appT_nil]; rfl : tokens s = appT [] (toks 0 (s.drop 0))), Below.refl _ _⟩
  case round =>
    obtain ⟨p, l, hp, rfl, hlp, HO, HT, HB⟩ := hrel
    by_cases hlt' : p < s.length
    · obtain ⟨c, hcj⟩ : ∃ c, s[p]? = some c := ⟨s[p], List.getElem?_eq_getElem hlt'⟩
      have he := tx_at hcj (by rw [tx_size]; exact hlt')
      have HD : Hid (s.drop p = c :: s.drop (p + 1)) := by
        show s.drop p = c :: s.drop (p + 1)
        rw [List.drop_eq_getElem_cons hlt', (List.getElem?_eq_some_iff.1 hcj).2]
      clear hcj
      have hx : (ByteArray.mk s.toArray).extract p s.length = ⟨(s.drop p).toArray⟩ := by
        rw [tx_slice, List.take_of_length_le (by simp)]
      have g := GT.out (s.drop p) wr (by simp; omega) HB.out
      have hle := longL_le (s.drop p)
      rw [List.length_drop] at hle
      by_cases hc : c = 32
      · have HT2 : Hid (tokens s = appT l (toks (p + 1) (s.drop (p + 1)))) := by
          have h1 := HT.out
          rw [HD.out, hc, toks_blank] at h1
          exact h1
        subst hc
        clear HD HT
        generalize longL (s.drop p) = L at *
        go_wp2_with fail
        refine g.mono ?_
        rintro e w2 ⟨rfl, hb⟩
        have HB2 : Hid (Below w.heap.size w w2) := HB.out.trans (hb.mono HB.out.size)
        have HO2 : Hid (OwnToks w2 w.heap.size u5 l) := owns_below HO.out hb
        clear g hb
        go_wp2_with fail
        go_roundw
        case rel => exact ⟨p + 1, l, by omega, by go_num, by omega, HO2, HT2, HB2⟩
        case measure => simp [intOf]; omega
      · have n32 : ¬ (c.toNat : Int) = 32 := fun h => hc (byte_of (n := 32) (by omega))
        have d32 : ((c.toNat : Int) == 32) = false := beq_eq_false_iff_ne.2 n32
        by_cases h0 : longL (s.drop p) = 0
        · have HE := HER.out p (by
            have h1 := HT.out
            have h2 := h0
            rw [HD.out] at h1 h2
            rw [toks_bad hc h2] at h1
            exact h1)
          obtain ⟨rfl, rfl, rfl⟩ := HE
          rw [h0] at g
          clear hc n32 HD HT h0 hle
          go_wp2_with fail
          refine g.mono ?_
          rintro e w2 ⟨rfl, hb⟩
          have HB2 : Hid (Below w.heap.size w w2) := HB.out.trans (hb.mono HB.out.size)
          clear g hb
          go_wp2_with fail
          (try rw [Exit.noGoto_ret])
          go_ret3
          exact ⟨_, rfl, World.ownsRow_nil _ _ _ _, HB2.out⟩
        · have HT2 : Hid (tokens s = appT (l ++ [(p, (s.drop p).take (longL (s.drop p)))]) (toks (p + longL (s.drop p)) (s.drop (p + longL (s.drop p))))) := by
            have h1 := HT.out
            have h2 := h0
            rw [HD.out] at h2
            rw [HD.out, toks_one hc h2, appT_app, ← HD.out, List.drop_drop] at h1
            exact h1
          generalize hL : longL (s.drop p) = L at *
          have HLL : Hid _ := hL
          clear hL
          have hL0 : (0 : Int) < L := by omega
          have nL : ((L : Int) == 0) = false := beq_eq_false_iff_ne.2 (by omega)
          have hsl := fun W : World => slice_tx s p L ((p : Int) + L) rfl (by omega) W
          have hlT : ((s.drop p).take L).length = L := by rw [List.length_take, List.length_drop]; omega
          have GC : Hid (∀ w1 : World, Calls Tryz.prog 51 #[tx ((s.drop p).take L)] w1 fun e w' => e = .returned (tx ((s.drop p).take L)) ∧ Below w1.heap.size w1 w') := fun w1 => clone_any _ (by omega) w1
          clear hc n32 HD HT h0 hlT
          generalize (s.drop p).take L = tk at *
          go_wp2_with fail
          refine g.mono ?_
          rintro e w2 ⟨rfl, hb⟩
          have HB2 : Hid (Below w.heap.size w w2) := HB.out.trans (hb.mono HB.out.size)
          have HO2 : Hid (OwnToks w2 w.heap.size u5 l) := owns_below HO.out hb
          clear g hb
          have gc := GC.out w2
          go_wp2_with fail
          refine gc.mono ?_
          rintro e w3 ⟨rfl, hb3⟩
          have HB3 : Hid (Below w.heap.size w w3) := HB2.out.trans (hb3.mono HB2.out.size)
          have HO3 : Hid (OwnToks w3 w.heap.size u5 l) := owns_below HO2.out hb3
          clear gc hb3 GC
          have HBY : Hid (Below w.heap.size w (w3.alloc (.cells #[.int .i64 (p : Int), tx tk] 47))) := HB3.out.alloc HB3.out.size _
          have HSA : Hid (w.heap.size ≤ (w3.alloc (.cells #[.int .i64 (p : Int), tx tk] 47)).heap.size) := HBY.out.size
          have own2 : (w3.alloc (.cells #[.int .i64 (p : Int), tx tk] 47)).ownsRow w.heap.size 47 2 u5 l.length (flatK l) := owns_below HO3.out ((Below.refl _ _).alloc (Nat.le_refl _) _)
          have cellsA := tok_cells w3 p tk
          go_wp2_with (at_builtin; refine wpList_append_own _ rfl _ _ 43 rfl w.heap.size 47 i0 (.agg #[.int .i64 0, .string ⟨#[]⟩]) 2 24 Tryz.underlying43 hi hz0 hz1 hz2 rfl (by decide) _ _ _ rfl own2 ⟨w3.heap.size, 0, none⟩ 1 1 [.int .i64 (p : Int), tx tk] rfl rfl cellsA (tok_one p tk) (by unfold maxLen; omega) (by omega) HSA.out ?_)
          intro vb wb ownb growb _
          have HOB : Hid (OwnToks wb w.heap.size vb (l ++ [(p, tk)])) := by
            show wb.ownsRow w.heap.size 47 2 vb (l ++ [(p, tk)]).length (flatK (l ++ [(p, tk)]))
            rw [List.length_append, List.length_singleton, flatK_append]
            exact ownb
          have HBB : Hid (Below w.heap.size w wb) := Below.grown HBY.out growb HSA.out (fun k hk => (own_block own2 hk).1)
          clear own2 ownb growb cellsA
          go_wp2_with fail
          go_roundw
          case rel => exact ⟨p + L, _, by omega, by go_num, by simp; omega, HOB, HT2, HBB⟩
          case measure => simp [intOf]; omega
    · obtain rfl : p = s.length := by omega
      have HE := HOK.out l (by
        have h1 := HT.out
        rw [List.drop_length] at h1
        rw [toks_end] at h1
        simpa [appT] using h1)
      obtain ⟨rfl, rfl, rfl⟩ := HE
      clear HT
      go_wp2_with fail
      (try rw [Exit.noGoto_ret])
      go_ret3
      exact ⟨_, rfl, HO.out, HB.out⟩
end Go.Proofs.YtkfplichekebdaaGreatDoor

namespace Go.Proofs.YtkfplichekebdaaGreatDoor
open Go Go.RowKit
open M
set_option linter.unusedVariables false

theorem vars_foldl : ∀ (l : List Nd) (a : List Int), (l.foldl (fun l x => if x.1 = 2 then putL l x.2 else l) a).length ≤ a.length + l.length ∧ (l.foldl (fun l x => if x.1 = 2 then putL l x.2 else l) a = [] ↔ a = [] ∧ ∀ x ∈ l, x.1 ≠ 2)
  | [], a => by simp
  | x :: l, a => by
    rw [List.foldl_cons]
    have hp := putL_len a x.2
    by_cases h : x.1 = 2
    · rw [if_pos h]
      obtain ⟨h1, h2⟩ := vars_foldl l (putL a x.2)
      refine ⟨by rw [List.length_cons]; omega, ?_, ?_⟩
      · intro h3
        rw [(h2.1 h3).1] at hp
        simp at hp
      · intro h3
        exact absurd h (h3.2 x (by simp))
    · rw [if_neg h]
      obtain ⟨h1, h2⟩ := vars_foldl l a
      refine ⟨by rw [List.length_cons]; omega, ?_, ?_⟩
      · intro h3
        refine ⟨(h2.1 h3).1, ?_⟩
        intro y hy
        rcases List.mem_cons.1 hy with rfl | hy
        · exact h
        · exact (h2.1 h3).2 y hy
      · intro h3
        exact h2.2 ⟨h3.1, fun y hy => h3.2 y (List.mem_cons_of_mem _ hy)⟩
theorem varsL_both (l : List Nd) : (varsL l).length ≤ l.length ∧ (varsL l = [] ↔ ∀ x ∈ l, x.1 ≠ 2) := by
  obtain ⟨h1, h2⟩ := vars_foldl l []
  refine ⟨by unfold varsL; simpa using h1, ?_⟩
  unfold varsL
  rw [h2]
  simp
theorem litN_ok (op v : Int) (h0 : 0 ≤ v) (h1 : v ≤ 18446744073709551615) : NdOk (litN op v) := by
  unfold litN NdOk
  simp only
  split <;> omega
/-- a folded tree is no longer than the tree, and of nodes that can be -/
theorem fold_ok {k : Nat} (hk1 : 1 ≤ k) (hk : k ≤ 64) {vars : Int} {t : List Nd} (hok : ∀ x ∈ t, NdOk x) {N : Nat} {p : List (Ent Int)} (hp : pileE k vars (val0 []) (val1 k) (val2 k) t N = some p) :
    ∀ (n j : Nat), j ≤ n → j < N → ∀ (f : Ent FV), TreeAt k vars fold0 (fold1 k) (fold2 k) t j f →
      f.at0 ≤ j ∧ f.val.2.2.length ≤ j + 1 - f.at0 ∧ f.val.2.2 ≠ [] ∧ (∀ x ∈ f.val.2.2, NdOk x) ∧ (f.val.1 = false → 0 ≤ f.val.2.1 ∧ f.val.2.1 ≤ 18446744073709551615 ∧ ∀ x, t[j]? = some x → f.val.2.2 = [litN x.1 f.val.2.1])
  | n, j, hj, hjN, f, hf => by
    obtain ⟨e, he⟩ := tree_exists hp hjN
    obtain ⟨t1, t2, t3, t4⟩ := tree_two n j hj e f he hf
    have hpw := pw_le k hk
    have hval : f.val.1 = false → 0 ≤ f.val.2.1 ∧ f.val.2.1 ≤ 18446744073709551615 := by
      intro h
      have h4 := t4.1 h
      have hv := tree_ok hk1 hk (st := []) (fun x hx => (hok x hx).2.2.1) (by simp) j j (Nat.le_refl _) e he (fun i m h0 h1 h2 => absurd h2 (h4 i m (by omega) h1))
      have hw := hv.word hk1
      rw [t3 h]
      omega
    clear he t1 t2 t3 t4
    obtain ⟨⟨op, m⟩, hx, n1, n2, hcase⟩ := tree_cases hf
    have hmem := hok (op, m) (List.mem_of_getElem? hx)
    simp only at hcase n1 n2
    rcases hcase with ⟨m0, rfl⟩ | ⟨m1, hj1, d, hd, hdk, hdj, rfl⟩ | ⟨m2, hj1, d, c, hd, hdk, hd1, hdj, hcc, hck, hcd, rfl⟩
    · simp only [fold0] at hval ⊢
      by_cases h2 : op = 2
      · subst h2
        simp only [if_true]
        refine ⟨Nat.le_refl _, by simp, by simp, ?_, by simp⟩
        intro x hx'
        simp at hx'
        subst hx'
        exact hmem
      · simp only [if_neg h2] at hval ⊢
        refine ⟨Nat.le_refl _, by simp, by simp, ?_, ?_⟩
        · intro x hx'
          simp at hx'
          subst hx'
          exact litN_ok _ _ (hval trivial).1 (hval trivial).2
        · intro _
          refine ⟨(hval trivial).1, (hval trivial).2, ?_⟩
          intro x hx'
          rw [hx] at hx'
          obtain rfl := Option.some.inj hx'
          rfl
    · match n, hj with
      | 0, hj => omega
      | n' + 1, hj =>
        obtain ⟨i1, i2, i3, i4, i5⟩ := fold_ok hk1 hk hok hp n' (j - 1) (by omega) (by omega) d hd
        simp only [fold1] at hval ⊢
        by_cases hv : d.val.1 = true
        · simp only [if_pos hv]
          refine ⟨by omega, by rw [List.length_append]; simp; omega, by simp, ?_, by simp⟩
          intro x hx'
          rcases List.mem_append.1 hx' with h | h
          · exact i4 x h
          · simp at h
            subst h
            exact hmem
        · simp only [if_neg hv] at hval ⊢
          refine ⟨by omega, by simp; omega, by simp, ?_, ?_⟩
          · intro x hx'
            simp only [List.mem_singleton] at hx'
            subst hx'
            exact litN_ok _ _ (hval trivial).1 (hval trivial).2
          · intro _
            refine ⟨(hval trivial).1, (hval trivial).2, ?_⟩
            intro x hx'
            rw [hx] at hx'
            obtain rfl := Option.some.inj hx'
            rfl
    · match n, hj with
      | 0, hj => omega
      | n' + 1, hj =>
        obtain ⟨i1, i2, i3, i4, i5⟩ := fold_ok hk1 hk hok hp n' (j - 1) (by omega) (by omega) d hd
        obtain ⟨k1, k2, k3, k4, k5⟩ := fold_ok hk1 hk hok hp n' (d.at0 - 1) (by omega) (by omega) c hcc
        simp only [fold2] at hval ⊢
        by_cases hv : (c.val.1 || d.val.1) = true
        · simp only [if_pos hv]
          refine ⟨by omega, by rw [List.length_append, List.length_append]; simp; omega, by simp, ?_, by simp⟩
          intro x hx'
          rcases List.mem_append.1 hx' with h | h
          · rcases List.mem_append.1 h with h | h
            · exact k4 x h
            · exact i4 x h
          · simp at h
            subst h
            exact hmem
        · simp only [if_neg hv] at hval ⊢
          refine ⟨by omega, by simp; omega, by simp, ?_, ?_⟩
          · intro x hx'
            simp only [List.mem_singleton] at hx'
            subst hx'
            exact litN_ok _ _ (hval trivial).1 (hval trivial).2
          · intro _
            refine ⟨(hval trivial).1, (hval trivial).2, ?_⟩
            intro x hx'
            rw [hx] at hx'
            obtain rfl := Option.some.inj hx'
            rfl
theorem sub_get (t : List Nd) (a j i : Nat) (x : Nd) (h : ((t.drop a).take (j + 1 - a))[i]? = some x) : t[a + i]? = some x ∧ i < j + 1 - a := by
  rw [List.getElem?_take] at h
  split at h
  · rw [List.getElem?_drop] at h
    exact ⟨h, by assumption⟩
  · cases h
theorem sub_novar (t : List Nd) (a j : Nat) : NoVar t a j ↔ ∀ x ∈ (t.drop a).take (j + 1 - a), x.1 ≠ 2 := by
  constructor
  · intro h x hx h2
    obtain ⟨i, hi⟩ := List.mem_iff_getElem?.1 hx
    obtain ⟨h3, h4⟩ := sub_get t a j i x hi
    obtain ⟨x1, x2⟩ := x
    simp only at h2
    subst h2
    exact h (a + i) x2 (by omega) (by omega) h3
  · intro h i m h0 h1 h2
    refine h (2, m) ?_ rfl
    apply List.mem_iff_getElem?.2
    refine ⟨i - a, ?_⟩
    rw [List.getElem?_take, if_pos (by omega), List.getElem?_drop, show a + (i - a) = i by omega]
    exact h2
end Go.Proofs.YtkfplichekebdaaGreatDoor

namespace Go.Proofs.YtkfplichekebdaaGreatDoor
open Go Go.RowKit
open M
set_option linter.unusedVariables false

section
variable {k : Nat} {vars : Int} {t : List Nd} {b off cap : Nat} {p : List (Ent Int)}
end
end Go.Proofs.YtkfplichekebdaaGreatDoor

namespace Go.Proofs.YtkfplichekebdaaGreatDoor
open Go Go.RowKit
open M
set_option linter.unusedVariables false

/-- a slice whose length is within its capacity -/
def CapOk (v : Value) : Prop := ∀ (a : Option Addr) (n c : Nat), v = .slice a n c → n ≤ c ∧ c ≤ 9223372036854775807
theorem cap_of_own {w : World} {B : Nat} {v : Value} {t : List Nd} (h : OwnNodes w B v t) : CapOk v := by
  intro a n c e
  rcases h.2 with ⟨h1, h2⟩ | ⟨g, cap, cur, h1, _, _, h2, h3, _⟩
  · rw [h1] at e
    simp at e
    omega
  · rw [h1] at e
    simp at e
    unfold maxLen at h3
    omega
theorem fold_len {k : Nat} {vars : Int} {t : List Nd} : ∀ (n j : Nat), j ≤ n → ∀ (f : Ent FV), TreeAt k vars fold0 (fold1 k) (fold2 k) t j f → f.at0 ≤ j ∧ f.val.2.2.length ≤ j + 1 - f.at0
  | n, j, hj, f, hf => by
    obtain ⟨⟨op, m⟩, hx, n1, n2, hcase⟩ := tree_cases hf
    simp only at hcase n1 n2
    rcases hcase with ⟨m0, rfl⟩ | ⟨m1, hj1, d, hd, hdk, hdj, rfl⟩ | ⟨m2, hj1, d, c, hd, hdk, hd1, hdj, hcc, hck, hcd, rfl⟩
    · simp only [fold0]
      refine ⟨Nat.le_refl _, ?_⟩
      split <;> simp
    · match n, hj with
      | 0, hj => omega
      | n' + 1, hj =>
        obtain ⟨i1, i2⟩ := fold_len n' (j - 1) (by omega) d hd
        simp only [fold1]
        refine ⟨by omega, ?_⟩
        split
        · rw [List.length_append]
          simp only [List.length_singleton]
          omega
        · simp only [List.length_singleton]
          omega
    · match n, hj with
      | 0, hj => omega
      | n' + 1, hj =>
        obtain ⟨i1, i2⟩ := fold_len n' (j - 1) (by omega) d hd
        obtain ⟨k1, k2⟩ := fold_len n' (d.at0 - 1) (by omega) c hcc
        simp only [fold2]
        refine ⟨by omega, ?_⟩
        split
        · rw [List.length_append, List.length_append]
          simp only [List.length_singleton]
          omega
        · simp only [List.length_singleton]
          omega
def foldL (wide vars : Int) (t : List Nd) : List Nd :=
  if 0 < kindL wide vars t then
    match pileE wide vars fold0 (fold1 wide.toNat) (fold2 wide.toNat) t t.length with
    | some (f :: _) => f.val.2.2
    | _ => []
  else []
theorem foldL_root {wide vars : Int} {t : List Nd} (h : 0 < kindL wide vars t) : ∃ k : Nat, wide = k ∧ 1 ≤ k ∧ k ≤ 64 ∧ vars ≤ 4 ∧ 1 ≤ t.length ∧ t.length ≤ 48 ∧
    (∃ f, TreeAt k vars fold0 (fold1 k) (fold2 k) t (t.length - 1) f ∧ foldL wide vars t = f.val.2.2) ∧ ∃ p, pileE k vars (val0 []) (val1 k) (val2 k) t t.length = some p := by
  obtain ⟨g1, g2, g3, g4, g5, f, ht, hk⟩ := tree_root (f0 := fold0) (f1 := fold1 wide.toNat) (f2 := fold2 wide.toNat) h
  obtain ⟨_, _, _, _, _, e, he, _⟩ := tree_root (f0 := val0 []) (f1 := val1 wide.toNat) (f2 := val2 wide.toNat) h
  obtain ⟨k, rfl, hk1, hk64⟩ := wideB_true g1
  refine ⟨k, rfl, hk1, hk64, g3, g4, g5, ⟨f, by simpa using ht, ?_⟩, ?_⟩
  · unfold foldL
    rw [if_pos h]
    obtain ⟨r, hr⟩ := ht
    rw [show t.length - 1 + 1 = t.length from by omega] at hr
    rw [hr]
  · obtain ⟨r, hr⟩ := he
    rw [show t.length - 1 + 1 = t.length from by omega] at hr
    exact ⟨e :: r, by simpa using hr⟩
theorem foldTerm_len0 (wide vars : Int) (t : List Nd) : (foldL wide vars t).length ≤ t.length := by
  by_cases h : 0 < kindL wide vars t
  · obtain ⟨k, rfl, _, _, _, h1, _, ⟨f, hf, e⟩, _⟩ := foldL_root h
    have := fold_len (t.length - 1) (t.length - 1) (Nat.le_refl _) f hf
    rw [e]
    omega
  · unfold foldL
    rw [if_neg h]
    simp
theorem foldTerm_reads0 (wide vars : Int) (t : List Nd) (hwide0 : -9223372036854775808 ≤ wide) (hwide1 : wide ≤ 9223372036854775807) (hvars0 : -9223372036854775808 ≤ vars) (hvars1 : vars ≤ 9223372036854775807) (hok : ∀ x ∈ t, NdOk x) (hl : t.length ≤ 1048576) :
    ∀ (w1 : World) (B : Nat) (v1 : Value), OwnNodes w1 B v1 (foldL wide vars t) → NodesAt w1 v1 (foldL wide vars t) := by
  intro w1 B v1 ho
  have hlen := foldTerm_len0 wide vars t
  refine nodes_of_own ?_ (by omega) ho
  by_cases h : 0 < kindL wide vars t
  · obtain ⟨k, rfl, hk1, hk, _, h1, _, ⟨f, hf, e⟩, p, hp⟩ := foldL_root h
    rw [e]
    exact (fold_ok hk1 hk hok hp (t.length - 1) (t.length - 1) (Nat.le_refl _) (by omega) f hf).2.2.2.1
  · unfold foldL
    rw [if_neg h]
    simp
end Go.Proofs.YtkfplichekebdaaGreatDoor

namespace Go.Proofs.YtkfplichekebdaaGreatDoor
open Go Go.RowKit
open M
set_option linter.unusedVariables false

/-- a slice of slices of nodes -/
def NodesSS (w : World) (v : Value) (bs : List (List Nd)) : Prop :=
  bs.length ≤ 9223372036854775807 ∧ ((bs = [] ∧ ∃ (a : Option Addr) (cap : Nat), v = .slice a 0 cap) ∨
  ∃ b off cap : Nat, v = .slice (some ⟨b, off, none⟩) bs.length cap ∧ b < w.heap.size ∧ ∀ (i : Nat) (t : List Nd), bs[i]? = some t → ∃ u : Value, w.cell? ⟨b, off + i, none⟩ = some u ∧ NodesAt w u t)
theorem NodesSS.below {w w' : World} {v : Value} {bs : List (List Nd)} (h : NodesSS w v bs) (hb : Below w.heap.size w w') : NodesSS w' v bs := by
  obtain ⟨h1, h2⟩ := h
  refine ⟨h1, ?_⟩
  rcases h2 with h2 | ⟨b, off, cap, hv, hlt, hc⟩
  · exact Or.inl h2
  · refine Or.inr ⟨b, off, cap, hv, Nat.lt_of_lt_of_le hlt hb.size, fun i t ht => ?_⟩
    obtain ⟨u, h3, h4⟩ := hc i t ht
    refine ⟨u, ?_, h4.below hb⟩
    rw [hb.cell (p := ⟨b, off + i, none⟩) hlt]
    exact h3
/-- for each variable its nodes, for any other node itself -/
def putsL (bs : List (List Nd)) (t : List Nd) : List Nd := t.flatMap fun x => if x.1 = 2 then bs.getD x.2.toNat [] else [x]
theorem putsL_snoc (bs : List (List Nd)) (t : List Nd) (x : Nd) : putsL bs (t ++ [x]) = putsL bs t ++ (if x.1 = 2 then bs.getD x.2.toNat [] else [x]) := by
  unfold putsL
  rw [List.flatMap_append]
  simp
end Go.Proofs.YtkfplichekebdaaGreatDoor

namespace Go.Proofs.YtkfplichekebdaaGreatDoor
open Go Go.RowKit
open M
set_option linter.unusedVariables false

theorem NodesSS.shape {w : World} {v : Value} {bs : List (List Nd)} (h : NodesSS w v bs) : ∃ (a : Option Addr) (cap : Nat), v = .slice a bs.length cap := by
  rcases h.2 with ⟨rfl, a, cap, h⟩ | ⟨b, off, cap, h, _⟩
  · exact ⟨a, cap, h⟩
  · exact ⟨_, cap, h⟩
def canPut (wide vars : Int) (t : List Nd) (bs : List (List Nd)) : Bool := decide (0 < kindL wide vars t) && (decide ((bs.length : Int) = vars) && bs.all fun u => decide (kindL wide vars u = 1))
def saidPut (wide vars : Int) (t : List Nd) (bs : List (List Nd)) : Bool := canPut wide vars t bs && decide (0 < kindL wide vars (putsL bs t))
def putAllL (wide vars : Int) (t : List Nd) (bs : List (List Nd)) : List Nd := if canPut wide vars t bs = true then madeL wide vars (putsL bs t) else []
end Go.Proofs.YtkfplichekebdaaGreatDoor

namespace Go.Proofs.YtkfplichekebdaaGreatDoor
open Go Go.RowKit
open M
set_option linter.unusedVariables false

/-- what a tree comes to -/
def trVal (k : Nat) (st : List Int) : Tr → Int
  | .leaf x => val0 st x
  | .one x a => val1 k x (trVal k st a)
  | .two x a b => val2 k x (trVal k st a) (trVal k st b)
/-- a variable is in it -/
def trVar : Tr → Bool
  | .leaf x => decide (x.1 = 2)
  | .one _ a => trVar a
  | .two _ a b => trVar a || trVar b
def trFold (k : Nat) : Tr → Tr
  | .leaf x => if x.1 = 2 then .leaf x else .leaf (litN x.1 x.2)
  | .one x a => if trVar a = true then .one x (trFold k a) else .leaf (litN x.1 (val1 k x (trVal k [] a)))
  | .two x a b => if (trVar a || trVar b) = true then .two x (trFold k a) (trFold k b) else .leaf (litN x.1 (val2 k x (trVal k [] a) (trVal k [] b)))
def trPut (bs : List Tr) : Tr → Tr
  | .leaf x => if x.1 = 2 then bs.getD x.2.toNat (.leaf x) else .leaf x
  | .one x a => .one x (trPut bs a)
  | .two x a b => .two x (trPut bs a) (trPut bs b)
/-- the values of a good term are those of its tree -/
theorem valueL_tree {wide : Int} {t : List Nd} {st : List Int} {r : Tr} (hs : saidV wide t st = true) (hr : pileT wide st.length t t.length = some [⟨0, r.kind, r⟩]) : valueL wide t st = trVal wide.toNat st r := by
  unfold valueL
  rw [if_pos hs, pileE_map (f0 := Tr.leaf) (f1 := Tr.one) (f2 := Tr.two) (g0 := val0 st) (g1 := val1 wide.toNat) (g2 := val2 wide.toNat) (trVal wide.toNat st) (fun _ => rfl) (fun _ _ => rfl) (fun _ _ _ => rfl)]
  rw [show pileE wide st.length Tr.leaf Tr.one Tr.two t t.length = some [⟨0, r.kind, r⟩] from hr]
  rfl
def trFV (k : Nat) : Tr → FV
  | .leaf x => fold0 x
  | .one x a => fold1 k x (trFV k a)
  | .two x a b => fold2 k x (trFV k a) (trFV k b)
theorem trFV_eq (k : Nat) : ∀ t : Tr, trFV k t = (trVar t, if trVar t = true then 0 else trVal k [] t, (trFold k t).flat)
  | .leaf x => by
    simp only [trFV, fold0, trVar, trFold, trVal, val0]
    by_cases h : x.1 = 2 <;> simp [h, Tr.flat]
  | .one x a => by
    have ha := trFV_eq k a
    simp only [trFV, ha, fold1, trVar, trFold, trVal]
    by_cases h : trVar a = true <;> simp [h, Tr.flat]
  | .two x a b => by
    have ha := trFV_eq k a
    have hb := trFV_eq k b
    simp only [trFV, ha, hb, fold2, trVar, trFold, trVal]
    by_cases h1 : trVar a = true <;> by_cases h2 : trVar b = true <;> simp [Tr.flat, val2, h1, h2]
theorem foldL_tree {wide vars : Int} {t : List Nd} {r : Tr} (h : 0 < kindL wide vars t) (hr : pileT wide vars t t.length = some [⟨0, r.kind, r⟩]) : foldL wide vars t = (trFold wide.toNat r).flat := by
  unfold foldL
  rw [if_pos h, pileE_map (f0 := Tr.leaf) (f1 := Tr.one) (f2 := Tr.two) (g0 := fold0) (g1 := fold1 wide.toNat) (g2 := fold2 wide.toNat) (trFV wide.toNat) (fun _ => rfl) (fun _ _ => rfl) (fun _ _ _ => rfl)]
  rw [show pileE wide vars Tr.leaf Tr.one Tr.two t t.length = some [⟨0, r.kind, r⟩] from hr]
  show (trFV wide.toNat r).2.2 = _
  rw [trFV_eq]
/-- all numbers of a tree are at least 0 -/
abbrev Pos (t : Tr) : Prop := ∀ x ∈ t.flat, 0 ≤ x.2
/-- its variables are below n -/
abbrev VarsBelow (t : Tr) (n : Nat) : Prop := ∀ x ∈ t.flat, x.1 = 2 → x.2.toNat < n
theorem ok_vars {wide vars : Int} : ∀ {t : Tr}, t.Ok wide vars → ∀ x ∈ t.flat, x.1 = 2 → x.2 < vars
  | .leaf y, h, x, hx, h2 => by
    simp only [Tr.flat, List.mem_singleton] at hx
    subst hx
    have := h.2.1
    rw [h2] at this
    exact of_decide_eq_true (show decide (x.2 < vars) = true from this)
  | .one y a, h, x, hx, h2 => by
    simp only [Tr.flat, List.mem_append, List.mem_singleton] at hx
    rcases hx with hx | rfl
    · exact ok_vars h.2.2.2.2 x hx h2
    · have := h.2.2.1
      rw [h2] at this
      exact absurd this (by decide)
  | .two y a b, h, x, hx, h2 => by
    simp only [Tr.flat, List.mem_append, List.mem_singleton] at hx
    rcases hx with (hx | hx) | rfl
    · exact ok_vars h.2.2.2.2.2.1 x hx h2
    · exact ok_vars h.2.2.2.2.2.2 x hx h2
    · have := h.2.2.1
      rw [h2] at this
      exact absurd this (by decide)
theorem trVar_iff : ∀ {wide vars : Int} {t : Tr}, t.Ok wide vars → (trVar t = true ↔ ∃ x ∈ t.flat, x.1 = 2)
  | wide, vars, .leaf y, h => by simp [trVar, Tr.flat]
  | wide, vars, .one y a, h => by
    have ha := trVar_iff h.2.2.2.2
    have hy : y.1 ≠ 2 := by intro e; have := h.2.2.1; rw [e] at this; exact absurd this (by decide)
    simp only [trVar, ha, Tr.flat, List.mem_append, List.mem_singleton]
    constructor
    · rintro ⟨x, hx, h2⟩
      exact ⟨x, Or.inl hx, h2⟩
    · rintro ⟨x, hx | rfl, h2⟩
      · exact ⟨x, hx, h2⟩
      · exact absurd h2 hy
  | wide, vars, .two y a b, h => by
    have ha := trVar_iff h.2.2.2.2.2.1
    have hb := trVar_iff h.2.2.2.2.2.2
    have hy : y.1 ≠ 2 := by intro e; have := h.2.2.1; rw [e] at this; exact absurd this (by decide)
    simp only [trVar, Bool.or_eq_true, ha, hb, Tr.flat, List.mem_append, List.mem_singleton]
    constructor
    · rintro (⟨x, hx, h2⟩ | ⟨x, hx, h2⟩)
      · exact ⟨x, Or.inl (Or.inl hx), h2⟩
      · exact ⟨x, Or.inl (Or.inr hx), h2⟩
    · rintro ⟨x, (hx | hx) | rfl, h2⟩
      · exact Or.inl ⟨x, hx, h2⟩
      · exact Or.inr ⟨x, hx, h2⟩
      · exact absurd h2 hy
/-- a tree's value is a word or a truth -/
theorem trVal_ok {k : Nat} (hk1 : 1 ≤ k) (hk : k ≤ 64) {vars : Int} {st : List Int} (hst : ∀ s ∈ st, 0 ≤ s ∧ s < pw k) : ∀ {t : Tr}, t.Ok k vars → Pos t → VarsBelow t st.length → ValOk k ⟨0, t.kind, trVal k st t⟩
  | .leaf ⟨op, m⟩, h, hp, hv => by
    obtain ⟨n1, n2, m0⟩ := h
    have hm0 := hp (op, m) (by simp [Tr.flat])
    have hvv := hv (op, m) (by simp [Tr.flat])
    simp only at n1 n2 m0 hm0 hvv
    have hop : op = 1 ∨ op = 2 ∨ op = 20 := by
      unfold manyOf at m0
      unfold ownOf at n1
      split at m0
      · omega
      · split at m0
        · omega
        · split at n1
          · omega
          · split at n1 <;> omega
    rcases hop with rfl | rfl | rfl
    · left
      obtain ⟨k', e1, _, _, h3⟩ := goodB_true (show goodB k m = true from n2)
      obtain rfl : k = k' := by omega
      exact ⟨rfl, hm0, h3⟩
    · left
      have hlt := hvv rfl
      have hmem : st.getD m.toNat 0 ∈ st := by
        rw [List.getD_eq_getElem?_getD, List.getElem?_eq_getElem hlt]
        exact List.getElem_mem hlt
      exact ⟨rfl, (hst _ hmem).1, (hst _ hmem).2⟩
    · right
      have h2 : m < 2 := of_decide_eq_true (show decide (m < 2) = true from n2)
      exact ⟨rfl, by show m = 0 ∨ m = 1; omega⟩
  | .one ⟨op, m⟩ a, h, hp, hv => by
    obtain ⟨n1, n2, m1, hk2, ha⟩ := h
    have ih := trVal_ok hk1 hk hst ha (fun x hx => hp x (by simp [Tr.flat, hx])) (fun x hx => hv x (by simp [Tr.flat, hx]))
    have hop : op = 13 ∨ op = 19 := by
      unfold manyOf at m1
      split at m1
      · assumption
      · split at m1 <;> omega
    rcases hop with rfl | rfl
    · rcases ih with ⟨_, h0, h1⟩ | ⟨hk3, _⟩
      · simp only at h0 h1
        exact Or.inl ⟨rfl, by show 0 ≤ pw k - 1 - trVal k st a; omega, by show pw k - 1 - trVal k st a < pw k; omega⟩
      · simp only at hk3
        rw [hk3] at hk2
        cases hk2
    · rcases ih with ⟨hk3, _⟩ | ⟨_, h0⟩
      · simp only at hk3
        rw [hk3] at hk2
        cases hk2
      · simp only at h0
        exact Or.inr ⟨rfl, by show 1 - trVal k st a = 0 ∨ 1 - trVal k st a = 1; omega⟩
  | .two ⟨op, m⟩ a b, h, hp, hv => by
    obtain ⟨n1, n2, m2, hka, hkb, ha, hb⟩ := h
    have ih1 := trVal_ok hk1 hk hst ha (fun x hx => hp x (by simp [Tr.flat, hx])) (fun x hx => hv x (by simp [Tr.flat, hx]))
    have ih2 := trVal_ok hk1 hk hst hb (fun x hx => hp x (by simp [Tr.flat, hx])) (fun x hx => hv x (by simp [Tr.flat, hx]))
    have hop : (3 ≤ op ∧ op ≤ 12) ∨ (14 ≤ op ∧ op ≤ 16) ∨ (op = 17 ∨ op = 18) := by
      unfold manyOf at m2
      split at m2
      · cases m2
      · split at m2 <;> omega
    have w1 := ih1.word hk1
    have w2 := ih2.word hk1
    simp only at w1 w2
    rcases hop with hop | hop | hop
    · left
      have h := doOp_word k hk op (trVal k st a) (trVal k st b) hop w1.1 w1.2 w2.1 w2.2
      exact ⟨by show ownOf op = 1; unfold ownOf; rw [if_pos (by omega)], h.1, h.2⟩
    · right
      exact ⟨by show ownOf op = 2; unfold ownOf; rw [if_neg (by omega), if_pos (by omega)], doOp_cond k op _ _ hop⟩
    · right
      have hp2 : partOf op = 2 := by
        unfold partOf
        rw [if_neg (by omega), if_pos (by omega)]
      simp only at hka hkb
      rw [hp2] at hka hkb
      have v1 : trVal k st a = 0 ∨ trVal k st a = 1 := by
        rcases ih1 with ⟨h, _⟩ | ⟨_, h⟩
        · simp only at h
          rw [h] at hka
          cases hka
        · exact h
      have v2 : trVal k st b = 0 ∨ trVal k st b = 1 := by
        rcases ih2 with ⟨h, _⟩ | ⟨_, h⟩
        · simp only at h
          rw [h] at hkb
          cases hkb
        · exact h
      exact ⟨by show ownOf op = 2; unfold ownOf; rw [if_neg (by omega), if_pos (by omega)], doOp_both k op _ _ hop v1 v2⟩
/-- the variables of a term in their order -/
def sorted4 (f : Int → Bool) : List Int := [0, 1, 2, 3].filter f
theorem putL_sorted (f : Int → Bool) (n : Int) (h : n = 0 ∨ n = 1 ∨ n = 2 ∨ n = 3) : putL (sorted4 f) n = sorted4 (fun i => f i || i == n) := by
  unfold sorted4
  simp only [List.filter]
  rcases h with rfl | rfl | rfl | rfl <;> cases f 0 <;> cases f 1 <;> cases f 2 <;> cases f 3 <;> rfl
theorem varsL_sorted : ∀ (n : Nat) (t : List Nd), t.length = n → (∀ x ∈ t, x.1 = 2 → 0 ≤ x.2 ∧ x.2 < 4) → varsL t = sorted4 (fun i => decide ((2, i) ∈ t))
  | 0, t, hn, _ => by
    obtain rfl := List.length_eq_zero_iff.1 hn
    rfl
  | n + 1, t, hn, h => by
    have hne : t ≠ [] := by intro e; subst e; simp at hn
    have e : t = t.dropLast ++ [t.getLast hne] := (List.dropLast_concat_getLast hne).symm
    generalize t.getLast hne = x at e
    generalize t.dropLast = u at e
    subst e
    have ih := varsL_sorted n u (by simpa using hn) (fun x hx => h x (by simp [hx]))
    rw [varsL_snoc, ih]
    have hx := h x (by simp)
    obtain ⟨op, m⟩ := x
    simp only at hx ⊢
    by_cases h2 : op = 2
    · subst h2
      have h4 := hx rfl
      rw [if_pos rfl, putL_sorted _ m (by omega)]
      congr 1
      funext i
      by_cases h1 : (2, i) ∈ u
      · simp [h1]
      · by_cases h3 : i = m
        · simp [h3]
        · simp [h1, h3]
    · rw [if_neg h2]
      congr 1
      funext i
      have : ((2, i) : Nd) ≠ (op, m) := by intro e; simp at e; exact h2 e.1.symm
      simp [this]
end Go.Proofs.YtkfplichekebdaaGreatDoor

namespace Go.Proofs.YtkfplichekebdaaGreatDoor
open Go Go.RowKit
open M
set_option linter.unusedVariables false

theorem varsL_len (t : List Nd) : (varsL t).length ≤ t.length := by
  have h : ∀ n : Nat, n ≤ t.length → (varsL (t.take n)).length ≤ n := by
    intro n
    induction n with
    | zero => intro _; simp [varsL]
    | succ n ih =>
      intro hn
      obtain ⟨x, hx⟩ : ∃ x, t[n]? = some x := ⟨t[n], List.getElem?_eq_getElem (by omega)⟩
      have e : t.take (n + 1) = t.take n ++ [x] := by
        rw [List.take_add_one, hx]
        rfl
      rw [e, varsL_snoc]
      have i1 := ih (by omega)
      split
      · have := (putL_len (varsL (t.take n)) x.2).1
        omega
      · omega
  have h2 := h t.length (Nat.le_refl _)
  rw [List.take_length] at h2
  exact h2
theorem varsIn_len0 (wide vars : Int) (t : List Nd) : (varsInL wide vars t).length ≤ t.length := by
  unfold varsInL
  split
  · exact varsL_len t
  · simp
theorem varsIn_reads0 (wide vars : Int) (t : List Nd) (hwide0 : -9223372036854775808 ≤ wide) (hwide1 : wide ≤ 9223372036854775807) (hvars0 : -9223372036854775808 ≤ vars) (hvars1 : vars ≤ 9223372036854775807) (hok : ∀ x ∈ t, NdOk x) (hl : t.length ≤ 1048576) :
    ∀ (w1 : World) (B : Nat) (v1 : Value), OwnInts w1 B v1 (varsInL wide vars t) → IntsAt w1 v1 (varsInL wide vars t) := by
  intro w1 B v1 ho
  have := varsIn_len0 wide vars t
  exact ints_of_own (by omega) ho
end Go.Proofs.YtkfplichekebdaaGreatDoor

namespace Go.Proofs.YtkfplichekebdaaGreatDoor
open Go Go.RowKit
open M
set_option linter.unusedVariables false

/-- of what lay there nothing but block g has turned -/
structure But (g : Nat) (w w' : World) : Prop where
  os : w'.os = w.os
  tape : w'.tape = w.tape
  output : w'.output = w.output
  size : w.heap.size ≤ w'.heap.size
  block : ∀ k, k ≠ g → k < w.heap.size → w'.heap[k]? = w.heap[k]?
theorem But.refl (g : Nat) (w : World) : But g w w := ⟨rfl, rfl, rfl, Nat.le_refl _, fun _ _ _ => rfl⟩
theorem But.trans {g : Nat} {u v w : World} (h : But g u v) (k : But g v w) : But g u w :=
  ⟨k.os.trans h.os, k.tape.trans h.tape, k.output.trans h.output, Nat.le_trans h.size k.size, fun i hi hs => (k.block i hi (Nat.lt_of_lt_of_le hs h.size)).trans (h.block i hi hs)⟩
theorem But.setCell {g : Nat} {u w : World} (h : But g u w) (o : Nat) (v : Value) : But g u (w.setCell ⟨g, o, none⟩ v) :=
  h.trans ⟨rfl, rfl, rfl, by simp [World.setCell], fun k hk _ => Below.heap_setCell _ _ _ _ hk⟩
theorem But.drew {g : Nat} {u w : World} (h : But g u w) : But g u w.drew := ⟨h.os, h.tape, h.output, h.size, h.block⟩
theorem But.below {B g : Nat} {w w' : World} (h : But g w w') (hB : B ≤ g) (hs : B ≤ w.heap.size) : Below B w w' :=
  ⟨h.os, h.tape, h.output, h.size, fun k hk => h.block k (by omega) (by omega)⟩
/-- four truths in memory -/
def bools (f : Int → Bool) : Array Value := #[.bool (f 0), .bool (f 1), .bool (f 2), .bool (f 3)]
theorem bools_put (f : Int → Bool) (i : Nat) (h : i < 4) : (bools f).setIfInBounds i (.bool true) = bools (fun j => f j || j == (i : Int)) := by
  match i, h with
  | 0, _ => simp [bools]
  | 1, _ => simp [bools]
  | 2, _ => simp [bools]
  | 3, _ => simp [bools]
abbrev OldNot (w : World) (g : Nat) : Nat → Prop := fun k => k < w.heap.size ∧ k ≠ g
end Go.Proofs.YtkfplichekebdaaGreatDoor

namespace Go.Proofs.YtkfplichekebdaaGreatDoor
open Go Go.RowKit
open M
set_option linter.unusedVariables false

end Go.Proofs.YtkfplichekebdaaGreatDoor

namespace Go.Proofs.YtkfplichekebdaaGreatDoor
open Go Go.RowKit
open M
set_option linter.unusedVariables false

end Go.Proofs.YtkfplichekebdaaGreatDoor

namespace Go.Proofs.YtkfplichekebdaaGreatDoor
open Go Go.RowKit
open M
set_option linter.unusedVariables false

/-- the two values of parts, 0 where there is none -/
def twoOf (l : List Int) : Array Value := #[.int .u64 (l.getD 0 0), .int .u64 (l.getD 1 0)]
theorem twoOf_put (l : List Int) (v : Int) (h : l.length < 2) : (twoOf l).setIfInBounds l.length (.int .u64 v) = twoOf (l ++ [v]) := by
  match l, h with
  | [], _ => rfl
  | [a], _ => rfl
  | _ :: _ :: _, h => simp at h; omega
end Go.Proofs.YtkfplichekebdaaGreatDoor

namespace Go.Proofs.YtkfplichekebdaaGreatDoor
open Go Go.RowKit
open M
set_option linter.unusedVariables false

end Go.Proofs.YtkfplichekebdaaGreatDoor

namespace Go.Proofs.YtkfplichekebdaaGreatDoor
open Go Go.RowKit
open M
set_option linter.unusedVariables false

end Go.Proofs.YtkfplichekebdaaGreatDoor

namespace Go.Proofs.YtkfplichekebdaaGreatDoor
open Go Go.RowKit
open M
set_option linter.unusedVariables false

theorem trFold_no (k : Nat) : ∀ r : Tr, trVar r = false → trFold k r = .leaf (litN r.nd.1 (trVal k [] r))
  | .leaf x, h => by
    have h2 : ¬ x.1 = 2 := of_decide_eq_false h
    simp only [trFold, if_neg h2, Tr.nd, trVal, val0]
  | .one x a, h => by
    have h2 : ¬ trVar a = true := by
      have : trVar a = false := h
      rw [this]
      decide
    simp only [trFold, if_neg h2, Tr.nd, trVal]
  | .two x a b, h => by
    have h2 : ¬ (trVar a || trVar b) = true := by
      have : (trVar a || trVar b) = false := h
      rw [this]
      decide
    simp only [trFold, if_neg h2, Tr.nd, trVal]
theorem trFold_yes (k : Nat) : ∀ r : Tr, trVar r = true → trFold k r = Tr.over r.nd (r.parts.map (trFold k))
  | .leaf x, h => by
    have h2 : x.1 = 2 := of_decide_eq_true h
    simp only [trFold, if_pos h2, Tr.parts, List.map_nil, Tr.over, Tr.nd]
  | .one x a, h => by
    have h2 : trVar a = true := h
    simp only [trFold, if_pos h2, Tr.parts, List.map_cons, List.map_nil, Tr.over, Tr.nd]
  | .two x a b, h => by
    have h2 : (trVar a || trVar b) = true := h
    simp only [trFold, if_pos h2, Tr.parts, List.map_cons, List.map_nil, Tr.over, Tr.nd]
theorem litN_own {op v : Int} (h : ¬ ownOf op = 0) : ownOf (litN op v).1 = ownOf op := by
  have hr := ownOf_range op
  unfold litN
  by_cases h2 : ownOf op = 2
  · rw [if_pos h2, h2]
    rfl
  · rw [if_neg h2]
    show ownOf 1 = _
    rw [show ownOf op = 1 by omega]
    rfl
theorem trFold_kind {wide vars : Int} (k : Nat) (r : Tr) (h : r.Ok wide vars) : (trFold k r).kind = r.kind := by
  cases hv : trVar r with
  | false =>
    rw [trFold_no k r hv]
    exact litN_own (Tr.ok_nd h).1
  | true =>
    rw [trFold_yes k r hv]
    unfold Tr.kind
    rw [(Tr.over_parts r.nd _ (by cases r <;> simp [Tr.parts])).2]
theorem trFold_size (k : Nat) : ∀ r : Tr, (trFold k r).size ≤ r.size
  | .leaf x => by
    simp only [trFold]
    split <;> simp [Tr.size]
  | .one x a => by
    have ha := trFold_size k a
    simp only [trFold]
    split <;> simp only [Tr.size] <;> omega
  | .two x a b => by
    have ha := trFold_size k a
    have hb := trFold_size k b
    simp only [trFold]
    split <;> simp only [Tr.size] <;> omega
theorem novar_below {wide vars : Int} {r : Tr} (hok : r.Ok wide vars) (h : trVar r = false) (n : Nat) : VarsBelow r n := by
  intro x hx h2
  have := (trVar_iff hok).2 ⟨x, hx, h2⟩
  rw [h] at this
  cases this
theorem trFold_ok {k : Nat} (hk1 : 1 ≤ k) (hk : k ≤ 64) {vars : Int} : ∀ r : Tr, r.Ok k vars → Pos r → (trFold k r).Ok k vars ∧ Pos (trFold k r) := by
  apply Tr.ind
  intro r ih hok hp
  cases hv : trVar r with
  | false =>
    rw [trFold_no k r hv]
    have hvo := trVal_ok hk1 hk (st := []) (by simp) hok hp (novar_below hok hv _)
    have hk0 := Tr.kind_pos hok
    have hkk : r.kind = ownOf r.nd.1 := rfl
    generalize trVal k [] r = v at *
    rcases hvo with ⟨h1, h2, h3⟩ | ⟨h1, h2⟩
    · simp only at h1 h2 h3
      have e : litN r.nd.1 v = (1, v) := by
        unfold litN
        rw [if_neg (by omega)]
      rw [e]
      exact ⟨⟨(by show ¬ ownOf 1 = 0; decide), by show goodB k v = true; exact good_of k hk1 hk v h3, rfl⟩, fun x hx => by
        simp only [Tr.flat, List.mem_singleton] at hx
        subst hx
        exact h2⟩
    · simp only at h1 h2
      have e : litN r.nd.1 v = (20, v) := by
        unfold litN
        rw [if_pos (by omega)]
      rw [e]
      exact ⟨⟨(by show ¬ ownOf 20 = 0; decide), by show decide (v < 2) = true; exact decide_eq_true (by omega), rfl⟩, fun x hx => by
        simp only [Tr.flat, List.mem_singleton] at hx
        subst hx
        show 0 ≤ v
        omega⟩
  | true =>
    rw [trFold_yes k r hv]
    obtain ⟨n1, n2, n3⟩ := Tr.ok_nd hok
    have hfl : ∀ q ∈ r.parts, ∀ x ∈ q.flat, x ∈ r.flat := by
      intro q hq x hx
      rw [Tr.flat_eq r]
      exact List.mem_append_left _ (List.mem_flatMap.2 ⟨q, hq, hx⟩)
    have hl2 : (r.parts.map (trFold k)).length ≤ 2 := by cases r <;> simp [Tr.parts]
    have hih : ∀ q ∈ r.parts, (trFold k q).Ok k vars ∧ Pos (trFold k q) := fun q hq => ih q hq (Tr.ok_parts hok q hq).2 (fun x hx => hp x (hfl q hq x hx))
    refine ⟨Tr.over_ok n1 n2 (by simpa using n3) ?_, ?_⟩
    · intro q hq
      obtain ⟨q0, hq0, rfl⟩ := List.mem_map.1 hq
      exact ⟨by rw [trFold_kind k q0 (Tr.ok_parts hok q0 hq0).2]; exact (Tr.ok_parts hok q0 hq0).1, (hih q0 hq0).1⟩
    · intro x hx
      rw [Tr.flat_eq, (Tr.over_parts r.nd _ hl2).1, (Tr.over_parts r.nd _ hl2).2] at hx
      rcases List.mem_append.1 hx with hx | hx
      · obtain ⟨q, hq, hx⟩ := List.mem_flatMap.1 hx
        obtain ⟨q0, hq0, rfl⟩ := List.mem_map.1 hq
        exact (hih q0 hq0).2 x hx
      · simp at hx
        subst hx
        refine hp _ ?_
        rw [Tr.flat_eq r]
        simp
/-- without a variable the state says nothing -/
theorem trVal_no (k : Nat) (s t : List Int) : ∀ r : Tr, trVar r = false → trVal k s r = trVal k t r
  | .leaf x, h => by
    have h2 : ¬ x.1 = 2 := of_decide_eq_false h
    simp only [trVal, val0, if_neg h2]
  | .one x a, h => by
    have ha := trVal_no k s t a h
    simp only [trVal, ha]
  | .two x a b, h => by
    have h' : (trVar a || trVar b) = false := h
    rw [Bool.or_eq_false_iff] at h'
    have ha := trVal_no k s t a h'.1
    have hb := trVal_no k s t b h'.2
    simp only [trVal, ha, hb]
theorem litN_val (st : List Int) (op v : Int) : val0 st (litN op v) = v := by
  unfold val0 litN
  split
  · split at * <;> simp_all
  · rfl
/-- a folded tree comes to the same -/
theorem trFold_val (k : Nat) (st : List Int) : ∀ r : Tr, trVal k st (trFold k r) = trVal k st r
  | .leaf x => by
    simp only [trFold]
    split
    · rfl
    · rename_i h
      simp only [trVal, litN_val]
      simp only [val0, if_neg h]
  | .one x a => by
    have ha := trFold_val k st a
    simp only [trFold]
    split
    · simp only [trVal, ha]
    · rename_i h
      have h' : trVar a = false := by simpa using h
      simp only [trVal, litN_val]
      rw [trVal_no k [] st a h']
  | .two x a b => by
    have ha := trFold_val k st a
    have hb := trFold_val k st b
    simp only [trFold]
    split
    · simp only [trVal, ha, hb]
    · rename_i h
      have h' : trVar a = false ∧ trVar b = false := by simpa using h
      simp only [trVal, litN_val]
      rw [trVal_no k [] st a h'.1, trVal_no k [] st b h'.2]
theorem litN_var (op v : Int) : trVar (.leaf (litN op v)) = false := by
  unfold trVar litN
  apply decide_eq_false
  split
  · show ¬ (20 : Int) = 2
    decide
  · show ¬ (1 : Int) = 2
    decide
theorem trFold_var (k : Nat) : ∀ r : Tr, trVar (trFold k r) = trVar r
  | .leaf x => by
    simp only [trFold]
    split
    · rfl
    · rename_i h
      rw [litN_var]
      exact (decide_eq_false h).symm
  | .one x a => by
    have ha := trFold_var k a
    simp only [trFold]
    split
    · simp only [trVar, ha]
    · rename_i h
      rw [litN_var]
      simp only [trVar]
      cases hh : trVar a
      · rfl
      · exact absurd hh h
  | .two x a b => by
    have ha := trFold_var k a
    have hb := trFold_var k b
    simp only [trFold]
    split
    · simp only [trVar, ha, hb]
    · rename_i h
      rw [litN_var]
      simp only [trVar]
      cases hh : (trVar a || trVar b)
      · rfl
      · exact absurd hh h
theorem litN_again (op v : Int) : litN (litN op v).1 (litN op v).2 = litN op v := by
  unfold litN
  by_cases h : ownOf op = 2
  · simp only [if_pos h]
    rfl
  · simp only [if_neg h]
    rfl
/-- a folded tree is folded already -/
theorem trFold_again (k : Nat) : ∀ r : Tr, trFold k (trFold k r) = trFold k r
  | .leaf x => by
    simp only [trFold]
    by_cases h : x.1 = 2
    · simp only [if_pos h, trFold]
    · simp only [if_neg h, trFold]
      have h2 : ¬ (litN x.1 x.2).1 = 2 := of_decide_eq_false (litN_var x.1 x.2)
      rw [if_neg h2, litN_again]
  | .one x a => by
    have ha := trFold_again k a
    simp only [trFold]
    by_cases h : trVar a = true
    · simp only [if_pos h, trFold, trFold_var, ha]
    · simp only [if_neg h, trFold]
      have h2 := of_decide_eq_false (litN_var x.1 (val1 k x (trVal k [] a)))
      rw [if_neg h2, litN_again]
  | .two x a b => by
    have ha := trFold_again k a
    have hb := trFold_again k b
    simp only [trFold]
    by_cases h : (trVar a || trVar b) = true
    · simp only [if_pos h, trFold, trFold_var, ha, hb]
    · simp only [if_neg h, trFold]
      have h2 := of_decide_eq_false (litN_var x.1 (val2 k x (trVal k [] a) (trVal k [] b)))
      rw [if_neg h2, litN_again]
theorem litN_mem (i op v : Int) : ((2, i) : Nd) ≠ litN op v := by
  intro e
  have h2 := of_decide_eq_false (litN_var op v)
  rw [← e] at h2
  exact h2 rfl
/-- a folded tree has the same variables -/
theorem trFold_mem {wide vars : Int} (k : Nat) (i : Int) : ∀ r : Tr, r.Ok wide vars → (((2, i) : Nd) ∈ (trFold k r).flat ↔ ((2, i) : Nd) ∈ r.flat)
  | .leaf x, _ => by
    simp only [trFold]
    split
    · rfl
    · rename_i h
      simp only [Tr.flat, List.mem_singleton]
      constructor
      · intro e
        exact absurd e (litN_mem i _ _)
      · intro e
        rw [← e] at h
        exact absurd rfl h
  | .one x a, hok => by
    have ha := trFold_mem k i a hok.2.2.2.2
    simp only [trFold]
    split
    · simp only [Tr.flat, List.mem_append, ha]
    · rename_i h
      have h' : trVar a = false := by simpa using h
      simp only [Tr.flat, List.mem_append, List.mem_singleton]
      constructor
      · intro e
        exact absurd e (litN_mem i _ _)
      · rintro (e | e)
        · have := (trVar_iff hok.2.2.2.2).2 ⟨_, e, rfl⟩
          rw [h'] at this
          cases this
        · have h3 := hok.2.2.1
          rw [← e] at h3
          exact absurd (show (0 : Nat) = 1 from h3) (by decide)
  | .two x a b, hok => by
    have ha := trFold_mem k i a hok.2.2.2.2.2.1
    have hb := trFold_mem k i b hok.2.2.2.2.2.2
    simp only [trFold]
    split
    · simp only [Tr.flat, List.mem_append, ha, hb]
    · rename_i h
      have h' : trVar a = false ∧ trVar b = false := by simpa using h
      simp only [Tr.flat, List.mem_append, List.mem_singleton]
      constructor
      · intro e
        exact absurd e (litN_mem i _ _)
      · rintro ((e | e) | e)
        · have := (trVar_iff hok.2.2.2.2.2.1).2 ⟨_, e, rfl⟩
          rw [h'.1] at this
          cases this
        · have := (trVar_iff hok.2.2.2.2.2.2).2 ⟨_, e, rfl⟩
          rw [h'.2] at this
          cases this
        · have h3 := hok.2.2.1
          rw [← e] at h3
          exact absurd (show (0 : Nat) = 2 from h3) (by decide)
theorem trPut_flat {wide vars : Int} (bs : List Tr) : ∀ r : Tr, r.Ok wide vars → Pos r → VarsBelow r bs.length → (trPut bs r).flat = putsL (bs.map Tr.flat) r.flat
  | .leaf x, hok, hp, hv => by
    simp only [trPut, putsL, Tr.flat, List.flatMap_cons, List.flatMap_nil, List.append_nil]
    split
    · rename_i h
      have h1 := hv x (by simp [Tr.flat]) h
      simp [List.getD_eq_getElem?_getD, h1]
    · rfl
  | .one x a, hok, hp, hv => by
    have ha := trPut_flat bs a hok.2.2.2.2 (fun x hx => hp x (by simp [Tr.flat, hx])) (fun x hx => hv x (by simp [Tr.flat, hx]))
    have hx : ¬ x.1 = 2 := by
      intro e
      have h3 := hok.2.2.1
      rw [e] at h3
      exact absurd (show (0 : Nat) = 1 from h3) (by decide)
    simp only [trPut, Tr.flat]
    rw [putsL_snoc, if_neg hx, ha]
  | .two x a b, hok, hp, hv => by
    have ha := trPut_flat bs a hok.2.2.2.2.2.1 (fun x hx => hp x (by simp [Tr.flat, hx])) (fun x hx => hv x (by simp [Tr.flat, hx]))
    have hb := trPut_flat bs b hok.2.2.2.2.2.2 (fun x hx => hp x (by simp [Tr.flat, hx])) (fun x hx => hv x (by simp [Tr.flat, hx]))
    have hx : ¬ x.1 = 2 := by
      intro e
      have h3 := hok.2.2.1
      rw [e] at h3
      exact absurd (show (0 : Nat) = 2 from h3) (by decide)
    simp only [trPut, Tr.flat]
    rw [putsL_snoc, if_neg hx, ha, hb]
    unfold putsL
    rw [List.flatMap_append]
theorem trPut_kind {wide vars : Int} (bs : List Tr) (hb : ∀ q ∈ bs, q.kind = 1) (r : Tr) (hok : r.Ok wide vars) : (trPut bs r).kind = r.kind := by
  cases r with
  | leaf x =>
    simp only [trPut]
    split
    · rename_i h
      have e : (Tr.leaf x).kind = 1 := by
        show ownOf x.1 = 1
        rw [h]
        rfl
      rw [e, List.getD_eq_getElem?_getD]
      cases hg : bs[x.2.toNat]? with
      | none => exact e
      | some q => exact hb q (List.mem_of_getElem? hg)
    · rfl
  | one x a => rfl
  | two x a b => rfl
theorem trPut_ok {wide vars : Int} (bs : List Tr) (hb : ∀ q ∈ bs, q.kind = 1 ∧ q.Ok wide vars) : ∀ r : Tr, r.Ok wide vars → (trPut bs r).Ok wide vars
  | .leaf x, hok => by
    simp only [trPut]
    split
    · rw [List.getD_eq_getElem?_getD]
      cases hg : bs[x.2.toNat]? with
      | none => exact hok
      | some q => exact (hb q (List.mem_of_getElem? hg)).2
    · exact hok
  | .one x a, hok => by
    have ha := trPut_ok bs hb a hok.2.2.2.2
    exact ⟨hok.1, hok.2.1, hok.2.2.1, by rw [trPut_kind bs (fun q hq => (hb q hq).1) a hok.2.2.2.2]; exact hok.2.2.2.1, ha⟩
  | .two x a b, hok => by
    have ha := trPut_ok bs hb a hok.2.2.2.2.2.1
    have hb' := trPut_ok bs hb b hok.2.2.2.2.2.2
    exact ⟨hok.1, hok.2.1, hok.2.2.1, by rw [trPut_kind bs (fun q hq => (hb q hq).1) a hok.2.2.2.2.2.1]; exact hok.2.2.2.1, by rw [trPut_kind bs (fun q hq => (hb q hq).1) b hok.2.2.2.2.2.2]; exact hok.2.2.2.2.1, ha, hb'⟩
/-- what is put for the variables does as their values do -/
theorem trPut_val (k : Nat) (st : List Int) (bs : List Tr) : ∀ r : Tr, VarsBelow r bs.length → trVal k st (trPut bs r) = trVal k (bs.map (trVal k st)) r
  | .leaf x, hv => by
    simp only [trPut]
    split
    · rename_i h
      have h1 := hv x (by simp [Tr.flat]) h
      simp only [trVal, val0, if_pos h]
      simp [List.getD_eq_getElem?_getD, h1]
    · rename_i h
      simp only [trVal, val0, if_neg h]
  | .one x a, hv => by
    have ha := trPut_val k st bs a (fun x hx => hv x (by simp [Tr.flat, hx]))
    simp only [trPut, trVal, ha]
  | .two x a b, hv => by
    have ha := trPut_val k st bs a (fun x hx => hv x (by simp [Tr.flat, hx]))
    have hb := trPut_val k st bs b (fun x hx => hv x (by simp [Tr.flat, hx]))
    simp only [trPut, trVal, ha, hb]
end Go.Proofs.YtkfplichekebdaaGreatDoor

namespace Go.Proofs.YtkfplichekebdaaGreatDoor
open Go Go.RowKit
open M
set_option linter.unusedVariables false

/-- the tree that nodeOver made, among all that lies there -/
theorem tr_all {w w' : World} {S : Nat → Prop} {t : Tr} {b : Nat} (hS : ∀ k, S k → k < w.heap.size) (hb : Below w.heap.size w w') (h : TrAt w' (fun k => S k ∨ (w.heap.size ≤ k ∧ k < w'.heap.size)) t b) : TrAt w' (Old w') t b :=
  TrAt.frame (fun k hk => by
    rcases hk with hk | hk
    · exact Nat.lt_of_lt_of_le (hS k hk) hb.size
    · exact hk.2) (fun _ _ => rfl) h
/-- blocks of S or made since w, which lie there and are not the row's -/
abbrev Mix (S : Nat → Prop) (w wr : World) (v : Value) : Nat → Prop := fun k => (S k ∨ w.heap.size ≤ k) ∧ OldBut wr v k
theorem mix_next {S : Nat → Prop} {w w3 w7 : World} {v v0 v7 : Value} {o : Obj} {l : List Tr} {ps : List Nat} (ht : TrsAt w3 (Mix S w w3 v) l ps) (grow : (w3.alloc o).grownBy w7 v0.ownBlock) (hat : v7.ownBlock = v0.ownBlock ∨ v7.ownBlock = some (w3.heap.size + 1)) (hvb : v0.ownBlock = v.ownBlock) : TrsAt w7 (Mix S w w7 v7) l ps := by
  have hs := grow.size
  rw [show (w3.alloc o).heap.size = w3.heap.size + 1 from by simp] at hs
  refine TrsAt.frame (fun k hk => ⟨hk.1, ?_, ?_⟩) (fun k hk => ?_) ht
  · have := hk.2.1
    omega
  · rcases hat with h | h
    · rw [h, hvb]
      exact hk.2.2
    · rw [h]
      intro e
      have := Option.some.inj e
      have := hk.2.1
      omega
  · rw [grow.block k (by have := hk.2.1; simp; omega) (by rw [hvb]; exact hk.2.2)]
    exact Below.heap_alloc _ _ _ hk.2.1
/-- S or made since w -/
abbrev New (S : Nat → Prop) (w w' : World) : Nat → Prop := fun k => S k ∨ (w.heap.size ≤ k ∧ k < w'.heap.size)
theorem new_low {S : Nat → Prop} {w w1 w' : World} {t : Tr} {b : Nat} (hs : w.heap.size ≤ w1.heap.size) (h : TrAt w' (New S w1 w') t b) : TrAt w' (New S w w') t b :=
  TrAt.frame (fun k hk => hk.elim Or.inl fun h => Or.inr ⟨Nat.le_trans hs h.1, h.2⟩) (fun _ _ => rfl) h
set_option maxRecDepth 100000 in
theorem leafOf_any (S : Nat → Prop) (kind n : Int) (hk : kind = 1 ∨ kind = 2) (w : World) (hS : ∀ k, S k → k < w.heap.size) :
    Calls Tryz.prog 107 #[.int .i64 kind, .int .u64 n] w fun e w' => ∃ b, e = .returned (ptr b) ∧ TrAt w' (New S w w') (.leaf (if kind = 2 then 20 else 1, n)) b ∧ Below w.heap.size w w' := by
  have G : Hid (∀ op : Int, op = 20 ∨ op = 1 → Calls Tryz.prog 56 #[.agg #[.int .i64 op, .int .u64 n], .slice none 0 0] w fun e w' => ∃ b, e = .returned (ptr b) ∧ TrAt w' (New S w w') (.leaf (op, n)) b ∧ Below w.heap.size w w') := by
    intro op hop
    refine (nodeOver_made op n [] [] (.slice none 0 0) w S hS ⟨by simp, Or.inl ⟨rfl, none, 0, rfl⟩⟩ ⟨rfl, fun i a p ha _ => by simp at ha⟩ (by rcases hop with rfl | rfl <;> decide) (by rcases hop with rfl | rfl <;> rfl) (fun q hq => by cases hq) (by simp [sizes])).mono ?_
    rintro e w' ⟨b, he, htr, hb⟩
    exact ⟨b, he, htr, hb⟩
  rcases hk with rfl | rfl
  · have g := G.out 1 (Or.inr rfl)
    clear G
    go_enter Tryz.func107, Tryz.ntmps107
    go_wp2_with fail
    refine g.mono ?_
    rintro e w1 ⟨b, rfl, htr, hb⟩
    have HT : Hid _ := htr
    have HB : Hid _ := hb
    clear g htr hb
    go_wp2_with fail
    go_ret
    exact ⟨_, rfl, HT.out, HB.out⟩
  · have g := G.out 20 (Or.inl rfl)
    clear G
    go_enter Tryz.func107, Tryz.ntmps107
    go_wp2_with fail
    refine g.mono ?_
    rintro e w1 ⟨b, rfl, htr, hb⟩
    have HT : Hid _ := htr
    have HB : Hid _ := hb
    clear g htr hb
    go_wp2_with fail
    go_ret
    exact ⟨_, rfl, HT.out, HB.out⟩
end Go.Proofs.YtkfplichekebdaaGreatDoor

namespace Go.Proofs.YtkfplichekebdaaGreatDoor
open Go Go.RowKit
open M
set_option linter.unusedVariables false

/-- all that is laid -/
structure All5 (w : World) : Prop where
  masks : Tab w
  signs : Signs w
  pow : Pow w
  range : ErrAt 4 w
  syn : ErrAt 3 w
/-- where what is laid ends -/
structure LaidLow (B : Nat) : Prop where
  masks : 1 < B
  signs : 0 < B
  pow : 2 < B
  range : 4 < B
  syn : 3 < B
theorem All5.low {w : World} (h : All5 w) : LaidLow w.heap.size := ⟨h.masks.some, h.signs.lt, h.pow.lt, h.range.1, h.syn.1⟩
theorem LaidLow.mono {B B' : Nat} (h : LaidLow B) (hB : B ≤ B') : LaidLow B' :=
  ⟨Nat.lt_of_lt_of_le h.masks hB, Nat.lt_of_lt_of_le h.signs hB, Nat.lt_of_lt_of_le h.pow hB, Nat.lt_of_lt_of_le h.range hB, Nat.lt_of_lt_of_le h.syn hB⟩
theorem All5.at {B : Nat} {w w' : World} (h : All5 w) (hl : LaidLow B) (hb : Below B w w') : All5 w' := by
  refine ⟨?_, ?_, var?_below hb gPow hl.pow h.pow, ?_, ?_⟩
  · intro k hk
    rw [hb.cell (p := ⟨1, k, none⟩) hl.masks]
    exact h.masks k hk
  · obtain ⟨t, fr, g⟩ := h.signs
    exact ⟨t, fr, by rw [hb.block _ hl.signs]; exact g⟩
  · obtain ⟨h0, tp, p, g⟩ := h.range
    exact ⟨Nat.lt_of_lt_of_le h0 hb.size, tp, p, by rw [hb.cell (p := ⟨4, 0, none⟩) hl.range]; exact g⟩
  · obtain ⟨h0, tp, p, g⟩ := h.syn
    exact ⟨Nat.lt_of_lt_of_le h0 hb.size, tp, p, by rw [hb.cell (p := ⟨3, 0, none⟩) hl.syn]; exact g⟩
theorem All5.below {w w' : World} (h : All5 w) (hb : Below w.heap.size w w') : All5 w' := h.at h.low hb
/-- the op of a sign, of one part or of two -/
def opB (l : Tx) : Nat := if l = [126] then 13 else if l = [33] then 19 else opOf l
theorem opB_found {j : Nat} {l : Tx} (hj : j < 21) (h0 : signN j ≠ []) (h : signN j = l) : opB l = j := by
  subst h
  match j, hj with
  | 0, _ => exact absurd rfl h0
  | 1, _ => exact absurd rfl h0
  | 2, _ => exact absurd rfl h0
  | 3, _ => decide
  | 4, _ => decide
  | 5, _ => decide
  | 6, _ => decide
  | 7, _ => decide
  | 8, _ => decide
  | 9, _ => decide
  | 10, _ => decide
  | 11, _ => decide
  | 12, _ => decide
  | 13, _ => decide
  | 14, _ => decide
  | 15, _ => decide
  | 16, _ => decide
  | 17, _ => decide
  | 18, _ => decide
  | 19, _ => decide
  | 20, _ => exact absurd rfl h0
  | n + 21, h => omega
theorem opB_none {l : Tx} (h : ∀ i, i < 21 → signN i = [] ∨ signN i ≠ l) : opB l = 0 := by
  unfold opB
  split
  · rename_i e
    subst e
    rcases h 13 (by omega) with g | g
    · cases g
    · exact absurd rfl g
  · split
    · rename_i e
      subst e
      rcases h 19 (by omega) with g | g
      · cases g
      · exact absurd rfl g
    · by_cases h0 : opOf l = 0
      · exact h0
      · obtain ⟨k, hk, h13, _, hs⟩ := opOf_cases h0
        rcases h k (by omega) with g | g
        · obtain ⟨c, r, e, _⟩ := sign_start (k := k) (by omega) (by omega)
          rw [g] at e
          cases e
        · exact absurd hs g
theorem opB_le (l : Tx) : opB l ≤ 20 := by
  unfold opB
  split
  · omega
  · split
    · omega
    · by_cases h0 : opOf l = 0
      · omega
      · have := opOf_range h0
        omega
/-- a sign takes two parts just where it is one of them -/
theorem opB_two (l : Tx) : (opOf l = 0 → manyOf (opB l) ≠ 2) ∧ (opOf l ≠ 0 → opB l = opOf l ∧ manyOf (opB l) = 2) := by
  constructor
  · intro h
    unfold opB
    split
    · decide
    · split
      · decide
      · rw [h]
        decide
  · intro h
    obtain ⟨s1, s2, s3, s4⟩ := opOf_sign h
    have hne1 : l ≠ [126] := by rintro rfl; exact h (by decide)
    have hne2 : l ≠ [33] := by rintro rfl; exact h (by decide)
    have e : opB l = opOf l := by unfold opB; rw [if_neg hne1, if_neg hne2]
    rw [e]
    exact ⟨rfl, s2⟩
theorem opB_one {l : Tx} (h : l = [126] ∨ l = [33]) : opB l = opOne l := by
  rcases h with rfl | rfl <;> decide
abbrev prCells (wide vars : Int) (vt : Value) (long : Nat) (code at_ : Int) : Array Value := #[.int .i64 wide, .int .i64 vars, vt, .int .i64 (long : Int), .int .i64 code, .int .i64 at_]
/-- all but block b is as it was -/
abbrev KeepB (b : Nat) (w w' : World) : Prop := Keep b w w' (.slice none 0 0) (.slice none 0 0)
theorem KeepB.same {b : Nat} {w w' : World} (h : KeepB b w w') {k : Nat} (hk : k < w.heap.size) (hb : k ≠ b) : w'.heap[k]? = w.heap[k]? := h.block k hk hb (by simp [Value.ownBlock])
/-- the reader -/
structure PrAt (w : World) (b : Nat) (wide vars : Int) (long : Nat) (vt : Value) (l : List M.Tok) (code at_ : Int) : Prop where
  heap : w.heap[b]? = some (.cells (prCells wide vars vt long code at_) 58 (0, 0))
  toks : ToksIn w b vt l
  many : l.length ≤ 1000
  laid : All5 w
  low : LaidLow b
theorem PrAt.lt {w : World} {b : Nat} {wide vars : Int} {long : Nat} {vt : Value} {l : List M.Tok} {code at_ : Int} (h : PrAt w b wide vars long vt l code at_) : b < w.heap.size := (Array.getElem?_eq_some_iff.1 h.heap).1
theorem PrAt.cell {w : World} {b : Nat} {wide vars : Int} {long : Nat} {vt : Value} {l : List M.Tok} {code at_ : Int} (h : PrAt w b wide vars long vt l code at_) :
    w.cell? ⟨b, 0, none⟩ = some (.int .i64 wide) ∧ w.cell? ⟨b, 1, none⟩ = some (.int .i64 vars) ∧ w.cell? ⟨b, 2, none⟩ = some vt ∧ w.cell? ⟨b, 3, none⟩ = some (.int .i64 (long : Int)) ∧ w.cell? ⟨b, 4, none⟩ = some (.int .i64 code) ∧ w.cell? ⟨b, 5, none⟩ = some (.int .i64 at_) := by
  refine ⟨?_, ?_, ?_, ?_, ?_, ?_⟩ <;> (rw [cell_heap h.heap]; rfl)
theorem PrAt.later {w w' : World} {b : Nat} {wide vars : Int} {long : Nat} {vt : Value} {l : List M.Tok} {code at_ : Int} (h : PrAt w b wide vars long vt l code at_) (hb : Below w.heap.size w w') : PrAt w' b wide vars long vt l code at_ :=
  ⟨by rw [hb.block b h.lt]; exact h.heap, h.toks.same (fun k hk => hb.block k (Nat.lt_trans hk h.lt)), h.many, h.laid.below hb, h.low⟩
theorem PrAt.set {w w' : World} {b : Nat} {wide vars : Int} {long : Nat} {vt vt' : Value} {l l' : List M.Tok} {code at_ code' at' : Int} (h : PrAt w b wide vars long vt l code at_)
    (hh : w'.heap[b]? = some (.cells (prCells wide vars vt' long code' at') 58 (0, 0))) (hk : KeepB b w w') (ht : ToksIn w b vt' l') (hl : l'.length ≤ 1000) :
    PrAt w' b wide vars long vt' l' code' at' :=
  ⟨hh, ht.same (fun k hk' => KeepB.same hk (Nat.lt_trans hk' h.lt) (by omega)), hl, h.laid.at h.low ⟨hk.os, hk.tape, hk.output, hk.size, fun k hk' => KeepB.same hk (Nat.lt_trans hk' h.lt) (by omega)⟩, h.low⟩
theorem PrAt.faulted {w : World} {b : Nat} {wide vars : Int} {long : Nat} {vt : Value} {l : List M.Tok} {code at_ : Int} (h : PrAt w b wide vars long vt l code at_) (c p : Int) :
    PrAt ((w.setCell ⟨b, 4, none⟩ (.int .i64 c)).setCell ⟨b, 5, none⟩ (.int .i64 p)) b wide vars long vt l c p :=
  h.set (by rw [heap_set (heap_set h.heap)]; rfl) (((Keep.refl b w _).set 4 _).set 5 _) h.toks h.many
theorem PrAt.moved {w : World} {b : Nat} {wide vars : Int} {long : Nat} {vt vt' : Value} {l l' : List M.Tok} {code at_ : Int} (h : PrAt w b wide vars long vt l code at_) (ht : ToksIn w b vt' l') (hl : l'.length ≤ 1000) :
    PrAt (w.setCell ⟨b, 2, none⟩ vt') b wide vars long vt' l' code at_ :=
  h.set (by rw [heap_set h.heap]; rfl) ((Keep.refl b w _).set 2 _) ht hl
/-- what a method leaves behind -/
def PrTo (w w' : World) (b : Nat) (wide vars : Int) (long : Nat) (l : List M.Tok) (code at_ : Int) : Prop := (∃ vt, PrAt w' b wide vars long vt l code at_) ∧ KeepB b w w'
theorem PrTo.trans {u v w : World} {b : Nat} {wide vars : Int} {long : Nat} {l : List M.Tok} {code at_ : Int} (k : PrTo v w b wide vars long l code at_) (h : KeepB b u v) : PrTo u w b wide vars long l code at_ :=
  ⟨k.1, Keep.trans h k.2⟩
/-- a token is taken off -/
theorem PrAt.pop {w : World} {b : Nat} {wide vars : Int} {long : Nat} {vt : Value} {p : Nat} {s : Tx} {l : List M.Tok} {code at_ : Int} (h : PrAt w b wide vars long vt ((p, s) :: l) code at_) :
    ∃ (g off cap : Nat) (a : Option Addr) (c : Nat), vt = .slice (some ⟨g, off, none⟩) (l.length + 1) cap ∧ g < b ∧ w.cell? ⟨g, off, none⟩ = some (.int .i64 (p : Int)) ∧ w.cell? ⟨g, off + 1, none⟩ = some (tx s) ∧
      (∀ W : World, (Instr.slice 43 (.slice (some ⟨g, off, none⟩) (l.length + 1) cap) (some (.int .i64 1)) none none).run Tryz.prog W = .ok (.slice a l.length c) W) ∧
      PrAt (w.setCell ⟨b, 2, none⟩ (.slice a l.length c)) b wide vars long (.slice a l.length c) l code at_ ∧ l.length + 1 ≤ 1000 := by
  obtain ⟨ta, tc, hsh⟩ := h.toks.shape
  subst hsh
  obtain ⟨g, off, rfl, hg, t0, t1, htl, hcap⟩ := h.toks.first
  obtain ⟨a, c, hr, ht⟩ := cut_run htl hcap
  have hm := h.many
  simp only [List.length_cons] at hm
  exact ⟨g, off, tc, a, c, rfl, hg, t0, t1, hr, h.moved ht (by omega), hm⟩
end Go.Proofs.YtkfplichekebdaaGreatDoor

namespace Go.Proofs.YtkfplichekebdaaGreatDoor
open Go Go.RowKit
open M
set_option linter.unusedVariables false

theorem prTo_refl {w w' : World} {b : Nat} {wide vars : Int} {long : Nat} {vt : Value} {l : List M.Tok} {code at_ : Int} (h : PrAt w' b wide vars long vt l code at_) (hk : KeepB b w w') : PrTo w w' b wide vars long l code at_ := ⟨⟨vt, h⟩, hk⟩
set_option maxRecDepth 100000 in
set_option maxHeartbeats 1000000 in
theorem fail_any {w : World} {b : Nat} {wide vars : Int} {long : Nat} {vt : Value} {l : List M.Tok} {code at_ : Int} (h : PrAt w b wide vars long vt l code at_) (c p : Int) :
    Calls Tryz.prog 63 #[ptr b, .int .i64 c, .int .i64 p] w fun e w' => e = .returned (.pointer none) ∧ PrTo w w' b wide vars long l c p := by
  obtain ⟨c0, c1, c2, c3, c4, c5⟩ := h.cell
  have f4 := frozen_heap (o := 4) h.heap
  have f5 := frozen_heap (o := 5) h.heap
  have HF : Hid (PrTo w ((w.setCell ⟨b, 4, none⟩ (.int .i64 c)).setCell ⟨b, 5, none⟩ (.int .i64 p)) b wide vars long l c p) := prTo_refl (h.faulted c p) (((Keep.refl b w _).set 4 _).set 5 _)
  clear h
  go_enter Tryz.func63, Tryz.ntmps63
  go_wp2_with fail
  go_ret
  exact ⟨rfl, HF.out⟩
/-- the text of the first token, empty where there is none -/
def headT : List M.Tok → Tx
  | [] => []
  | x :: _ => x.2
set_option maxRecDepth 100000 in
set_option maxHeartbeats 1000000 in
theorem take_nil {w : World} {b : Nat} {wide vars : Int} {long : Nat} {vt : Value} {code at_ : Int} (h : PrAt w b wide vars long vt [] code at_) :
    Calls Tryz.prog 86 #[ptr b] w fun e w' => e = .returned (.agg #[.int .i64 (long : Int), tx []]) ∧ PrTo w w' b wide vars long [] code at_ := by
  obtain ⟨c0, c1, c2, c3, c4, c5⟩ := h.cell
  obtain ⟨ta, tc, hsh⟩ := h.toks.shape
  subst hsh
  have hlt := h.lt
  have HF : Hid (∀ w', Below w.heap.size w w' → PrTo w w' b wide vars long [] code at_) := fun w' hb => prTo_refl (h.later hb) (Keep.below _ hb)
  clear h
  go_enter Tryz.func86, Tryz.ntmps86
  go_wp2_with fail
  refine bodyPost_ret (results_cell_row rfl _ _ w.heap.size 47 #[.int .i64 (long : Int), tx []] (0, 0) _ rfl (heap_alloc_new _ _) Tryz.underlying47 rfl (by kernel_rfl)) rfl ?_
  exact ⟨rfl, HF.out _ ((Below.refl _ _).alloc (Nat.le_refl _) _)⟩
set_option maxRecDepth 100000 in
set_option maxHeartbeats 1000000 in
theorem take_cons {w : World} {b : Nat} {wide vars : Int} {long : Nat} {vt : Value} {p : Nat} {s : Tx} {l : List M.Tok} {code at_ : Int} (h : PrAt w b wide vars long vt ((p, s) :: l) code at_) :
    Calls Tryz.prog 86 #[ptr b] w fun e w' => e = .returned (.agg #[.int .i64 (p : Int), tx s]) ∧ PrTo w w' b wide vars long l code at_ := by
  obtain ⟨c0, c1, c2, c3, c4, c5⟩ := h.cell
  have f2 := frozen_heap (o := 2) h.heap
  obtain ⟨g, off, cap, a, c, rfl, hg, t0, t1, hcut, hr2, hl1⟩ := h.pop
  have hlt := h.lt
  have hgl : g < w.heap.size := by omega
  have HF : Hid (∀ w', Below (w.setCell ⟨b, 2, none⟩ (.slice a l.length c)).heap.size (w.setCell ⟨b, 2, none⟩ (.slice a l.length c)) w' → PrTo w w' b wide vars long l code at_) := fun w' hb => prTo_refl (hr2.later hb) (((Keep.refl b w _).set 2 _).trans (Keep.below _ hb))
  clear h hr2
  generalize l.length = ln at *
  go_enter Tryz.func86, Tryz.ntmps86
  go_wp2_with fail
  have hs : (w.setCell ⟨b, 2, none⟩ (.slice a ln c)).heap.size = w.heap.size := set_size _ _ _
  refine bodyPost_ret (results_cell_row rfl _ _ w.heap.size 47 #[.int .i64 (p : Int), tx s] (0, 0) _ rfl (by rw [Below.heap_alloc _ _ _ (by simp [hs]), ← hs]; exact heap_alloc_new _ _) Tryz.underlying47 rfl (by kernel_rfl)) rfl ?_
  exact ⟨rfl, HF.out _ (((Below.refl _ _).alloc (Nat.le_refl _) _).alloc (by simp) _)⟩
theorem ptake_any {w : World} {b : Nat} {wide vars : Int} {long : Nat} {vt : Value} {l : List M.Tok} {code at_ : Int} (h : PrAt w b wide vars long vt l code at_) :
    Calls Tryz.prog 86 #[ptr b] w fun e w' => e = .returned (.agg #[.int .i64 (placeOf long l : Int), tx (headT l)]) ∧ PrTo w w' b wide vars long l.tail code at_ := by
  match l, h with
  | [], h => exact take_nil h
  | (p, s) :: l, h => exact take_cons h
set_option maxHeartbeats 6400000 in
set_option maxRecDepth 1000000 in
theorem opOf_any (s : Tx) (w : World) (hS : Signs w) : Calls Tryz.prog 105 #[tx s] w fun e w' => e = .returned (.int .i64 (opB s : Int)) ∧ w' = w := by
  obtain ⟨tt, fr, hg1⟩ := hS
  have HX : Hid (∀ (j : Nat), j < 21 → ∀ W : World, (Instr.index 90 signsV (.int .i64 (j : Int))).run Tryz.prog W = .ok (tx (signN j)) W) := index_sign
  go_enter Tryz.func105, Tryz.ntmps105
  go_wp2_with (refine wpList_load_row rfl 90 _ rfl 0 rfl tt _ fr _ hg1 Tryz.underlying90 rfl (by kernel_rfl) ?_)
  go_loop [6] (fun i => ∃ j : Nat, j ≤ 21 ∧ i = .int .i64 j ∧ Hid (∀ i, i < j → signN i = [] ∨ signN i ≠ s)) (fun i => 21 - (intOf i).toNat)
  case atStart => exact ⟨0, by omega, rfl, fun i hi => by omega⟩
  case round =>
    obtain ⟨j, hj, rfl, HN⟩ := hrel
    by_cases hlt' : j < 21
    · have hix := fun W : World => HX.out j hlt' W
      by_cases h0 : signN j = []
      · have HN2 : Hid (∀ i, i < j + 1 → signN i = [] ∨ signN i ≠ s) := fun i hi => by
          by_cases e : i = j
          · subst e; exact Or.inl h0
          · exact HN.out i (by omega)
        rw [h0] at hix
        clear h0
        go_wp2_with fail
        go_round
        case rel => exact ⟨j + 1, by omega, by go_num, HN2⟩
        case measure => simp [intOf]; omega
      · have e0 : (signN j == []) = false := beq_eq_false_iff_ne.2 h0
        by_cases hq : signN j = s
        · have HO : Hid (opB s = j) := opB_found hlt' h0 hq
          rw [hq] at hix e0
          clear h0 hq
          go_wp2_with fail
          go_ret
          exact ⟨by rw [HO.out]; rfl, rfl⟩
        · have HN2 : Hid (∀ i, i < j + 1 → signN i = [] ∨ signN i ≠ s) := fun i hi => by
            by_cases e : i = j
            · subst e; exact Or.inr hq
            · exact HN.out i (by omega)
          have e1 : (signN j == s) = false := beq_eq_false_iff_ne.2 hq
          clear h0 hq
          generalize signN j = sg at *
          go_wp2_with fail
          go_round
          case rel => exact ⟨j + 1, by omega, by go_num, HN2⟩
          case measure => simp [intOf]; omega
    · obtain rfl : j = 21 := by omega
      have HO : Hid (opB s = 0) := opB_none HN.out
      go_wp2_with fail
      go_ret
      exact ⟨by rw [HO.out]; rfl, rfl⟩
end Go.Proofs.YtkfplichekebdaaGreatDoor

namespace Go.Proofs.YtkfplichekebdaaGreatDoor
open Go Go.RowKit
open M
set_option linter.unusedVariables false

/-- all that lies in a world but the reader -/
abbrev ButB (b : Nat) (w : World) : Nat → Prop := fun k => k < w.heap.size ∧ k ≠ b
/-- a tree that is new beside the reader -/
theorem tr_new {w w' : World} {b : Nat} {t : Tr} {k : Nat} (hb : b < w.heap.size) (hs : w.heap.size ≤ w'.heap.size) (h : TrAt w' (New (ButB b w) w w') t k) : TrAt w' (ButB b w') t k :=
  TrAt.frame (fun k hk => hk.elim (fun h => ⟨Nat.lt_of_lt_of_le h.1 hs, h.2⟩) (fun h => ⟨h.2, by omega⟩)) (fun _ _ => rfl) h
/-- a tree stays while the reader goes on -/
theorem tr_keep {w w' : World} {b : Nat} {t : Tr} {k : Nat} (h : TrAt w (ButB b w) t k) (hk : KeepB b w w') : TrAt w' (ButB b w') t k :=
  TrAt.frame (fun k h => ⟨Nat.lt_of_lt_of_le h.1 hk.size, h.2⟩) (fun k h => KeepB.same hk h.1 h.2) h
theorem prTo_below {w w' : World} {b : Nat} {wide vars : Int} {long : Nat} {vt : Value} {l : List M.Tok} {code at_ : Int} (h : PrAt w b wide vars long vt l code at_) (hb : Below w.heap.size w w') : PrTo w w' b wide vars long l code at_ := ⟨⟨vt, h.later hb⟩, Keep.below _ hb⟩
set_option maxRecDepth 100000 in
set_option maxHeartbeats 2000000 in
theorem number_any {w : World} {b : Nat} {wide vars : Int} {long : Nat} {vt : Value} {l : List M.Tok} (h : PrAt w b wide vars long vt l 0 0) (p : Nat) (s : Tx) (hs : s.length ≤ 800) :
    Calls Tryz.prog 89 #[ptr b, .agg #[.int .i64 (p : Int), tx s]] w fun e w' => ((isNum s = true ∧ goodB wide (readN s) = true) ∧ ∃ k, e = .returned (ptr k) ∧ TrAt w' (ButB b w') (.leaf (1, (readN s : Int))) k ∧ PrTo w w' b wide vars long l 0 0) ∨
      (¬ (isNum s = true ∧ goodB wide (readN s) = true) ∧ e = .returned (.pointer none) ∧ PrTo w w' b wide vars long l 4 p) := by
  have hA : Below w.heap.size w (w.alloc (.cells #[.int .i64 (p : Int), tx s] 47)) := (Below.refl _ _).alloc (Nat.le_refl _) _
  have hP := h.laid.below hA
  have gr := iReadNum_any s (by omega) _ hP.pow hP.range hP.syn
  have hlt := h.lt
  have HA : Hid (Below w.heap.size w (w.alloc (.cells #[.int .i64 (p : Int), tx s] 47))) := hA
  have hn : (readN s : Int) ≤ 18446744073709551615 := by have := readN_lt s; omega
  have GF : Hid (∀ w1, Below w.heap.size w w1 → Calls Tryz.prog 63 #[ptr b, .int .i64 4, .int .i64 (p : Int)] w1 fun e w' => e = .returned (.pointer none) ∧ PrTo w w' b wide vars long l 4 (p : Int)) := fun w1 hb => (fail_any (h.later hb) 4 (p : Int)).mono fun e w' ⟨he, hr⟩ => ⟨he, hr.trans (Keep.below _ hb)⟩
  have GW : Hid (∀ w1, Below w.heap.size w w1 → Calls Tryz.prog 84 #[.int .i64 wide, .int .u64 (readN s : Int)] w1 fun e w' => e = .returned (.bool (goodB wide (readN s))) ∧ w' = w1) := fun w1 hb => iGoodWord_any wide (readN s) w1 (h.later hb).laid.masks
  have GO : Hid (∀ w1, Below w.heap.size w w1 → Calls Tryz.prog 107 #[.int .i64 1, .int .u64 (readN s : Int)] w1 fun e w' => ∃ k, e = .returned (ptr k) ∧ TrAt w' (ButB b w') (.leaf (1, (readN s : Int))) k ∧ PrTo w w' b wide vars long l 0 0) := fun w1 hb1 =>
    (leafOf_any (ButB b w1) 1 (readN s) (Or.inl rfl) w1 (fun k hk => hk.1)).mono fun e w' ⟨k, he, htr, hb⟩ => ⟨k, he, tr_new (h.later hb1).lt hb.size htr, (prTo_below (h.later hb1) hb).trans (Keep.below _ hb1)⟩
  have HC : Hid (∀ w1, Below w.heap.size w w1 → w1.cell? ⟨b, 0, none⟩ = some (.int .i64 wide)) := fun w1 hb => (h.later hb).cell.1
  clear h hA hP
  generalize readN s = N at *
  generalize isNum s = I at *
  generalize goodB wide (N : Int) = G at *
  go_enter Tryz.func89, Tryz.ntmps89
  go_wp2_with fail
  refine gr.mono ?_
  rintro e w1 ⟨rfl, hb1⟩
  have hb01 : Below w.heap.size w w1 := HA.out.trans (hb1.mono HA.out.size)
  have q0 : w1.cell? ⟨w.heap.size, 0, none⟩ = some (.int .i64 (p : Int)) := by rw [hb1.cell (p := ⟨w.heap.size, 0, none⟩) (by simp)]; simp
  have q1 : w1.cell? ⟨w.heap.size, 1, none⟩ = some (tx s) := by rw [hb1.cell (p := ⟨w.heap.size, 1, none⟩) (by simp)]; simp
  have c0 := HC.out w1 hb01
  have gf := GF.out w1 hb01
  have gw := GW.out w1 hb01
  have go := GO.out w1 hb01
  clear gr hb1 hb01 GF GW GO HC HA
  cases I with
  | false =>
    go_wp2_with fail
    refine gf.mono ?_
    rintro e w3 ⟨rfl, hr3⟩
    have H3 : Hid (PrTo w w3 b wide vars long l 4 (p : Int)) := hr3
    clear hr3 gf gw go
    go_wp2_with fail
    go_ret
    first | exact Or.inr ⟨by simp, rfl, H3.out⟩ | exact ⟨rfl, H3.out⟩
  | true =>
    go_wp2_with fail
    refine gw.mono ?_
    rintro e w3 ⟨rfl, rfl⟩
    cases G with
    | false =>
      go_wp2_with fail
      refine gf.mono ?_
      rintro e w4 ⟨rfl, hr3⟩
      have H3 : Hid (PrTo w w4 b wide vars long l 4 (p : Int)) := hr3
      clear hr3 gf gw go
      go_wp2_with fail
      go_ret
      first | exact Or.inr ⟨by simp, rfl, H3.out⟩ | exact ⟨rfl, H3.out⟩
    | true =>
      go_wp2_with fail
      refine go.mono ?_
      rintro e w4 ⟨k, rfl, htr, hr3⟩
      have H3 : Hid (TrAt w4 (ButB b w4) (.leaf (1, (N : Int))) k ∧ PrTo w w4 b wide vars long l 0 0) := ⟨htr, hr3⟩
      clear hr3 htr gf gw go
      go_wp2_with fail
      go_ret
      first | exact Or.inl ⟨by simp, k, rfl, H3.out.1, H3.out.2⟩ | exact ⟨k, rfl, H3.out.1, H3.out.2⟩
/-- the name of a variable, read -/
theorem name_at {s : Tx} {ch : UInt8} {q : Tx} (hs : s = ch :: q) (hlet : isLet ch = true) (hy : s ≠ yesL) (hn : s ≠ noL) {wide vars : Int} :
    (∀ k : Nat, (k : Int) < vars → k < 4 → nameL k = s → leafRd wide vars s = .ok (2, (k : Int))) ∧ (vars ≤ 4 → (∀ k : Nat, (k : Int) < vars → nameL k ≠ s) → leafRd wide vars s = .error 5) := by
  have hd : isDig ch = false := by
    have := isLet_nat hlet
    cases e : isDig ch with
    | false => rfl
    | true => have := isDig_nat e; omega
  have hL := isLet_nat hlet
  constructor
  · intro k hk hk4 e
    subst hs
    unfold nameL at e
    simp only [List.cons.injEq] at e
    obtain ⟨e1, e2⟩ := e
    have hc : ch.toNat = 97 + k := by rw [← e1]; exact name_nat hk4
    simp only [leafRd]
    rw [if_neg (by rw [hd]; decide), if_neg hy, if_neg hn, hc, show 97 + k - 97 = k from by omega, if_pos ⟨by simp [← e2], hk⟩]
  · intro h4 hno
    subst hs
    simp only [leafRd]
    rw [if_neg (by rw [hd]; decide), if_neg hy, if_neg hn, if_neg]
    rintro ⟨g1, g2⟩
    have hq : q = [] := by simpa using g1
    subst hq
    refine hno (ch.toNat - 97) g2 ?_
    unfold nameL
    rw [show 97 + (ch.toNat - 97) = ch.toNat from by omega]
    simp
set_option maxRecDepth 100000 in
set_option maxHeartbeats 2000000 in
theorem named_any {w : World} {b : Nat} {wide vars : Int} {long : Nat} {vt : Value} {l : List M.Tok} (h : PrAt w b wide vars long vt l 0 0) (p : Nat) (s : Tx) (hs : s.length ≤ 800) (hv : vars ≤ 4) (hv0 : 0 ≤ vars) {ch : UInt8} {q : Tx} (hsc : s = ch :: q) (hlet : isLet ch = true) :
    Calls Tryz.prog 90 #[ptr b, .agg #[.int .i64 (p : Int), tx s]] w fun e w' => (∃ nd k, leafRd wide vars s = .ok nd ∧ e = .returned (ptr k) ∧ TrAt w' (ButB b w') (.leaf nd) k ∧ PrTo w w' b wide vars long l 0 0) ∨
      (∃ c, leafRd wide vars s = .error c ∧ e = .returned (.pointer none) ∧ PrTo w w' b wide vars long l (c : Int) p) := by
  have hA : Below w.heap.size w (w.alloc (.cells #[.int .i64 (p : Int), tx s] 47)) := (Below.refl _ _).alloc (Nat.le_refl _) _
  have hlt := h.lt
  have hd : isDig ch = false := by
    have := isLet_nat hlet
    cases e : isDig ch with
    | false => rfl
    | true => have := isDig_nat e; omega
  have HL : Hid (∀ n : Int, Calls Tryz.prog 107 #[.int .i64 2, .int .u64 n] (w.alloc (.cells #[.int .i64 (p : Int), tx s] 47)) fun e w' => ∃ k, e = .returned (ptr k) ∧ TrAt w' (ButB b w') (.leaf (20, n)) k ∧ PrTo w w' b wide vars long l 0 0) := fun n =>
    (leafOf_any (ButB b _) 2 n (Or.inr rfl) _ (fun k hk => hk.1)).mono fun e w' ⟨k, he, htr, hb⟩ => ⟨k, he, tr_new (h.later hA).lt hb.size htr, (prTo_below (h.later hA) hb).trans (Keep.below _ hA)⟩
  have HF : Hid (Calls Tryz.prog 63 #[ptr b, .int .i64 5, .int .i64 (p : Int)] (w.alloc (.cells #[.int .i64 (p : Int), tx s] 47)) fun e w' => e = .returned (.pointer none) ∧ PrTo w w' b wide vars long l 5 (p : Int)) := (fail_any (h.later hA) 5 (p : Int)).mono fun e w' ⟨he, hr⟩ => ⟨he, hr.trans (Keep.below _ hA)⟩
  have HN : Hid (∀ n : Nat, Calls Tryz.prog 56 #[.agg #[.int .i64 2, .int .u64 (n : Int)], .slice none 0 0] (w.alloc (.cells #[.int .i64 (p : Int), tx s] 47)) fun e w' => ∃ k, e = .returned (ptr k) ∧ TrAt w' (ButB b w') (.leaf (2, (n : Int))) k ∧ PrTo w w' b wide vars long l 0 0) := fun n =>
    (nodeOver_made 2 (n : Int) [] [] (.slice none 0 0) _ (ButB b _) (fun k hk => hk.1) ⟨by simp, Or.inl ⟨rfl, none, 0, rfl⟩⟩ ⟨rfl, fun i a p ha _ => by simp at ha⟩ (by decide) rfl (fun q hq => by cases hq) (by simp [sizes])).mono fun e w' ⟨k, he, htr, hb⟩ => ⟨k, he, tr_new (h.later hA).lt hb.size htr, (prTo_below (h.later hA) hb).trans (Keep.below _ hA)⟩
  have HM : Hid (∀ (k : Int) (w1 : World), Calls Tryz.prog 17 #[.int .i64 k] w1 fun e w' => e = .returned (.tuple #[tx (nameT k), .bool (decide (0 ≤ k ∧ k ≤ 3))]) ∧ w' = w1) := fun k w1 => iNameOf_any k w1
  have c1 := h.cell.2.1
  clear h hA
  by_cases hy : s = yesL
  · have hr : leafRd wide vars s = .ok (20, 1) := by
      rw [hsc] at hy ⊢
      simp only [leafRd]
      rw [if_neg (by rw [hd]; decide), if_pos hy]
    have g := HL.out 1
    clear HL HF HN HM hsc
    subst hy
    have HR : Hid (leafRd wide vars yesL = .ok (20, 1)) := hr
    clear hr
    go_enter Tryz.func90, Tryz.ntmps90
    go_wp2_with fail
    refine g.mono ?_
    rintro e w1 ⟨k, rfl, htr, hto⟩
    have H1 : Hid (TrAt w1 (ButB b w1) (.leaf (20, 1)) k ∧ PrTo w w1 b wide vars long l 0 0) := ⟨htr, hto⟩
    clear g htr hto
    go_wp2_with fail
    go_ret
    exact Or.inl ⟨_, k, HR.out, rfl, H1.out.1, H1.out.2⟩
  · by_cases hn : s = noL
    · have hr : leafRd wide vars s = .ok (20, 0) := by
        rw [hsc] at hy hn ⊢
        simp only [leafRd]
        rw [if_neg (by rw [hd]; decide), if_neg hy, if_pos hn]
      have g := HL.out 0
      clear HL HF HN HM hsc hy
      subst hn
      have HR : Hid (leafRd wide vars noL = .ok (20, 0)) := hr
      clear hr
      go_enter Tryz.func90, Tryz.ntmps90
      go_wp2_with fail
      refine g.mono ?_
      rintro e w1 ⟨k, rfl, htr, hto⟩
      have H1 : Hid (TrAt w1 (ButB b w1) (.leaf (20, 0)) k ∧ PrTo w w1 b wide vars long l 0 0) := ⟨htr, hto⟩
      clear g htr hto
      go_wp2_with fail
      go_ret
      exact Or.inl ⟨_, k, HR.out, rfl, H1.out.1, H1.out.2⟩
    · obtain ⟨hn1, hn2⟩ := name_at (wide := wide) (vars := vars) hsc hlet hy hn
      have y1 : (s == [121, 101, 115]) = false := beq_eq_false_iff_ne.2 hy
      have y2 : (s == [110, 111]) = false := beq_eq_false_iff_ne.2 hn
      have H1 : Hid (∀ k : Nat, (k : Int) < vars → k < 4 → nameL k = s → leafRd wide vars s = .ok (2, (k : Int))) := hn1
      have H2 : Hid (vars ≤ 4 → (∀ k : Nat, (k : Int) < vars → nameL k ≠ s) → leafRd wide vars s = .error 5) := hn2
      clear hsc hy hn hn1 hn2 HL hd hlet
      obtain ⟨vn, rfl⟩ := Int.eq_ofNat_of_zero_le hv0
      go_enter Tryz.func90, Tryz.ntmps90
      go_wp2_with fail
      go_loop [20] (fun i => ∃ j : Nat, j ≤ vn ∧ i = .int .i64 j ∧ Hid (∀ k : Nat, k < j → nameL k ≠ s)) (fun i => vn - (intOf i).toNat)
      case atStart => exact ⟨0, by omega, rfl, fun k hk => by omega⟩
      case round =>
        obtain ⟨j, hj, rfl, HJ⟩ := hrel
        by_cases hlt' : j < vn
        · have g := HM.out (j : Int) (w.alloc (.cells #[.int .i64 (p : Int), tx s] 47))
          have ed : decide (0 ≤ (j : Int) ∧ (j : Int) ≤ 3) = true := decide_eq_true (by omega)
          have en : nameT (j : Int) = nameL j := by unfold nameT; rw [if_pos (by omega)]; rfl
          rw [ed, en] at g
          clear ed en
          by_cases hq : nameL j = s
          · have HR : Hid (leafRd wide (vn : Int) s = .ok (2, (j : Int))) := H1.out j (by omega) (by omega) hq
            have gn := HN.out j
            rw [hq] at g
            clear hq HF HN HM H1 H2
            go_wp2_with fail
            refine g.mono ?_
            rintro e w2 ⟨rfl, rfl⟩
            clear g
            go_wp2_with fail
            refine gn.mono ?_
            rintro e w1 ⟨k, rfl, htr, hto⟩
            have H1 : Hid (TrAt w1 (ButB b w1) (.leaf (2, (j : Int))) k ∧ PrTo w w1 b wide (vn : Int) long l 0 0) := ⟨htr, hto⟩
            clear gn htr hto
            go_wp2_with fail
            go_ret
            exact Or.inl ⟨_, k, HR.out, rfl, H1.out.1, H1.out.2⟩
          · have HJ2 : Hid (∀ k : Nat, k < j + 1 → nameL k ≠ s) := fun k hk => by
              by_cases e : k = j
              · subst e; exact hq
              · exact HJ.out k (by omega)
            have hq2 : (nameL j == s) = false := beq_eq_false_iff_ne.2 hq
            clear hq
            generalize nameL j = nj at *
            go_wp2_with fail
            refine g.mono ?_
            rintro e w2 ⟨rfl, rfl⟩
            clear g
            go_wp2_with fail
            go_round
            case rel => exact ⟨j + 1, by omega, by go_num, HJ2⟩
            case measure => simp [intOf]; omega
        · obtain rfl : j = vn := by omega
          have HR : Hid (leafRd wide (j : Int) s = .error 5) := H2.out hv (fun k hk => HJ.out k (by omega))
          have gf : Calls Tryz.prog 63 #[ptr b, .int .i64 5, .int .i64 (p : Int)] (w.alloc (.cells #[.int .i64 (p : Int), tx s] 47)) fun e w' => e = .returned (.pointer none) ∧ PrTo w w' b wide (j : Int) long l 5 (p : Int) := HF.out
          clear HF HN HM H1 H2
          go_wp2_with fail
          refine gf.mono ?_
          rintro e w1 ⟨rfl, hto⟩
          have H1 : Hid (PrTo w w1 b wide (j : Int) long l 5 (p : Int)) := hto
          clear gf hto
          go_wp2_with fail
          go_ret
          exact Or.inr ⟨5, HR.out, rfl, H1.out⟩
end Go.Proofs.YtkfplichekebdaaGreatDoor

namespace Go.Proofs.YtkfplichekebdaaGreatDoor
open Go Go.RowKit
open M
set_option linter.unusedVariables false

theorem trs_keep {w w' : World} {b : Nat} {ts : List Tr} {ps : List Nat} (h : TrsAt w (ButB b w) ts ps) (hk : KeepB b w w') : TrsAt w' (ButB b w') ts ps :=
  TrsAt.frame (fun k h => ⟨Nat.lt_of_lt_of_le h.1 hk.size, h.2⟩) (fun k h => KeepB.same hk h.1 h.2) h
set_option maxRecDepth 100000 in
set_option maxHeartbeats 2000000 in
theorem over_any {w : World} {b : Nat} {wide vars : Int} {long : Nat} {vt : Value} {l : List M.Tok} (h : PrAt w b wide vars long vt l 0 0) (p : Nat) (s : Tx) (ts : List Tr) (ps : List Nat) (v : Value) (hv : PtrsAt w (Old w) v ps) (ht : TrsAt w (ButB b w) ts ps)
    (hm0 : manyOf (opB s) ≠ 0) (hm : manyOf (opB s) = ts.length) (hsz : sizes ts ≤ 1000000) (Y : Prop) (hY : Y ↔ ∀ q ∈ ts, q.kind = partOf (opB s)) :
    Calls Tryz.prog 106 #[ptr b, .agg #[.int .i64 (p : Int), tx s], v] w fun e w' => (Y ∧ ∃ k, e = .returned (ptr k) ∧ TrAt w' (ButB b w') (Tr.over ((opB s : Int), 0) ts) k ∧ PrTo w w' b wide vars long l 0 0) ∨
      (¬ Y ∧ e = .returned (.pointer none) ∧ PrTo w w' b wide vars long l 6 p) := by
  have hA : Below w.heap.size w (w.alloc (.cells #[.int .i64 (p : Int), tx s] 47)) := (Below.refl _ _).alloc (Nat.le_refl _) _
  have hlt := h.lt
  have HO : Hid (∀ w1, Below w.heap.size w w1 → Calls Tryz.prog 105 #[tx s] w1 fun e w' => e = .returned (.int .i64 (opB s : Int)) ∧ w' = w1) := fun w1 hb => opOf_any s w1 (h.laid.below hb).signs
  have HY1 : Hid (Y → ∀ w1, Below w.heap.size w w1 → Calls Tryz.prog 56 #[.agg #[.int .i64 (opB s : Int), .int .u64 0], v] w1 fun e w' => ∃ k, e = .returned (ptr k) ∧ TrAt w' (ButB b w') (Tr.over ((opB s : Int), 0) ts) k ∧ PrTo w w' b wide vars long l 0 0) := fun y w1 hb1 =>
    (nodeOver_made (opB s : Int) 0 ts ps v w1 (ButB b w1) (fun k hk => hk.1) (hv.below hb1) (trs_keep ht (Keep.below _ hb1)) (own_many hm0) hm (hY.1 y) hsz).mono fun e w' ⟨k, he, htr, hb⟩ => ⟨k, he, tr_new (h.later hb1).lt hb.size htr, (prTo_below (h.later hb1) hb).trans (Keep.below _ hb1)⟩
  have HY0 : Hid (¬ Y → ∀ w1, Below w.heap.size w w1 → Calls Tryz.prog 56 #[.agg #[.int .i64 (opB s : Int), .int .u64 0], v] w1 fun e w' => e = .returned (.pointer none) ∧ Below w1.heap.size w1 w') := fun y w1 hb1 =>
    nodeOver_mixed (opB s : Int) 0 ts ps v w1 (ButB b w1) (fun k hk => hk.1) (hv.below hb1) (trs_keep ht (Keep.below _ hb1)) hm (fun g => y (hY.2 g.2)) hsz
  have HF : Hid (∀ w1, Below w.heap.size w w1 → Calls Tryz.prog 63 #[ptr b, .int .i64 6, .int .i64 (p : Int)] w1 fun e w' => e = .returned (.pointer none) ∧ PrTo w w' b wide vars long l 6 (p : Int)) := fun w1 hb => (fail_any (h.later hb) 6 (p : Int)).mono fun e w' ⟨he, hr⟩ => ⟨he, hr.trans (Keep.below _ hb)⟩
  have HA : Hid (Below w.heap.size w (w.alloc (.cells #[.int .i64 (p : Int), tx s] 47))) := hA
  obtain ⟨va, vc, hvs⟩ := hv.shape
  have hlen : ps.length ≤ 9223372036854775807 := hv.1
  clear h hA hv ht hm0 hm hsz hY
  generalize opB s = ob at *
  subst hvs
  go_enter Tryz.func106, Tryz.ntmps106
  go_wp2_with fail
  refine (HO.out _ HA.out).mono ?_
  rintro e w1 ⟨rfl, rfl⟩
  by_cases y : Y
  · have gn := HY1.out y _ HA.out
    clear HO HY0 HF HA HY1
    go_wp2_with fail
    refine gn.mono ?_
    rintro e w2 ⟨k, rfl, htr, hto⟩
    have H1 : Hid (TrAt w2 (ButB b w2) (Tr.over ((ob : Int), 0) ts) k ∧ PrTo w w2 b wide vars long l 0 0) := ⟨htr, hto⟩
    have HYY : Hid Y := y
    clear gn htr hto y
    go_wp2_with fail
    go_ret
    exact Or.inl ⟨HYY.out, k, rfl, H1.out.1, H1.out.2⟩
  · have gn := HY0.out y _ HA.out
    have HYY : Hid (¬ Y) := y
    clear HO HY0 HY1 y
    go_wp2_with fail
    refine gn.mono ?_
    rintro e w2 ⟨rfl, hb2⟩
    have q0 : w2.cell? ⟨w.heap.size, 0, none⟩ = some (.int .i64 (p : Int)) := by rw [hb2.cell (p := ⟨w.heap.size, 0, none⟩) (by simp)]; simp
    have gf := HF.out w2 (HA.out.trans (hb2.mono HA.out.size))
    clear gn hb2 HF HA
    go_wp2_with fail
    refine gf.mono ?_
    rintro e w3 ⟨rfl, hto⟩
    have H1 : Hid (PrTo w w3 b wide vars long l 6 (p : Int)) := hto
    clear gf hto
    go_wp2_with fail
    go_ret
    exact Or.inr ⟨HYY.out, rfl, H1.out⟩
/-- how the program's reader ends -/
def PTermQ (wide vars : Int) (long f b : Nat) (l : List M.Tok) (w : World) (e : Ending) (w' : World) : Prop :=
  (∃ t r k, readT wide vars long f l = .ok (t, r) ∧ e = .returned (ptr k) ∧ TrAt w' (ButB b w') t k ∧ PrTo w w' b wide vars long r 0 0) ∨
  (∃ c p l', readT wide vars long f l = .error (c, p) ∧ e = .returned (.pointer none) ∧ PrTo w w' b wide vars long l' (c : Int) (p : Int))
/-- what the program's reader does with tokens -/
def PTermP (wide vars : Int) (long f : Nat) : Prop := ∀ (w : World) (b : Nat) (vt : Value) (l : List M.Tok), PrAt w b wide vars long vt l 0 0 → (∀ x ∈ l, 1 ≤ x.2.length ∧ x.2.length ≤ 800) → l.length < f →
  Calls Tryz.prog 62 #[ptr b] w (PTermQ wide vars long f b l w)
theorem PTermQ.since {wide vars : Int} {long f b : Nat} {l : List M.Tok} {u w : World} {e : Ending} {w' : World} (h : PTermQ wide vars long f b l w e w') (hk : KeepB b u w) : PTermQ wide vars long f b l u e w' := by
  rcases h with ⟨t, r, k, h1, h2, h3, h4⟩ | ⟨c, p, l', h1, h2, h3⟩
  · exact Or.inl ⟨t, r, k, h1, h2, h3, h4.trans hk⟩
  · exact Or.inr ⟨c, p, l', h1, h2, h3.trans hk⟩
theorem PTermQ.ends {wide vars : Int} {long f b : Nat} {l : List M.Tok} {w : World} {e : Ending} {w' : World} (h : PTermQ wide vars long f b l w e w') : ∃ a, e = .returned (.pointer a) := by
  rcases h with ⟨t, r, k, h1, h2, h3, h4⟩ | ⟨c, p, l', h1, h2, h3⟩
  · exact ⟨_, h2⟩
  · exact ⟨_, h2⟩
/-- one part, as it is handed on -/
theorem one_part {w : World} {b : Nat} {t : Tr} {k : Nat} (hb : b < w.heap.size) (h : TrAt w (ButB b w) t k) :
    PtrsAt (w.alloc (.cells #[ptr k] 49)) (Old (w.alloc (.cells #[ptr k] 49))) (.slice (some ⟨w.heap.size, 0, none⟩) 1 1) [k] ∧ TrsAt (w.alloc (.cells #[ptr k] 49)) (ButB b (w.alloc (.cells #[ptr k] 49))) [t] [k] := by
  have hA : Below w.heap.size w (w.alloc (.cells #[ptr k] 49)) := (Below.refl _ _).alloc (Nat.le_refl _) _
  refine ⟨⟨by simp, Or.inr ⟨w.heap.size, 0, 1, rfl, by simp [Old], fun i c hc => ?_⟩⟩, rfl, fun i a q ha hq => ?_⟩
  · match i, hc with
    | 0, hc =>
      simp at hc
      subst hc
      simp
  · match i, ha, hq with
    | 0, ha, hq =>
      simp at ha hq
      subst ha hq
      exact tr_keep h (Keep.below _ hA)
theorem two_parts {w : World} {b : Nat} {t u : Tr} {k m : Nat} (hb : b < w.heap.size) (h : TrAt w (ButB b w) t k) (h' : TrAt w (ButB b w) u m) :
    PtrsAt (w.alloc (.cells #[ptr k, ptr m] 49)) (Old (w.alloc (.cells #[ptr k, ptr m] 49))) (.slice (some ⟨w.heap.size, 0, none⟩) 2 2) [k, m] ∧ TrsAt (w.alloc (.cells #[ptr k, ptr m] 49)) (ButB b (w.alloc (.cells #[ptr k, ptr m] 49))) [t, u] [k, m] := by
  have hA : Below w.heap.size w (w.alloc (.cells #[ptr k, ptr m] 49)) := (Below.refl _ _).alloc (Nat.le_refl _) _
  refine ⟨⟨by simp, Or.inr ⟨w.heap.size, 0, 2, rfl, by simp [Old], fun i c hc => ?_⟩⟩, rfl, fun i a q ha hq => ?_⟩
  · match i, hc with
    | 0, hc =>
      simp at hc
      subst hc
      simp
    | 1, hc =>
      simp at hc
      subst hc
      simp
  · match i, ha, hq with
    | 0, ha, hq =>
      simp at ha hq
      subst ha hq
      exact tr_keep h (Keep.below _ hA)
    | 1, ha, hq =>
      simp at ha hq
      subst ha hq
      exact tr_keep h' (Keep.below _ hA)
end Go.Proofs.YtkfplichekebdaaGreatDoor

namespace Go.Proofs.YtkfplichekebdaaGreatDoor
open Go
open M
set_option linter.unusedVariables false

section
variable {wide vars : Int} {long f p : Nat} {l : List M.Tok}
theorem pair_err {e : Nat × Nat} (h : readT wide vars long f l = .error e) : readT wide vars long (f + 1) ((p, [40]) :: l) = .error e := by
  simp only [readT]
  rw [if_neg (by decide), if_neg (by decide), if_neg (by simp), h]
theorem pair_end {t : Tr} (h : readT wide vars long f l = .ok (t, [])) : readT wide vars long (f + 1) ((p, [40]) :: l) = .error (3, long) := by
  simp only [readT]
  rw [if_neg (by decide), if_neg (by decide), if_neg (by simp), h]
theorem pair_noop {t : Tr} {y : M.Tok} {r : List M.Tok} (h : readT wide vars long f l = .ok (t, y :: r)) (h0 : opOf y.2 = 0) : readT wide vars long (f + 1) ((p, [40]) :: l) = .error (3, y.1) := by
  simp only [readT]
  rw [if_neg (by decide), if_neg (by decide), if_neg (by simp), h]
  simp only
  rw [if_pos h0]
theorem pair_err2 {t : Tr} {y : M.Tok} {r : List M.Tok} {e : Nat × Nat} (h : readT wide vars long f l = .ok (t, y :: r)) (h0 : opOf y.2 ≠ 0) (h2 : readT wide vars long f r = .error e) : readT wide vars long (f + 1) ((p, [40]) :: l) = .error e := by
  simp only [readT]
  rw [if_neg (by decide), if_neg (by decide), if_neg (by simp), h]
  simp only
  rw [if_neg h0, h2]
theorem pair_take {t u : Tr} {y : M.Tok} {r r3 : List M.Tok} (h : readT wide vars long f l = .ok (t, y :: r)) (h0 : opOf y.2 ≠ 0) (h2 : readT wide vars long f r = .ok (u, r3)) (h3 : ∀ z r4, r3 = z :: r4 → z.2 ≠ [41]) : readT wide vars long (f + 1) ((p, [40]) :: l) = .error (3, placeOf long r3) := by
  simp only [readT]
  rw [if_neg (by decide), if_neg (by decide), if_neg (by simp), h]
  simp only
  rw [if_neg h0, h2]
  match r3, h3 with
  | [], _ => rfl
  | z :: r4, h3 =>
    simp only
    rw [if_pos (h3 z r4 rfl)]
    rfl
theorem pair_kinds {t u : Tr} {y z : M.Tok} {r r4 : List M.Tok} (h : readT wide vars long f l = .ok (t, y :: r)) (h0 : opOf y.2 ≠ 0) (h2 : readT wide vars long f r = .ok (u, z :: r4)) (h3 : z.2 = [41]) :
    readT wide vars long (f + 1) ((p, [40]) :: l) = if t.kind = partOf (opOf y.2) ∧ u.kind = partOf (opOf y.2) then .ok (.two (opOf y.2, 0) t u, r4) else .error (6, y.1) := by
  simp only [readT]
  rw [if_neg (by decide), if_neg (by decide), if_neg (by simp), h]
  simp only
  rw [if_neg h0, h2]
  simp only
  rw [if_neg (by simp [h3])]
end
/-- the op that is found among the first -/
def opAt (l : Tx) (k : Nat) : Nat := if opOf l ≠ 0 ∧ opOf l < k then opOf l else 0
theorem opAt_start (l : Tx) : opAt l 3 = 0 := by
  unfold opAt
  rw [if_neg]
  rintro ⟨h, h2⟩
  have := opOf_range h
  omega
theorem opAt_end (l : Tx) : opAt l 19 = opOf l := by
  unfold opAt
  by_cases h : opOf l = 0
  · rw [if_neg (fun g => g.1 h), h]
  · have := opOf_range h
    rw [if_pos ⟨h, by omega⟩]
theorem opAt_hit {l : Tx} {k : Nat} (h1 : 3 ≤ k) (h2 : k ≤ 18) (h3 : k ≠ 13) (h : signN k = l) : opAt l (k + 1) = k := by
  have e : opOf l = k := by rw [← h]; exact opOf_back h1 h2 h3
  unfold opAt
  rw [if_pos ⟨by omega, by omega⟩, e]
theorem opAt_miss {l : Tx} {k : Nat} (h : signN k ≠ l) : opAt l (k + 1) = opAt l k := by
  have e : opOf l ≠ k ∨ opOf l = 0 := by
    by_cases h0 : opOf l = 0
    · exact Or.inr h0
    · refine Or.inl (fun e => h ?_)
      rw [← e]
      exact (opOf_sign h0).1
  unfold opAt
  by_cases h0 : opOf l = 0
  · rw [if_neg (fun g => g.1 h0), if_neg (fun g => g.1 h0)]
  · by_cases hk : opOf l < k
    · rw [if_pos ⟨h0, by omega⟩, if_pos ⟨h0, hk⟩]
    · rw [if_neg (fun g => by have := g.2; omega), if_neg (fun g => hk g.2)]
theorem opAt_thirteen (l : Tx) : opAt l 14 = opAt l 13 := by
  by_cases h : signN 13 = l
  · have h0 : opOf l = 0 := by rw [← h]; decide
    unfold opAt
    rw [if_neg (fun g => g.1 h0), if_neg (fun g => g.1 h0)]
  · exact opAt_miss h
theorem many_two {k : Nat} (h1 : 3 ≤ k) (h2 : k ≤ 18) (h3 : k ≠ 13) : manyOf (k : Int) = 2 := by
  unfold manyOf
  rw [if_neg (by omega), if_pos (by omega)]
end Go.Proofs.YtkfplichekebdaaGreatDoor

namespace Go.Proofs.YtkfplichekebdaaGreatDoor
open Go Go.RowKit
open M
set_option linter.unusedVariables false

theorem turn_read {wide vars : Int} {long f : Nat} {p : Nat} {s : Tx} {l : List M.Tok} (hs : s = [126] ∨ s = [33]) : readT wide vars long (f + 1) ((p, s) :: l) = match readT wide vars long f l with
      | .error e => .error e
      | .ok (a, r1) => if a.kind = partOf (opOne s) then .ok (.one (opOne s, 0) a, r1) else .error (6, p) := by
  simp only [readT]
  rw [if_neg (by rcases hs with rfl | rfl <;> decide), if_pos hs]
  rfl
/-- a block that is kept -/
theorem cells_keep {w1 w2 : World} {b g : Nat} {o : Obj} (hk : KeepB b w1 w2) (h : w1.heap[g]? = some o) (hb : g ≠ b) : w2.heap[g]? = some o := by
  rw [KeepB.same hk (Array.getElem?_eq_some_iff.1 h).1 hb]
  exact h
set_option maxRecDepth 100000 in
set_option maxHeartbeats 2000000 in
theorem turned_any {wide vars : Int} (hv : vars ≤ 4) {long f : Nat} (ih : PTermP wide vars long f) {w : World} {b : Nat} {vt : Value} {p : Nat} {s : Tx} {l : List M.Tok} (h : PrAt w b wide vars long vt l 0 0) (hs : s = [126] ∨ s = [33]) (hok : ∀ x ∈ l, 1 ≤ x.2.length ∧ x.2.length ≤ 800) (hf : l.length < f) :
    Calls Tryz.prog 88 #[ptr b, .agg #[.int .i64 (p : Int), tx s]] w (PTermQ wide vars long (f + 1) b ((p, s) :: l) w) := by
  have hA : Below w.heap.size w (w.alloc (.cells #[.int .i64 (p : Int), tx s] 47)) := (Below.refl _ _).alloc (Nat.le_refl _) _
  have hlt := h.lt
  have gt := ih _ b _ l (h.later hA) hok hf
  have hlen := h.many
  have HA : Hid (Below w.heap.size w (w.alloc (.cells #[.int .i64 (p : Int), tx s] 47))) := hA
  have HE : Hid (∀ c q l' w2, readT wide vars long f l = .error (c, q) → PrTo (w.alloc (.cells #[.int .i64 (p : Int), tx s] 47)) w2 b wide vars long l' (c : Int) (q : Int) → PTermQ wide vars long (f + 1) b ((p, s) :: l) w (.returned (.pointer none)) w2) := by
    intro c q l' w2 hr hto
    refine Or.inr ⟨c, q, l', ?_, rfl, hto.trans (Keep.below _ HA.out)⟩
    rw [turn_read hs, hr]
  have HO : Hid (∀ (t : Tr) r k w2, readT wide vars long f l = .ok (t, r) → TrAt w2 (ButB b w2) t k → PrTo (w.alloc (.cells #[.int .i64 (p : Int), tx s] 47)) w2 b wide vars long r 0 0 →
      (w2.cell? ⟨w.heap.size, 0, none⟩ = some (.int .i64 (p : Int)) ∧ w2.cell? ⟨w.heap.size, 1, none⟩ = some (tx s)) ∧
      Calls Tryz.prog 106 #[ptr b, .agg #[.int .i64 (p : Int), tx s], .slice (some ⟨w2.heap.size, 0, none⟩) 1 1] (w2.alloc (.cells #[ptr k] 49)) fun e w' => ∃ a, e = .returned (.pointer a) ∧ PTermQ wide vars long (f + 1) b ((p, s) :: l) w (.returned (.pointer a)) w') := by
    intro t r k w2 hr htr hto
    obtain ⟨⟨vt2, h2⟩, hk2⟩ := hto
    obtain ⟨s1, s2, s3, s4⟩ := opOne_sign hs
    have he := opB_one hs
    have hh : w2.heap[w.heap.size]? = some (.cells #[.int .i64 (p : Int), tx s] 47 (0, 0)) := cells_keep hk2 (heap_alloc_new _ _) (by omega)
    refine ⟨⟨by rw [cell_heap hh]; rfl, by rw [cell_heap hh]; rfl⟩, ?_⟩
    obtain ⟨hp1, hp2⟩ := one_part h2.lt htr
    have hB : Below w2.heap.size w2 (w2.alloc (.cells #[ptr k] 49)) := (Below.refl _ _).alloc (Nat.le_refl _) _
    obtain ⟨m, hm, hsz⟩ := readT_front _ _ _ _ _ _ _ hr
    have hml : m.length ≤ l.length := by rw [hm]; simp
    have hKK : KeepB b w (w2.alloc (.cells #[ptr k] 49)) := (Keep.trans (Keep.below _ HA.out) hk2).trans (Keep.below _ hB)
    refine (over_any (h2.later hB) p s [t] [k] _ hp1 hp2 (by rw [he, s2]; decide) (by rw [he, s2]; rfl) (by simp [sizes]; omega) (t.kind = partOf (opOne s)) (by rw [he]; simp)).mono ?_
    rintro e w' (⟨y, k', rfl, htr', hto'⟩ | ⟨y, rfl, hto'⟩)
    · refine ⟨_, rfl, Or.inl ⟨.one ((opOne s : Int), 0) t, r, k', ?_, rfl, ?_, hto'.trans hKK⟩⟩
      · rw [turn_read hs, hr]
        simp only
        exact if_pos y
      · rw [he] at htr'
        exact htr'
    · refine ⟨_, rfl, Or.inr ⟨6, p, r, ?_, rfl, hto'.trans hKK⟩⟩
      rw [turn_read hs, hr]
      simp only
      exact if_neg y
  clear h hA hok hf ih hs
  go_enter Tryz.func88, Tryz.ntmps88
  go_wp2_with fail
  refine gt.mono ?_
  rintro e w2 (⟨t, r, k, hr, rfl, htr, hto⟩ | ⟨c, q, l', hr, rfl, hto⟩)
  · obtain ⟨⟨q0, q1⟩, g⟩ := HO.out t r k w2 hr htr hto
    clear gt HO HE hr htr hto
    go_wp2_with fail
    refine g.mono ?_
    rintro e w3 ⟨a, rfl, hq⟩
    have HQ : Hid (PTermQ wide vars long (f + 1) b ((p, s) :: l) w (.returned (.pointer a)) w3) := hq
    clear g hq
    go_wp2_with fail
    go_ret
    exact HQ.out
  · have HQ : Hid (PTermQ wide vars long (f + 1) b ((p, s) :: l) w (.returned (.pointer none)) w2) := HE.out c q l' w2 hr hto
    clear gt HO HE hr hto
    go_wp2_with fail
    go_ret
    exact HQ.out
end Go.Proofs.YtkfplichekebdaaGreatDoor

namespace Go.Proofs.YtkfplichekebdaaGreatDoor
open Go Go.RowKit
open M
set_option linter.unusedVariables false

theorem head_close (long : Nat) (r5 : List M.Tok) : (headT r5 = [41] → r5 = (placeOf long r5, [41]) :: r5.tail) ∧ (headT r5 ≠ [41] → ∀ z r4, r5 = z :: r4 → z.2 ≠ [41]) := by
  match r5 with
  | [] =>
    refine ⟨fun e => ?_, fun _ z r4 e => ?_⟩
    · cases e
    · cases e
  | z :: r4 =>
    refine ⟨fun e => ?_, fun e z' r' e' => ?_⟩
    · rw [← e]
      rfl
    · cases e'
      exact e
set_option maxRecDepth 100000 in
set_option maxHeartbeats 4000000 in
theorem joined_any {wide vars : Int} (hv : vars ≤ 4) {long f : Nat} (ih : PTermP wide vars long f) {w : World} {b : Nat} {vt : Value} {p : Nat} {l : List M.Tok} (h : PrAt w b wide vars long vt l 0 0) (hok : ∀ x ∈ l, 1 ≤ x.2.length ∧ x.2.length ≤ 800) (hf : l.length < f) :
    Calls Tryz.prog 87 #[ptr b] w (PTermQ wide vars long (f + 1) b ((p, [40]) :: l) w) := by
  have gt := ih w b _ l h hok hf
  have hmany := h.many
  have hlt := h.lt
  have HE : Hid (∀ c q l' w2, readT wide vars long f l = .error (c, q) → PrTo w w2 b wide vars long l' (c : Int) (q : Int) → PTermQ wide vars long (f + 1) b ((p, [40]) :: l) w (.returned (.pointer none)) w2) := fun c q l' w2 hr hto => Or.inr ⟨c, q, l', pair_err hr, rfl, hto⟩
  have HL : Hid (l.length ≤ 1000 ∧ (∀ x ∈ l, 1 ≤ x.2.length ∧ x.2.length ≤ 800) ∧ l.length < f) := ⟨hmany, hok, hf⟩
  have HIH : Hid (PTermP wide vars long f) := ih
  clear h hok hf ih hmany
  go_enter Tryz.func87, Tryz.ntmps87
  go_wp2_with fail
  refine gt.mono ?_
  rintro e w2 (⟨t, r, k, hr, rfl, htr, hto⟩ | ⟨c, q, l', hr, rfl, hto⟩)
  · obtain ⟨⟨vt2, h2⟩, hk2⟩ := hto
    obtain ⟨m1, hm1, hsz1⟩ := readT_front _ _ _ _ _ _ _ hr
    have HM1 : Hid (l = m1 ++ r) := hm1
    have gk := ptake_any h2
    have HS : Hid (TrAt w2 (ButB b w2) t k ∧ KeepB b w w2) := ⟨htr, hk2⟩
    clear gt HE htr hk2 h2 hm1
    have HR1 : Hid (opOf (headT r) = 0 → readT wide vars long (f + 1) ((p, [40]) :: l) = .error (3, placeOf long r)) := by
      intro h0
      match r, hr, h0 with
      | [], hr, h0 => exact pair_end hr
      | y :: r2, hr, h0 => exact pair_noop hr h0
    have HR2 : Hid (opOf (headT r) ≠ 0 → r = (placeOf long r, headT r) :: r.tail) := by
      intro h0
      match r, h0 with
      | [], h0 => exact absurd (by decide) h0
      | y :: r2, h0 => rfl
    have HRR : Hid (readT wide vars long f l = .ok (t, r)) := hr
    have htl : r.tail.length ≤ l.length := by rw [HM1.out]; simp; omega
    have HTL : Hid (r.tail.length + 1 + m1.length ≤ l.length ∨ r = []) := by
      match r, HM1 with
      | [], _ => exact Or.inr rfl
      | y :: r2, HM1 => exact Or.inl (by rw [HM1.out]; simp; omega)
    have HOK2 : Hid (∀ x ∈ r.tail, 1 ≤ x.2.length ∧ x.2.length ≤ 800) := fun x hx => HL.out.2.1 x (by rw [HM1.out]; exact List.mem_append_right _ (List.mem_of_mem_tail hx))
    clear hr
    generalize hrt : r.tail = rt at *
    generalize hP : placeOf long r = P at *
    generalize hS : headT r = S at *
    have HRT : Hid (r.tail = rt) := hrt
    clear hrt hP hS
    go_wp2_with fail
    refine gk.mono ?_
    rintro e w3 ⟨rfl, hto3⟩
    obtain ⟨⟨vt3, h3⟩, hk3⟩ := hto3
    have hlt3 := h3.lt
    have hA3 : Below w3.heap.size w3 (w3.alloc (.cells #[.int .i64 (P : Int), tx S] 47)) := (Below.refl _ _).alloc (Nat.le_refl _) _
    have HA3 : Hid (Below w3.heap.size w3 (w3.alloc (.cells #[.int .i64 (P : Int), tx S] 47))) := hA3
    have HK3 : Hid (KeepB b w (w3.alloc (.cells #[.int .i64 (P : Int), tx S] 47))) := (Keep.trans HS.out.2 hk3).trans (Keep.below _ hA3)
    have HT3 : Hid (TrAt (w3.alloc (.cells #[.int .i64 (P : Int), tx S] 47)) (ButB b (w3.alloc (.cells #[.int .i64 (P : Int), tx S] 47))) t k) := tr_keep (tr_keep HS.out.1 hk3) (Keep.below _ hA3)
    have go := opOf_any S _ (h3.later hA3).laid.signs
    have gs := shapeOf_any (opB S) (w3.alloc (.cells #[.int .i64 (P : Int), tx S] 47))
    have gf := fail_any (h3.later hA3) 3 (P : Int)
    have GF : Hid (opOf S = 0 → Calls Tryz.prog 63 #[ptr b, .int .i64 3, .int .i64 (P : Int)] (w3.alloc (.cells #[.int .i64 (P : Int), tx S] 47)) fun e w' => e = .returned (.pointer none) ∧ PTermQ wide vars long (f + 1) b ((p, [40]) :: l) w (.returned (.pointer none)) w') := fun h0 => gf.mono fun e w' ⟨he, hr⟩ => ⟨he, Or.inr ⟨3, P, _, HR1.out h0, rfl, hr.trans HK3.out⟩⟩
    have HP3 : Hid (PrAt (w3.alloc (.cells #[.int .i64 (P : Int), tx S] 47)) b wide vars long vt3 rt 0 0) := h3.later hA3
    have HOB : Hid ((opOf S = 0 → manyOf (opB S) ≠ 2) ∧ (opOf S ≠ 0 → opB S = opOf S ∧ manyOf (opB S) = 2)) := opB_two S
    clear gk hk3 hA3 h3 gf HS
    generalize hmo : manyOf (opB S : Int) = mo at *
    generalize wantOf (opB S : Int) = wo at *
    generalize ownOf (opB S : Int) = oo at *
    generalize hob : opB S = ob at *
    have HOBE : Hid (opB S = ob ∧ manyOf (ob : Int) = mo) := ⟨hob, hmo⟩
    clear hob hmo
    go_wp2_with fail
    refine go.mono ?_
    rintro e w4 ⟨rfl, rfl⟩
    clear go
    go_wp2_with fail
    refine gs.mono ?_
    rintro e w4 ⟨rfl, rfl⟩
    clear gs
    by_cases h0 : opOf S = 0
    · have hm2 : mo ≠ 2 := HOB.out.1 h0
      have hmb : ((mo : Int) != 2) = true := bne_iff_ne.2 (by omega)
      have gf := GF.out h0
      clear GF HOB HR1 HR2 HRR HT3 HP3 HIH HTL HOK2 HL
      go_wp2_with fail
      refine gf.mono ?_
      rintro e w5 ⟨rfl, hq⟩
      have HQ : Hid (PTermQ wide vars long (f + 1) b ((p, [40]) :: l) w (.returned (.pointer none)) w5) := hq
      clear gf hq
      go_wp2_with fail
      go_ret
      exact HQ.out
    · have hm2 : mo = 2 := (HOB.out.2 h0).2
      subst hm2
      have HRE : Hid (r = (P, S) :: rt) := HR2.out h0
      have HLL : Hid (rt.length + 1 + m1.length ≤ l.length) := by
        rcases HTL.out with h | h
        · exact h
        · have h2 := HRE.out
          rw [h] at h2
          cases h2
      have HRD : Hid (readT wide vars long f l = .ok (t, (P, S) :: rt)) := by
        have h1 := HRR.out
        rw [HRE.out] at h1
        exact h1
      have HBO : Hid (ob = opOf S ∧ opOf S ≠ 0) := ⟨(HOB.out.2 h0).1, h0⟩
      have gt2 := HIH.out _ b _ rt HP3.out HOK2.out (by have := HLL.out; have := HL.out.2.2; omega)
      clear GF HOB HR1 HR2 HRR HTL HP3 HIH h0 HRE HRT
      go_wp2_with fail
      refine gt2.mono ?_
      rintro e w5 (⟨u, r5, k5, hr5, rfl, htr5, hto5⟩ | ⟨c, q, l', hr5, rfl, hto5⟩)
      · obtain ⟨⟨vt5, h5⟩, hk5⟩ := hto5
        obtain ⟨m2, hm2, hsz2⟩ := readT_front _ _ _ _ _ _ _ hr5
        have HM2 : Hid (m2.length ≤ rt.length) := by
          show m2.length ≤ rt.length
          rw [hm2]; simp
        have hh : w5.heap[w3.heap.size]? = some (.cells #[.int .i64 (P : Int), tx S] 47 (0, 0)) := cells_keep hk5 (heap_alloc_new _ _) (by omega)
        have HH : Hid (w5.heap[w3.heap.size]? = some (.cells #[.int .i64 (P : Int), tx S] 47 (0, 0))) := hh
        have hlt35 : w3.heap.size < w5.heap.size := (Array.getElem?_eq_some_iff.1 hh).1
        have gk := ptake_any h5
        have HK5 : Hid (KeepB b w w5) := Keep.trans HK3.out hk5
        have HT5 : Hid (TrAt w5 (ButB b w5) t k ∧ TrAt w5 (ButB b w5) u k5) := ⟨tr_keep HT3.out hk5, htr5⟩
        have HRU : Hid (readT wide vars long f rt = .ok (u, r5)) := hr5
        have HZ : Hid ((headT r5 = [41] → r5 = (placeOf long r5, [41]) :: r5.tail) ∧ (headT r5 ≠ [41] → ∀ z r4, r5 = z :: r4 → z.2 ≠ [41])) := head_close long r5
        clear gt2 hk5 htr5 hr5 hm2 h5 HT3 HK3 hh
        generalize hP5 : placeOf long r5 = P5 at *
        generalize hS5 : headT r5 = S5 at *
        generalize hrt5 : r5.tail = rt5 at *
        have HP5 : Hid (placeOf long r5 = P5) := hP5
        clear hP5 hS5 hrt5
        go_wp2_with fail
        refine gk.mono ?_
        rintro e w6 ⟨rfl, hto6⟩
        obtain ⟨⟨vt6, h6⟩, hk6⟩ := hto6
        have hlt6 := h6.lt
        have hh6 : w6.heap[w3.heap.size]? = some (.cells #[.int .i64 (P : Int), tx S] 47 (0, 0)) := cells_keep hk6 HH.out (by omega)
        have hlt36 : w3.heap.size < w6.heap.size := (Array.getElem?_eq_some_iff.1 hh6).1
        have q0 : w6.cell? ⟨w3.heap.size, 0, none⟩ = some (.int .i64 (P : Int)) := by rw [cell_heap hh6]; rfl
        have q1 : w6.cell? ⟨w3.heap.size, 1, none⟩ = some (tx S) := by rw [cell_heap hh6]; rfl
        have hA6 : Below w6.heap.size w6 (w6.alloc (.cells #[.int .i64 (P5 : Int), tx S5] 47)) := (Below.refl _ _).alloc (Nat.le_refl _) _
        have HK6 : Hid (KeepB b w (w6.alloc (.cells #[.int .i64 (P5 : Int), tx S5] 47))) := (Keep.trans HK5.out hk6).trans (Keep.below _ hA6)
        by_cases hz : S5 = [41]
        · have HT6 := tr_keep (tr_keep HT5.out.1 hk6) (Keep.below _ hA6)
          have HU6 := tr_keep (tr_keep HT5.out.2 hk6) (Keep.below _ hA6)
          obtain ⟨hp1, hp2⟩ := two_parts (h6.later hA6).lt HT6 HU6
          have hB : Below (w6.alloc (.cells #[.int .i64 (P5 : Int), tx S5] 47)).heap.size (w6.alloc (.cells #[.int .i64 (P5 : Int), tx S5] 47)) ((w6.alloc (.cells #[.int .i64 (P5 : Int), tx S5] 47)).alloc (.cells #[ptr k, ptr k5] 49)) := (Below.refl _ _).alloc (Nat.le_refl _) _
          have hrd : readT wide vars long (f + 1) ((p, [40]) :: l) = if t.kind = partOf (opOf S) ∧ u.kind = partOf (opOf S) then .ok (.two ((opOf S : Int), 0) t u, rt5) else .error (6, P) := pair_kinds HRD.out HBO.out.2 (by rw [HRU.out, HZ.out.1 hz]) rfl
          have gov := over_any ((h6.later hA6).later hB) P S [t, u] [k, k5] _ hp1 hp2 (by rw [HOBE.out.1, HOBE.out.2]; decide) (by rw [HOBE.out.1, HOBE.out.2]; rfl) (by have := HLL.out; have := HM2.out; have := HL.out.1; simp [sizes]; omega) (t.kind = partOf (opOf S) ∧ u.kind = partOf (opOf S)) (by rw [HOBE.out.1, HBO.out.1]; simp)
          have hsz : (w6.alloc (.cells #[.int .i64 (P5 : Int), tx S5] 47)).heap.size = w6.heap.size + 1 := by simp
          rw [hsz] at gov
          have GOV : Hid (Calls Tryz.prog 106 #[ptr b, .agg #[.int .i64 (P : Int), tx S], .slice (some ⟨w6.heap.size + 1, 0, none⟩) 2 2] ((w6.alloc (.cells #[.int .i64 (P5 : Int), tx S5] 47)).alloc (.cells #[ptr k, ptr k5] 49)) fun e w' => ∃ a, e = .returned (.pointer a) ∧ PTermQ wide vars long (f + 1) b ((p, [40]) :: l) w (.returned (.pointer a)) w') := by
            refine gov.mono ?_
            have hKK : KeepB b w ((w6.alloc (.cells #[.int .i64 (P5 : Int), tx S5] 47)).alloc (.cells #[ptr k, ptr k5] 49)) := Keep.trans HK6.out (Keep.below _ hB)
            rintro e w' (⟨y, k', rfl, htr', hto'⟩ | ⟨y, rfl, hto'⟩)
            · refine ⟨_, rfl, Or.inl ⟨.two ((opOf S : Int), 0) t u, rt5, k', ?_, rfl, ?_, hto'.trans hKK⟩⟩
              · rw [hrd, if_pos y]
              · rw [HOBE.out.1, HBO.out.1] at htr'
                exact htr'
            · refine ⟨_, rfl, Or.inr ⟨6, P, rt5, ?_, rfl, hto'.trans hKK⟩⟩
              rw [hrd, if_neg y]
          clear gk hk6 h6 HT6 HU6 hp1 hp2 hB hrd gov hsz hA6 HK6 HT5 HK5 HRU HZ HRD HBO HOBE HLL HM2 HL HH hh6 HP5
          subst hz
          go_wp2_with fail
          refine (Hid.out GOV).mono ?_
          rintro e w7 ⟨a, rfl, hq⟩
          have HQ : Hid (PTermQ wide vars long (f + 1) b ((p, [40]) :: l) w (.returned (.pointer a)) w7) := hq
          clear GOV hq
          go_wp2_with fail
          go_ret
          exact HQ.out
        · have gf := fail_any (h6.later hA6) 3 (P5 : Int)
          have GF : Hid (Calls Tryz.prog 63 #[ptr b, .int .i64 3, .int .i64 (P5 : Int)] (w6.alloc (.cells #[.int .i64 (P5 : Int), tx S5] 47)) fun e w' => e = .returned (.pointer none) ∧ PTermQ wide vars long (f + 1) b ((p, [40]) :: l) w (.returned (.pointer none)) w') := gf.mono fun e w' ⟨he, hr⟩ => ⟨he, Or.inr ⟨3, P5, _, by rw [pair_take HRD.out HBO.out.2 HRU.out (HZ.out.2 hz), HP5.out], rfl, hr.trans HK6.out⟩⟩
          have hzb : (S5 == [41]) = false := beq_eq_false_iff_ne.2 hz
          clear gk hk6 h6 hA6 HK6 HT5 HK5 HRU HZ HRD HBO HOBE HLL HM2 HL HH hh6 HP5 gf hz
          go_wp2_with fail
          refine (Hid.out GF).mono ?_
          rintro e w7 ⟨rfl, hq⟩
          have HQ : Hid (PTermQ wide vars long (f + 1) b ((p, [40]) :: l) w (.returned (.pointer none)) w7) := hq
          clear GF hq
          go_wp2_with fail
          go_ret
          exact HQ.out
      · have HQ : Hid (PTermQ wide vars long (f + 1) b ((p, [40]) :: l) w (.returned (.pointer none)) w5) := Or.inr ⟨c, q, l', pair_err2 HRD.out HBO.out.2 hr5, rfl, hto5.trans HK3.out⟩
        clear gt2 hr5 hto5 HRD HBO HK3 HT3 HL HOK2 HLL
        go_wp2_with fail
        go_ret
        exact HQ.out
  · have HQ : Hid (PTermQ wide vars long (f + 1) b ((p, [40]) :: l) w (.returned (.pointer none)) w2) := HE.out c q l' w2 hr hto
    clear gt HE HL HIH hr hto
    go_wp2_with fail
    go_ret
    exact HQ.out
end Go.Proofs.YtkfplichekebdaaGreatDoor

namespace Go.Proofs.YtkfplichekebdaaGreatDoor
open Go Go.RowKit
open M
set_option linter.unusedVariables false

/-- what is known behind the first token -/
structure Hd (w w3 : World) (b : Nat) (wide vars : Int) (long : Nat) (l : List M.Tok) (P : Nat) (S : Tx) : Prop where
  at_ : ∃ vt, PrAt (w3.alloc (.cells #[.int .i64 (P : Int), tx S] 47)) b wide vars long vt l 0 0
  keep : KeepB b w (w3.alloc (.cells #[.int .i64 (P : Int), tx S] 47))
  low : 0 < w3.heap.size
  flip : w3.cell? ⟨0, 13, none⟩ = some (tx [126])
  no : w3.cell? ⟨0, 19, none⟩ = some (tx [33])
theorem hd_of {w w3 : World} {b : Nat} {wide vars : Int} {long : Nat} {l : List M.Tok} (h : PrTo w w3 b wide vars long l 0 0) (P : Nat) (S : Tx) : Hd w w3 b wide vars long l P S := by
  obtain ⟨⟨vt, h3⟩, hk⟩ := h
  have hA : Below w3.heap.size w3 (w3.alloc (.cells #[.int .i64 (P : Int), tx S] 47)) := (Below.refl _ _).alloc (Nat.le_refl _) _
  exact ⟨⟨vt, h3.later hA⟩, Keep.trans hk (Keep.below _ hA), h3.laid.signs.lt, h3.laid.signs.cell 13 (by omega), h3.laid.signs.cell 19 (by omega)⟩
set_option maxRecDepth 100000 in
set_option maxHeartbeats 2000000 in
theorem pterm_pair {wide vars : Int} (hv : vars ≤ 4) {long f : Nat} (ih : PTermP wide vars long f) {w : World} {b : Nat} {vt : Value} {p : Nat} {l : List M.Tok} (h : PrAt w b wide vars long vt ((p, [40]) :: l) 0 0) (hok : ∀ x ∈ l, 1 ≤ x.2.length ∧ x.2.length ≤ 800) (hf : l.length < f) :
    Calls Tryz.prog 62 #[ptr b] w (PTermQ wide vars long (f + 1) b ((p, [40]) :: l) w) := by
  have gk := take_cons h
  have HJ : Hid (∀ w3, PrTo w w3 b wide vars long l 0 0 → Calls Tryz.prog 87 #[ptr b] (w3.alloc (.cells #[.int .i64 (p : Int), tx [40]] 47)) fun e w' => ∃ a, e = .returned (.pointer a) ∧ PTermQ wide vars long (f + 1) b ((p, [40]) :: l) w (.returned (.pointer a)) w') := fun w3 hto => by
    have hd := hd_of hto p [40]
    obtain ⟨vt3, h3⟩ := hd.at_
    refine (joined_any (p := p) hv ih h3 hok hf).mono ?_
    intro e w' hq
    obtain ⟨a, rfl⟩ := hq.ends
    exact ⟨a, rfl, hq.since hd.keep⟩
  clear h ih hok hf
  go_enter Tryz.func62, Tryz.ntmps62
  go_wp2_with fail
  refine gk.mono ?_
  rintro e w3 ⟨rfl, hto⟩
  have gj := HJ.out w3 hto
  clear gk HJ hto
  go_wp2_with fail
  refine gj.mono ?_
  rintro e w4 ⟨a, rfl, hq⟩
  have HQ : Hid (PTermQ wide vars long (f + 1) b ((p, [40]) :: l) w (.returned (.pointer a)) w4) := hq
  clear gj hq
  go_wp2_with fail
  go_ret
  exact HQ.out
set_option maxRecDepth 100000 in
set_option maxHeartbeats 2000000 in
theorem pterm_turn {wide vars : Int} (hv : vars ≤ 4) {long f : Nat} (ih : PTermP wide vars long f) {w : World} {b : Nat} {vt : Value} {p : Nat} {s : Tx} {l : List M.Tok} (h : PrAt w b wide vars long vt ((p, s) :: l) 0 0) (hs : s = [126] ∨ s = [33]) (hok : ∀ x ∈ l, 1 ≤ x.2.length ∧ x.2.length ≤ 800) (hf : l.length < f) :
    Calls Tryz.prog 62 #[ptr b] w (PTermQ wide vars long (f + 1) b ((p, s) :: l) w) := by
  have gk := take_cons h
  have HJ : Hid (∀ w3, PrTo w w3 b wide vars long l 0 0 → Calls Tryz.prog 88 #[ptr b, .agg #[.int .i64 (p : Int), tx s]] (w3.alloc (.cells #[.int .i64 (p : Int), tx s] 47)) fun e w' => ∃ a, e = .returned (.pointer a) ∧ PTermQ wide vars long (f + 1) b ((p, s) :: l) w (.returned (.pointer a)) w') := fun w3 hto => by
    have hd := hd_of hto p s
    obtain ⟨vt3, h3⟩ := hd.at_
    refine (turned_any (p := p) hv ih h3 hs hok hf).mono ?_
    intro e w' hq
    obtain ⟨a, rfl⟩ := hq.ends
    exact ⟨a, rfl, hq.since hd.keep⟩
  have HH : Hid (∀ w3, PrTo w w3 b wide vars long l 0 0 → 0 < w3.heap.size ∧ w3.cell? ⟨0, 13, none⟩ = some (tx [126]) ∧ w3.cell? ⟨0, 19, none⟩ = some (tx [33])) := fun w3 hto => ⟨(hd_of hto 0 []).low, (hd_of hto 0 []).flip, (hd_of hto 0 []).no⟩
  clear h ih hok hf
  rcases hs with rfl | rfl
  · go_enter Tryz.func62, Tryz.ntmps62
    go_wp2_with fail
    refine gk.mono ?_
    rintro e w3 ⟨rfl, hto⟩
    have gj := HJ.out w3 hto
    obtain ⟨glow, s13, s19⟩ := HH.out w3 hto
    clear gk HJ hto HH
    go_wp2_with fail
    refine gj.mono ?_
    rintro e w4 ⟨a, rfl, hq⟩
    have HQ : Hid (PTermQ wide vars long (f + 1) b ((p, [126]) :: l) w (.returned (.pointer a)) w4) := hq
    clear gj hq
    go_wp2_with fail
    go_ret
    exact HQ.out
  · go_enter Tryz.func62, Tryz.ntmps62
    go_wp2_with fail
    refine gk.mono ?_
    rintro e w3 ⟨rfl, hto⟩
    have gj := HJ.out w3 hto
    obtain ⟨glow, s13, s19⟩ := HH.out w3 hto
    clear gk HJ hto HH
    go_wp2_with fail
    refine gj.mono ?_
    rintro e w4 ⟨a, rfl, hq⟩
    have HQ : Hid (PTermQ wide vars long (f + 1) b ((p, [33]) :: l) w (.returned (.pointer a)) w4) := hq
    clear gj hq
    go_wp2_with fail
    go_ret
    exact HQ.out
set_option maxRecDepth 100000 in
set_option maxHeartbeats 4000000 in
theorem pterm_other {wide vars : Int} (hv : vars ≤ 4) (hv0 : 0 ≤ vars) {long f : Nat} {w : World} {b : Nat} {vt : Value} {l0 l : List M.Tok} (P : Nat) (S : Tx) (gk : Calls Tryz.prog 86 #[ptr b] w fun e w' => e = .returned (.agg #[.int .i64 (P : Int), tx S]) ∧ PrTo w w' b wide vars long l 0 0)
    (hs : S.length ≤ 800) (h1 : S ≠ [40]) (h2 : S ≠ [126]) (h3 : S ≠ [33]) (hR1 : isLeaf S = true → readT wide vars long (f + 1) l0 = match leafRd wide vars S with | .error c => .error (c, P) | .ok nd => .ok (.leaf nd, l)) (hR2 : isLeaf S = false → readT wide vars long (f + 1) l0 = .error (3, P)) :
    Calls Tryz.prog 62 #[ptr b] w (PTermQ wide vars long (f + 1) b l0 w) := by
  have HJ : Hid (∀ w3 w4, PrTo w w3 b wide vars long l 0 0 → Below (w3.alloc (.cells #[.int .i64 (P : Int), tx S] 47)).heap.size (w3.alloc (.cells #[.int .i64 (P : Int), tx S] 47)) w4 → ∃ vt4, PrAt w4 b wide vars long vt4 l 0 0 ∧ KeepB b w w4 ∧ w4.cell? ⟨w3.heap.size, 0, none⟩ = some (.int .i64 (P : Int)) ∧ w4.cell? ⟨w3.heap.size, 1, none⟩ = some (tx S)) := fun w3 w4 hto hb => by
    have hd := hd_of hto P S
    obtain ⟨vt3, h3⟩ := hd.at_
    refine ⟨vt3, h3.later hb, Keep.trans hd.keep (Keep.below _ hb), ?_, ?_⟩
    · rw [hb.cell (p := ⟨w3.heap.size, 0, none⟩) (by simp)]
      simp
    · rw [hb.cell (p := ⟨w3.heap.size, 1, none⟩) (by simp)]
      simp
  have HH : Hid (∀ w3, PrTo w w3 b wide vars long l 0 0 → 0 < w3.heap.size ∧ w3.cell? ⟨0, 13, none⟩ = some (tx [126]) ∧ w3.cell? ⟨0, 19, none⟩ = some (tx [33])) := fun w3 hto => ⟨(hd_of hto 0 []).low, (hd_of hto 0 []).flip, (hd_of hto 0 []).no⟩
  have n1 : (S == [40]) = false := beq_eq_false_iff_ne.2 h1
  have n2 : (S == [126]) = false := beq_eq_false_iff_ne.2 h2
  have n3 : (S == [33]) = false := beq_eq_false_iff_ne.2 h3
  have GD : Hid (∀ w1, Calls Tryz.prog 79 #[tx S] w1 fun e w' => e = .returned (.int .i64 ((S.takeWhile isDig).length : Int)) ∧ Below w1.heap.size w1 w') := fun w1 => digitsSize_any S (by omega) w1
  have GL : Hid (∀ w1, Calls Tryz.prog 80 #[tx S] w1 fun e w' => e = .returned (.int .i64 ((S.takeWhile isLet).length : Int)) ∧ Below w1.heap.size w1 w') := fun w1 => lettersSize_any S (by omega) w1
  have HDd : Hid ((0 < (S.takeWhile isDig).length → ∃ ch q, S = ch :: q ∧ isDig ch = true) ∧ (¬ 0 < (S.takeWhile isDig).length → 0 < (S.takeWhile isLet).length → ∃ ch q, S = ch :: q ∧ isDig ch = false ∧ isLet ch = true) ∧ (¬ 0 < (S.takeWhile isDig).length → ¬ 0 < (S.takeWhile isLet).length → isLeaf S = false)) := by
    match S with
    | [] => exact ⟨fun h => by simp at h, fun _ h => by simp at h, fun _ _ => rfl⟩
    | ch :: q =>
      cases hd : isDig ch with
      | true => exact ⟨fun _ => ⟨ch, q, rfl, hd⟩, fun h => absurd (by simp [List.takeWhile, hd]) h, fun h => absurd (by simp [List.takeWhile, hd]) h⟩
      | false =>
        cases hl : isLet ch with
        | true => exact ⟨fun h => by simp [List.takeWhile, hd] at h, fun _ _ => ⟨ch, q, rfl, hd, hl⟩, fun _ h => absurd (by simp [List.takeWhile, hl]) h⟩
        | false => exact ⟨fun h => by simp [List.takeWhile, hd] at h, fun _ h => by simp [List.takeWhile, hl] at h, fun _ _ => by simp [isLeaf, hd, hl]⟩
  have HR1 : Hid (isLeaf S = true → readT wide vars long (f + 1) l0 = match leafRd wide vars S with | .error c => .error (c, P) | .ok nd => .ok (.leaf nd, l)) := hR1
  have HR2 : Hid (isLeaf S = false → readT wide vars long (f + 1) l0 = .error (3, P)) := hR2
  have hdl : (S.takeWhile isDig).length ≤ 800 := Nat.le_trans (List.takeWhile_sublist _).length_le hs
  have hll : (S.takeWhile isLet).length ≤ 800 := Nat.le_trans (List.takeWhile_sublist _).length_le hs
  clear hR1 hR2 h1 h2 h3
  generalize (S.takeWhile isDig).length = nd at *
  generalize (S.takeWhile isLet).length = nl at *
  go_enter Tryz.func62, Tryz.ntmps62
  go_wp2_with fail
  refine gk.mono ?_
  rintro e w3 ⟨rfl, hto⟩
  obtain ⟨glow, s13, s19⟩ := HH.out w3 hto
  have HTO : Hid (PrTo w w3 b wide vars long l 0 0) := hto
  clear gk hto HH
  go_wp2_with fail
  refine (GD.out _).mono ?_
  rintro e w4 ⟨rfl, hb4⟩
  obtain ⟨vt4, h4, hk4, q0, q1⟩ := HJ.out w3 w4 HTO.out hb4
  have HB4 : Hid (Below (w3.alloc (.cells #[.int .i64 (P : Int), tx S] 47)).heap.size (w3.alloc (.cells #[.int .i64 (P : Int), tx S] 47)) w4) := hb4
  by_cases hnd : 0 < nd
  · obtain ⟨ch, q, hS, hdig⟩ := HDd.out.1 hnd
    have hlf : isLeaf S = true := by rw [hS]; simp [isLeaf, hdig]
    have hrd := HR1.out hlf
    have GN : Hid (Calls Tryz.prog 89 #[ptr b, .agg #[.int .i64 (P : Int), tx S]] w4 fun e w' => ∃ a, e = .returned (.pointer a) ∧ PTermQ wide vars long (f + 1) b l0 w (.returned (.pointer a)) w') := by
      refine (number_any h4 P S hs).mono ?_
      have hlr : leafRd wide vars S = if isNum S = true ∧ goodB wide (readN S) = true then .ok (1, (readN S : Int)) else .error 4 := by
        rw [hS]
        simp only [leafRd]
        rw [if_pos hdig]
      rintro e w' (⟨y, k, rfl, htr, hto'⟩ | ⟨y, rfl, hto'⟩)
      · exact ⟨_, rfl, Or.inl ⟨_, l, k, by rw [hrd, hlr, if_pos y], rfl, htr, hto'.trans hk4⟩⟩
      · exact ⟨_, rfl, Or.inr ⟨4, P, l, by rw [hrd, hlr, if_neg y], rfl, hto'.trans hk4⟩⟩
    have hnd' : (0 : Int) < (nd : Int) := by omega
    clear h4 hk4 hb4 HJ HR1 HR2 HDd GL GD HTO hS hlf hrd hnd
    go_wp2_with fail
    refine (Hid.out GN).mono ?_
    rintro e w5 ⟨a, rfl, hq⟩
    have HQ : Hid (PTermQ wide vars long (f + 1) b l0 w (.returned (.pointer a)) w5) := hq
    clear GN hq
    go_wp2_with fail
    go_ret
    exact HQ.out
  · have hnd' : decide ((0 : Int) < (nd : Int)) = false := decide_eq_false (by omega)
    have hnd0 : nd = 0 := by omega
    subst hnd0
    clear h4 hk4 hb4
    go_wp2_with fail
    refine (GL.out _).mono ?_
    rintro e w5 ⟨rfl, hb5⟩
    obtain ⟨vt5, h5, hk5, r0, r1⟩ := HJ.out w3 w5 HTO.out (HB4.out.trans (hb5.mono HB4.out.size))
    by_cases hnl : 0 < nl
    · obtain ⟨ch, q, hS, hdig, hlet⟩ := HDd.out.2.1 (by omega) hnl
      have hlf : isLeaf S = true := by rw [hS]; simp [isLeaf, hlet]
      have hrd := HR1.out hlf
      have GN : Hid (Calls Tryz.prog 90 #[ptr b, .agg #[.int .i64 (P : Int), tx S]] w5 fun e w' => ∃ a, e = .returned (.pointer a) ∧ PTermQ wide vars long (f + 1) b l0 w (.returned (.pointer a)) w') := by
        refine (named_any h5 P S hs hv hv0 hS hlet).mono ?_
        rintro e w' (⟨x, k, hx, rfl, htr, hto'⟩ | ⟨c, hx, rfl, hto'⟩)
        · exact ⟨_, rfl, Or.inl ⟨_, l, k, by rw [hrd, hx], rfl, htr, hto'.trans hk5⟩⟩
        · exact ⟨_, rfl, Or.inr ⟨c, P, l, by rw [hrd, hx], rfl, hto'.trans hk5⟩⟩
      have hnl' : (0 : Int) < (nl : Int) := by omega
      clear h5 hk5 hb5 HJ HR1 HR2 HDd GL GD HTO HB4 hS hlf hrd hnl
      go_wp2_with fail
      refine (Hid.out GN).mono ?_
      rintro e w6 ⟨a, rfl, hq⟩
      have HQ : Hid (PTermQ wide vars long (f + 1) b l0 w (.returned (.pointer a)) w6) := hq
      clear GN hq
      go_wp2_with fail
      go_ret
      exact HQ.out
    · have hrd := HR2.out (HDd.out.2.2 (by omega) hnl)
      have GF : Hid (Calls Tryz.prog 63 #[ptr b, .int .i64 3, .int .i64 (P : Int)] w5 fun e w' => e = .returned (.pointer none) ∧ PTermQ wide vars long (f + 1) b l0 w (.returned (.pointer none)) w') := (fail_any h5 3 (P : Int)).mono fun e w' ⟨he, hr⟩ => ⟨he, Or.inr ⟨3, P, l, hrd, rfl, hr.trans hk5⟩⟩
      have hnl0 : nl = 0 := by omega
      subst hnl0
      clear h5 hk5 hb5 HJ HR1 HR2 HDd GL GD HTO HB4 hrd
      go_wp2_with fail
      refine (Hid.out GF).mono ?_
      rintro e w6 ⟨rfl, hq⟩
      have HQ : Hid (PTermQ wide vars long (f + 1) b l0 w (.returned (.pointer none)) w6) := hq
      clear GF hq
      go_wp2_with fail
      go_ret
      exact HQ.out
end Go.Proofs.YtkfplichekebdaaGreatDoor
