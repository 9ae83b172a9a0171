/-
  The state of a number: plain mathematics.
  The program's terms as they lie in memory: nodes that are pointed to, each with a row of pointers to its parts; S holds of all blocks that a tree uses.
  What an op takes and is, whether a node's number is as its op wants it, how many variables there may be: the program's shapeOf, goodN, goodVars.
  A node over its parts: the program's nodeOver.
  A node over parts of which one is none or of another kind: the program's nodeOver answers none.
  The tree of a term: the program's rootOf.
  The walk of the exact law of JoinTerms, out of what the program's own function does.
  The nodes of a tree laid in a row: the program's layBehind and nodesOf, and with them TurnTerm and JoinTerms.
  The program's nodesOf, TurnTerm and JoinTerms.
  The walk of the exact law of VarsIn, out of what the program's own function does.
  The variables of a tree: the program's nameVars, hasVars and VarsIn.
  What an op makes of its parts' values: the program's numberOf, holdsOf and bitOf.
  The walk of the exact law of ValueOf, out of what the program's own function does.
  What a tree comes to in a state: the program's value and ValueOf.
  The walk of the exact law of FoldTerm, out of what the program's own function does.
  A tree that is folded: the program's hasVars, leafOf, fold and FoldTerm.
  The program's leafOf, fold and FoldTerm.
  The tree of a term, all of it new: the program's rootOf, told once more with where its nodes lie.
  The program's rootOfKind at numbers and conditions, changeRoots (whether all changes are good).
  The program's rootsOf: whether a program is good, and where its wide and variables lie then; GoodProgram, IsSmall.
  The program's changeRoots: its answer whole, rows and trees.
-/
import Derived.Test.YtpgojamabmpjnaaDoorKP121
import Derived.Test.YtpgojamabmpjnaaDoorKind
import Derived.Test.YtpgojamabmpjnaaDoorOwn2
import Derived.Test.YtpgojamabmpjnaaDoorNodes
import Derived.Handy
import Derived.Test.YtpgojamabmpjnaaDoorLGood
import Derived.Maps.AppendAt
import Derived.Test.YtpgojamabmpjnaaDoorJoin
import Derived.Test.YtpgojamabmpjnaaDoorLTurn
import Derived.Test.YtpgojamabmpjnaaDoorFold2
import Derived.Test.YtpgojamabmpjnaaDoorVars
import Derived.Test.YtpgojamabmpjnaaDoorVal2
import Derived.Test.YtpgojamabmpjnaaDoorU64
import Derived.Test.YtpgojamabmpjnaaDoorFold5
import Derived.Test.YtpgojamabmpjnaaDoorProgOwn
namespace Go.Proofs.YtpgojamabmpjnaaDoor
open Go Go.RowKit
open M
set_option linter.unusedVariables false

/-- word v of the state of a number -/
def ofW (k : Nat) (no : Int) (v : Nat) : Int := no / 2 ^ (k * v) % 2 ^ k
/-- the state of a number -/
def ofL (k vars : Nat) (no : Int) : List Int := (List.range vars).map (ofW k no)
theorem ofL_len (k vars : Nat) (no : Int) : (ofL k vars no).length = vars := by simp [ofL]
theorem ofL_succ (k j : Nat) (no : Int) : ofL k (j + 1) no = ofL k j no ++ [ofW k no j] := by simp [ofL, List.range_succ]
theorem ofW_in (k : Nat) (no : Int) (v : Nat) : 0 ≤ ofW k no v ∧ ofW k no v < 2 ^ k := ⟨Int.emod_nonneg _ (by have := two_pos k; omega), Int.emod_lt_of_pos _ (two_pos k)⟩
theorem ofL_mem {k vars : Nat} {no : Int} : ∀ s ∈ ofL k vars no, 0 ≤ s ∧ s < 2 ^ k := by
  intro s hs
  obtain ⟨v, _, rfl⟩ := List.mem_map.1 hs
  exact ofW_in k no v
theorem two_mono {a b : Nat} (h : a ≤ b) : (2 : Int) ^ a ≤ 2 ^ b := by
  rw [pw_int, pw_int]
  exact pw_mono _ _ h
/-- behind its last word a number is nothing -/
theorem ofW_high {k vars v : Nat} {no : Int} (h0 : 0 ≤ no) (h1 : no < 2 ^ (k * vars)) (hv : vars ≤ v) : ofW k no v = 0 := by
  have hm : (2 : Int) ^ (k * vars) ≤ 2 ^ (k * v) := two_mono (Nat.mul_le_mul_left k hv)
  unfold ofW
  rw [Int.ediv_eq_zero_of_lt h0 (by omega)]
  simp
theorem padW_ofL {k vars : Nat} {no : Int} (h0 : 0 ≤ no) (h1 : no < 2 ^ (k * vars)) (v : Nat) : padW (ofL k vars no) v = ofW k no v := by
  unfold padW
  rw [List.getD_eq_getElem?_getD]
  by_cases hv : v < vars
  · simp [ofL, hv]
  · rw [ofW_high h0 h1 (by omega), List.getElem?_eq_none (by rw [ofL_len]; omega)]
    rfl
theorem shr_two (a : Int) (n : Nat) : a >>> n = a / 2 ^ n := by
  rw [Int.shiftRight_eq_div_pow]
  simp
end Go.Proofs.YtpgojamabmpjnaaDoor

namespace Go.Proofs.YtpgojamabmpjnaaDoor
open Go Go.RowKit
open M
set_option linter.unusedVariables false

abbrev ptr (b : Nat) : Value := .pointer (some ⟨b, 0, none⟩)
abbrev ptrs (bs : List Nat) : List Value := bs.map ptr
/-- a slice whose elements point to these blocks -/
def PtrsAt (w : World) (S : Nat → Prop) (v : Value) (bs : List Nat) : Prop :=
  bs.length ≤ 9223372036854775807 ∧ ((bs = [] ∧ ∃ (a : Option Addr) (cap : Nat), v = .slice a 0 cap) ∨
  ∃ g off cap : Nat, v = .slice (some ⟨g, off, none⟩) bs.length cap ∧ S g ∧ ∀ (i b : Nat), bs[i]? = some b → w.cell? ⟨g, off + i, none⟩ = some (ptr b))
/-- a node in memory: its op, its number, its kind, its size, its parts -/
def NodeAt (w : World) (S : Nat → Prop) (b : Nat) (x : Nd) (kind : Int) (size : Nat) (ps : List Nat) : Prop :=
  S b ∧ w.cell? ⟨b, 0, none⟩ = some (.int .i64 x.1) ∧ w.cell? ⟨b, 1, none⟩ = some (.int .u64 x.2) ∧ w.cell? ⟨b, 2, none⟩ = some (.int .i64 kind) ∧ w.cell? ⟨b, 3, none⟩ = some (.int .i64 size) ∧
  ∃ v, w.cell? ⟨b, 4, none⟩ = some v ∧ PtrsAt w S v ps
def TrAt (w : World) (S : Nat → Prop) : Tr → Nat → Prop
  | .leaf x, b => NodeAt w S b x (ownOf x.1) 1 []
  | .one x a, b => ∃ p, NodeAt w S b x (ownOf x.1) (Tr.one x a).size [p] ∧ TrAt w S a p
  | .two x a c, b => ∃ p q, NodeAt w S b x (ownOf x.1) (Tr.two x a c).size [p, q] ∧ TrAt w S a p ∧ TrAt w S c q
/-- trees side by side -/
def TrsAt (w : World) (S : Nat → Prop) (l : List Tr) (ps : List Nat) : Prop := l.length = ps.length ∧ ∀ (i : Nat) (a : Tr) (p : Nat), l[i]? = some a → ps[i]? = some p → TrAt w S a p
theorem PtrsAt.frame {w w' : World} {S S' : Nat → Prop} {v : Value} {bs : List Nat} (h : PtrsAt w S v bs) (hs : ∀ k, S k → S' k) (hk : ∀ k, S k → w'.heap[k]? = w.heap[k]?) : PtrsAt w' S' v bs := by
  obtain ⟨h1, h2⟩ := h
  refine ⟨h1, ?_⟩
  rcases h2 with h2 | ⟨g, off, cap, hv, hg, hc⟩
  · exact Or.inl h2
  · refine Or.inr ⟨g, off, cap, hv, hs g hg, fun i b hb => ?_⟩
    rw [World.cell?_of_block (w := w) (a := ⟨g, off + i, none⟩) (hk g hg)]
    exact hc i b hb
theorem NodeAt.frame {w w' : World} {S S' : Nat → Prop} {b : Nat} {x : Nd} {kind : Int} {size : Nat} {ps : List Nat} (h : NodeAt w S b x kind size ps) (hs : ∀ k, S k → S' k) (hk : ∀ k, S k → w'.heap[k]? = w.heap[k]?) : NodeAt w' S' b x kind size ps := by
  obtain ⟨h0, h1, h2, h3, h4, v, h5, h6⟩ := h
  have hb := hk b h0
  exact ⟨hs b h0, by rw [World.cell?_of_block (w := w) (a := ⟨b, 0, none⟩) hb]; exact h1, by rw [World.cell?_of_block (w := w) (a := ⟨b, 1, none⟩) hb]; exact h2, by rw [World.cell?_of_block (w := w) (a := ⟨b, 2, none⟩) hb]; exact h3, by rw [World.cell?_of_block (w := w) (a := ⟨b, 3, none⟩) hb]; exact h4, v, by rw [World.cell?_of_block (w := w) (a := ⟨b, 4, none⟩) hb]; exact h5, h6.frame hs hk⟩
theorem TrAt.frame {w w' : World} {S S' : Nat → Prop} (hs : ∀ k, S k → S' k) (hk : ∀ k, S k → w'.heap[k]? = w.heap[k]?) : ∀ {t : Tr} {b : Nat}, TrAt w S t b → TrAt w' S' t b
  | .leaf x, b, h => NodeAt.frame h hs hk
  | .one x a, b, ⟨p, h1, h2⟩ => ⟨p, h1.frame hs hk, TrAt.frame hs hk h2⟩
  | .two x a c, b, ⟨p, q, h1, h2, h3⟩ => ⟨p, q, h1.frame hs hk, TrAt.frame hs hk h2, TrAt.frame hs hk h3⟩
theorem TrsAt.frame {w w' : World} {S S' : Nat → Prop} {l : List Tr} {ps : List Nat} (hs : ∀ k, S k → S' k) (hk : ∀ k, S k → w'.heap[k]? = w.heap[k]?) (h : TrsAt w S l ps) : TrsAt w' S' l ps :=
  ⟨h.1, fun i a p ha hp => TrAt.frame hs hk (h.2 i a p ha hp)⟩
theorem trAt_open {w : World} {S : Nat → Prop} {t : Tr} {b : Nat} (h : TrAt w S t b) : ∃ ps, NodeAt w S b t.nd t.kind t.size ps ∧ TrsAt w S t.parts ps := by
  cases t with
  | leaf x => exact ⟨[], h, rfl, fun i a p ha _ => by simp [Tr.parts] at ha⟩
  | one x a =>
    obtain ⟨p, h1, h2⟩ := h
    refine ⟨[p], h1, rfl, fun i c q hc hq => ?_⟩
    match i with
    | 0 =>
      simp [Tr.parts] at hc hq
      subst hc hq
      exact h2
    | i + 1 => simp at hq
  | two x a c =>
    obtain ⟨p, q, h1, h2, h3⟩ := h
    refine ⟨[p, q], h1, rfl, fun i d r hd hr => ?_⟩
    match i with
    | 0 =>
      simp [Tr.parts] at hd hr
      subst hd hr
      exact h2
    | 1 =>
      simp [Tr.parts] at hd hr
      subst hd hr
      exact h3
    | i + 2 => simp at hr
theorem trAt_shut {w : World} {S : Nat → Prop} {x : Nd} {l : List Tr} {b : Nat} {ps : List Nat} (hl : l.length ≤ 2) (h : NodeAt w S b x (ownOf x.1) (1 + sizes l) ps) (hp : TrsAt w S l ps) : TrAt w S (Tr.over x l) b := by
  obtain ⟨h1, h2⟩ := hp
  match l, hl, ps, h, h1, h2 with
  | [], _, [], h, _, _ => exact h
  | [a], _, [p], h, _, h2 => exact ⟨p, h, h2 0 a p rfl rfl⟩
  | [a, c], _, [p, q], h, _, h2 =>
    have e : 1 + sizes [a, c] = (Tr.two x a c).size := by simp only [sizes, Tr.size]; omega
    rw [e] at h
    exact ⟨p, q, h, h2 0 a p rfl rfl, h2 1 c q rfl rfl⟩
  | _ :: _ :: _ :: _, hl, _, _, _, _ => simp at hl
/-- all that lies in a world -/
abbrev Old (w : World) : Nat → Prop := fun k => k < w.heap.size
/-- all that lies in a world but the block of a row -/
abbrev OldBut (w : World) (v : Value) : Nat → Prop := fun k => k < w.heap.size ∧ some k ≠ v.ownBlock
theorem TrAt.below {w w' : World} {t : Tr} {b : Nat} (h : TrAt w (Old w) t b) (hb : Below w.heap.size w w') : TrAt w' (Old w') t b :=
  TrAt.frame (fun k hk => Nat.lt_of_lt_of_le hk hb.size) (fun k hk => hb.block k hk) h
theorem TrsAt.below {w w' : World} {l : List Tr} {ps : List Nat} (h : TrsAt w (Old w) l ps) (hb : Below w.heap.size w w') : TrsAt w' (Old w') l ps :=
  TrsAt.frame (fun k hk => Nat.lt_of_lt_of_le hk hb.size) (fun k hk => hb.block k hk) h
theorem PtrsAt.below {w w' : World} {v : Value} {bs : List Nat} (h : PtrsAt w (Old w) v bs) (hb : Below w.heap.size w w') : PtrsAt w' (Old w') v bs :=
  PtrsAt.frame h (fun k hk => Nat.lt_of_lt_of_le hk hb.size) (fun k hk => hb.block k hk)
/-- a row that is owned points -/
theorem ptrs_of_own {w : World} {B : Nat} {v : Value} {bs : List Nat} (h : w.ownsRow B 72 1 v bs.length (ptrs bs)) (hl : bs.length ≤ 9223372036854775807) : PtrsAt w (Old w) v bs := by
  refine ⟨hl, ?_⟩
  rcases h.2 with ⟨rfl, h0⟩ | ⟨g, cap, cur, rfl, hg, hh, _, _, _, ht⟩
  · exact Or.inl ⟨List.length_eq_zero_iff.1 h0, none, 0, rfl⟩
  · refine Or.inr ⟨g, 0, cap, rfl, (Array.getElem?_eq_some_iff.1 hh).1, fun i b hb => ?_⟩
    have hc := h.cells (g := g) rfl i (ptr b) (by simp [ptrs, hb])
    rw [show ((⟨g, 0, none⟩ : Addr).add i) = ⟨g, 0 + i, none⟩ from by unfold Addr.add; split <;> simp_all] at hc
    exact hc
theorem heap_set {w : World} {b o : Nat} {v : Value} {c : Array Value} {e : TypeId} {f : Nat × Nat} (h : w.heap[b]? = some (.cells c e f)) : (w.setCell ⟨b, o, none⟩ v).heap[b]? = some (.cells (c.setIfInBounds o v) e f) := by
  simp [World.setCell, Array.getElem?_modify, h]
theorem cell_heap {w : World} {b o : Nat} {c : Array Value} {e : TypeId} {f : Nat × Nat} (h : w.heap[b]? = some (.cells c e f)) : w.cell? ⟨b, o, none⟩ = c[o]? := by
  simp [World.cell?, h]
end Go.Proofs.YtpgojamabmpjnaaDoor

namespace Go.Proofs.YtpgojamabmpjnaaDoor
open Go Go.RowKit
open M
set_option linter.unusedVariables false

/-- the kind of an op's parts; 0 where it has none -/
def wantOf (op : Int) : Int := if manyOf op = 0 then 0 else partOf op
theorem wantOf_part {op : Int} (h : manyOf op ≠ 0) : wantOf op = partOf op := by unfold wantOf; rw [if_neg h]
set_option maxHeartbeats 2000000 in
theorem shapeOf_any (op : Int) (w : World) :
    Calls Tryd.prog 75 #[.int .i64 op] w fun e w' => e = .returned (.tuple #[.int .i64 (manyOf op), .int .i64 (wantOf op), .int .i64 (ownOf op)]) ∧ w' = w := by
  by_cases h : 1 ≤ op ∧ op ≤ 20
  · rcases (show op = 1 ∨ op = 2 ∨ op = 3 ∨ op = 4 ∨ op = 5 ∨ op = 6 ∨ op = 7 ∨ op = 8 ∨ op = 9 ∨ op = 10 ∨ op = 11 ∨ op = 12 ∨ op = 13 ∨ op = 14 ∨ op = 15 ∨ op = 16 ∨ op = 17 ∨ op = 18 ∨ op = 19 ∨ op = 20 by omega) with rfl | rfl | rfl | rfl | rfl | rfl | rfl | rfl | rfl | rfl | rfl | rfl | rfl | rfl | rfl | rfl | rfl | rfl | rfl | rfl
    all_goals
      go_enter Tryd.func75, Tryd.ntmps75
      go_wp2
      go_ret3
      exact ⟨rfl, rfl⟩
  · have hm : manyOf op = 0 := by unfold manyOf; (repeat' split) <;> omega
    have hw : wantOf op = 0 := by unfold wantOf; rw [if_pos hm]
    have ho : ownOf op = 0 := by unfold ownOf; (repeat' split) <;> omega
    rw [hm, hw, ho]
    clear hm hw ho
    have e1 : (op == 1) = false := beq_eq_false_iff_ne.2 (by omega)
    have e2 : (op == 2) = false := beq_eq_false_iff_ne.2 (by omega)
    have e3 : (op == 3) = false := beq_eq_false_iff_ne.2 (by omega)
    have e4 : (op == 4) = false := beq_eq_false_iff_ne.2 (by omega)
    have e5 : (op == 5) = false := beq_eq_false_iff_ne.2 (by omega)
    have e6 : (op == 6) = false := beq_eq_false_iff_ne.2 (by omega)
    have e7 : (op == 7) = false := beq_eq_false_iff_ne.2 (by omega)
    have e8 : (op == 8) = false := beq_eq_false_iff_ne.2 (by omega)
    have e9 : (op == 9) = false := beq_eq_false_iff_ne.2 (by omega)
    have e10 : (op == 10) = false := beq_eq_false_iff_ne.2 (by omega)
    have e11 : (op == 11) = false := beq_eq_false_iff_ne.2 (by omega)
    have e12 : (op == 12) = false := beq_eq_false_iff_ne.2 (by omega)
    have e13 : (op == 13) = false := beq_eq_false_iff_ne.2 (by omega)
    have e14 : (op == 14) = false := beq_eq_false_iff_ne.2 (by omega)
    have e15 : (op == 15) = false := beq_eq_false_iff_ne.2 (by omega)
    have e16 : (op == 16) = false := beq_eq_false_iff_ne.2 (by omega)
    have e17 : (op == 17) = false := beq_eq_false_iff_ne.2 (by omega)
    have e18 : (op == 18) = false := beq_eq_false_iff_ne.2 (by omega)
    have e19 : (op == 19) = false := beq_eq_false_iff_ne.2 (by omega)
    have e20 : (op == 20) = false := beq_eq_false_iff_ne.2 (by omega)
    clear h
    go_enter Tryd.func75, Tryd.ntmps75
    go_wp2
    go_ret3
    exact ⟨rfl, rfl⟩
theorem goodVars_yes (vars : Int) (h : 1 ≤ vars ∧ vars ≤ 4) (w : World) :
    Calls Tryd.prog 74 #[.int .i64 vars] w fun e w' => e = .returned (.bool true) ∧ w' = w := by
  obtain ⟨h1, h2⟩ := h
  have hd : decide (vars ≤ 4) = true := decide_eq_true h2
  go_enter Tryd.func74, Tryd.ntmps74
  go_wp2
  go_ret
  exact ⟨ret_bool (by first | rfl | exact hd), rfl⟩
theorem goodVars_no (vars : Int) (h : ¬ (1 ≤ vars ∧ vars ≤ 4)) (w : World) :
    Calls Tryd.prog 74 #[.int .i64 vars] w fun e w' => e = .returned (.bool false) ∧ w' = w := by
  by_cases h1 : 1 ≤ vars
  · have hd : decide (vars ≤ 4) = false := decide_eq_false (by omega)
    go_enter Tryd.func74, Tryd.ntmps74
    go_wp2
    go_ret
    exact ⟨ret_bool (by first | rfl | exact hd), rfl⟩
  · go_enter Tryd.func74, Tryd.ntmps74
    go_wp2
    go_ret
    exact ⟨rfl, rfl⟩
set_option maxHeartbeats 1000000 in
theorem goodN_any (wide vars op n : Int) (hv0 : 0 ≤ vars) (hv1 : vars ≤ 9223372036854775807) (h0 : 0 ≤ n) (h1 : n ≤ 18446744073709551615) (w : World) (hT : Tab w) :
    Calls Tryd.prog 76 #[.int .i64 wide, .int .i64 vars, .agg #[.int .i64 op, .int .u64 n]] w fun e w' => e = .returned (.bool (okN wide vars op n)) ∧ Below w.heap.size w w' := by
  unfold okN
  have h0w : 0 < w.heap.size := by
    have h0 := hT 0 (by omega)
    by_cases hb : 0 < w.heap.size
    · exact hb
    · have e : w.heap[0]? = none := Array.getElem?_eq_none (by omega)
      simp [World.cell?, e] at h0
  have hb : Below w.heap.size w (w.alloc (.cells #[.int .i64 op, .int .u64 n] 65)) := (Below.refl _ _).alloc (Nat.le_refl _) _
  by_cases c1 : op = 1
  · rw [if_pos c1]
    subst c1
    have hT2 : Tab (w.alloc (.cells #[.int .i64 1, .int .u64 n] 65)) := by
      intro k hk
      rw [hb.cell (p := ⟨0, k, none⟩) h0w]
      exact hT k hk
    have g := iGoodWord_any wide n (w.alloc (.cells #[.int .i64 1, .int .u64 n] 65)) hT2
    generalize goodB wide n = z at *
    have HB : Hid (Below w.heap.size w (w.alloc (.cells #[.int .i64 1, .int .u64 n] 65))) := hb
    clear hb hT2 hT
    go_enter Tryd.func76, Tryd.ntmps76
    go_wp2_with fail
    refine g.mono ?_
    rintro e w' ⟨rfl, rfl⟩
    clear g
    go_wp2_with fail
    go_ret
    exact ⟨rfl, HB.out⟩
  · rw [if_neg c1]
    have e1 : (op == 1) = false := beq_eq_false_iff_ne.2 c1
    have HB : Hid (Below w.heap.size w (w.alloc (.cells #[.int .i64 op, .int .u64 n] 65))) := hb
    clear hb hT
    by_cases c2 : op = 2
    · rw [if_pos c2]
      subst c2
      go_enter Tryd.func76, Tryd.ntmps76
      go_wp2_with fail
      go_ret
      exact ⟨rfl, HB.out⟩
    · rw [if_neg c2]
      have e2 : (op == 2) = false := beq_eq_false_iff_ne.2 c2
      by_cases c3 : op = 20
      · rw [if_pos c3]
        subst c3
        have hd : decide (n < 2) = decide (n ≤ 1) := by
          by_cases h : n < 2
          · rw [decide_eq_true h, decide_eq_true (by omega)]
          · rw [decide_eq_false h, decide_eq_false (by omega)]
        rw [hd]
        clear hd
        go_enter Tryd.func76, Tryd.ntmps76
        go_wp2_with fail
        go_ret
        exact ⟨rfl, HB.out⟩
      · rw [if_neg c3]
        have e3 : (op == 20) = false := beq_eq_false_iff_ne.2 c3
        clear c1 c2 c3
        go_enter Tryd.func76, Tryd.ntmps76
        go_wp2_with fail
        go_ret
        exact ⟨rfl, HB.out⟩
end Go.Proofs.YtpgojamabmpjnaaDoor

namespace Go.Proofs.YtpgojamabmpjnaaDoor
open Go Go.RowKit
open M
set_option linter.unusedVariables false

theorem infoPtr : (Tryd.prog.info? 72).map (fun i => (i.zero, i.size, i.bytes)) = some (some (.pointer none), 1, 8) := by kernel_rfl
set_option maxRecDepth 100000 in
theorem nodeOver_shape (op n : Int) (a : Option Addr) (len cap : Nat) (hl : len ≤ 9223372036854775807) (h : ownOf op = 0 ∨ len ≠ manyOf op) (w : World) :
    Calls Tryd.prog 77 #[.agg #[.int .i64 op, .int .u64 n], .slice a len cap] w fun e w' => e = .returned (.pointer none) ∧ Below w.heap.size w w' := by
  have g := fun w1 => shapeOf_any op w1
  have HB : Hid (Below w.heap.size w (w.alloc (.cells #[.int .i64 op, .int .u64 n] 65))) := (Below.refl _ _).alloc (Nat.le_refl _) _
  by_cases h0 : ownOf op = 0
  · rw [h0] at g
    clear h h0
    generalize manyOf op = mm at *
    generalize wantOf op = ww at *
    go_enter Tryd.func77, Tryd.ntmps77
    go_wp2_with fail
    refine (g _).mono ?_
    rintro e w' ⟨rfl, rfl⟩
    clear g
    go_wp2_with fail
    go_ret
    exact ⟨rfl, HB.out⟩
  · have e0 : (ownOf op == 0) = false := beq_eq_false_iff_ne.2 h0
    have hne : ((len : Int) != ((manyOf op : Nat) : Int)) = true := bne_iff_ne.2 (by rcases h with h | h; exact absurd h h0; omega)
    have hm := manyOf_le op
    clear h h0
    generalize manyOf op = mm at *
    generalize wantOf op = ww at *
    generalize ownOf op = oo at *
    go_enter Tryd.func77, Tryd.ntmps77
    go_wp2_with fail
    refine (g _).mono ?_
    rintro e w' ⟨rfl, rfl⟩
    clear g
    go_wp2_with fail
    go_ret
    exact ⟨rfl, HB.out⟩
theorem onePtr_cells (w : World) (p : Nat) : ∀ (j : Nat) (u : Value), ([ptr p] : List Value)[j]? = some u → (w.alloc (.cells #[ptr p] 72)).cell? ((⟨w.heap.size, 0, none⟩ : Addr).add j) = some u := by
  intro j u hu
  match j, hu with
  | 0, hu => simp at hu; subst hu; simp [Addr.add]
theorem cell_otherBlock {w : World} {b o b' o' : Nat} {v : Value} (h : b ≠ b') : (w.setCell ⟨b, o, none⟩ v).cell? ⟨b', o', none⟩ = w.cell? ⟨b', o', none⟩ :=
  World.cell?_of_block (w := w) (a := ⟨b', o', none⟩) (Below.heap_setCell _ _ _ _ (fun e => h e.symm))
theorem frozen_heap {w : World} {b o : Nat} {c : Array Value} {e : TypeId} (h : w.heap[b]? = some (.cells c e (0, 0))) : w.frozen? ⟨b, o, none⟩ = false := by
  simp [World.frozen?, h]
theorem sizes_take {l : List Tr} {j : Nat} {a : Tr} (h : l[j]? = some a) : sizes (l.take (j + 1)) = sizes (l.take j) + a.size := by
  rw [List.take_add_one, h, sizes_append]
  simp [sizes]
theorem sizes_le (l : List Tr) (j : Nat) : sizes (l.take j) ≤ sizes l := by
  have h := sizes_append (l.take j) (l.drop j)
  rw [List.take_append_drop] at h
  omega
set_option maxRecDepth 100000 in
set_option maxHeartbeats 2000000 in
theorem nodeOver_yes (op n : Int) (l : List Tr) (ps : List Nat) (ad : Option Addr) (cap : Nat) (w : World) (S : Nat → Prop) (hS : ∀ k, S k → k < w.heap.size)
    (hc : ∀ (i b : Nat), ps[i]? = some b → ∃ g off : Nat, ad = some ⟨g, off, none⟩ ∧ g < w.heap.size ∧ w.cell? ⟨g, off + i, none⟩ = some (ptr b)) (ht : TrsAt w S l ps) (hown : ¬ ownOf op = 0) (hm : manyOf op = l.length) (hk : ∀ q ∈ l, q.kind = partOf op) (hsz : sizes l ≤ 1000000) :
    Calls Tryd.prog 77 #[.agg #[.int .i64 op, .int .u64 n], .slice ad ps.length cap] w fun e w' => ∃ b, e = .returned (ptr b) ∧ TrAt w' (fun k => S k ∨ (w.heap.size ≤ k ∧ k < w'.heap.size)) (Tr.over (op, n) l) b ∧ Below w.heap.size w w' := by
  have g0 := fun w1 => shapeOf_any op w1
  have hm2 := manyOf_le op
  have hl := ht.1
  have e0 : (ownOf op == 0) = false := beq_eq_false_iff_ne.2 hown
  have hlm : ps.length = manyOf op := by omega
  have HW : Hid (manyOf op ≠ 0 → wantOf op = partOf op) := fun h => wantOf_part h
  have HC : Hid _ := hc
  have HT : Hid _ := ht
  have HS : Hid _ := hS
  have HK : Hid _ := hk
  obtain ⟨i0, hi, hz0, hz1, hz2⟩ := info_parts infoPtr
  clear hc ht hS hk hown
  generalize hmm : manyOf op = mm at *
  generalize hww : wantOf op = ww at *
  generalize hpp : partOf op = pp at *
  generalize hoo : ownOf op = oo at *
  have HOO : Hid (ownOf op = oo) := hoo
  have HLL : Hid (l.length ≤ 2) := (by omega : l.length ≤ 2)
  clear hmm hww hpp hoo hl hm
  subst hlm
  go_enter Tryd.func77, Tryd.ntmps77
  go_wp2_with fail
  refine (g0 _).mono ?_
  rintro e w' ⟨rfl, rfl⟩
  clear g0
  go_wp2_with fail
  go_loopw [32] (fun i wr => ∃ (j : Nat) (sv : Value), j ≤ ps.length ∧ i = .int .i64 j ∧ Hid (wr.heap[w.heap.size + 1]? = some (.cells #[.int .i64 op, .int .u64 n, .int .i64 oo, .int .i64 ((1 + sizes (l.take j) : Nat) : Int), sv] 100 (0, 0))) ∧ Hid (wr.ownsRow (w.heap.size + 2) 72 1 sv j (ptrs (ps.take j))) ∧ Hid (Below w.heap.size w wr)) (fun i _ => ps.length - (intOf i).toNat)
  case atStart =>
    refine ⟨0, .slice none 0 0, by omega, rfl, ?_, World.ownsRow_nil _ _ _ _, ?_⟩
    · have e : (w.alloc (.cells #[.int .i64 op, .int .u64 n] 65)).heap.size = w.heap.size + 1 := by simp
      show ((w.alloc (.cells #[.int .i64 op, .int .u64 n] 65)).heap.push _)[w.heap.size + 1]? = _
      rw [← e, Array.getElem?_push_size]
      simp [sizes]
    · exact ((Below.refl _ _).alloc (Nat.le_refl _) _).alloc (by simp) _
  case round =>
    obtain ⟨j, sv, hj, rfl, HH, HO, HB⟩ := hrel
    by_cases hlt' : j < ps.length
    · obtain ⟨p, hp⟩ : ∃ p, ps[j]? = some p := ⟨ps[j], List.getElem?_eq_getElem hlt'⟩
      obtain ⟨a, ha⟩ : ∃ a, l[j]? = some a := ⟨l[j]'(by have := HT.out.1; omega), List.getElem?_eq_getElem _⟩
      obtain ⟨g, off, rfl, hlt, c0⟩ := HC.out j p hp
      rw [← HB.out.cell (p := ⟨g, off + j, none⟩) hlt] at c0
      have htr := HT.out.2 j a p ha hp
      obtain ⟨qs, hn, _⟩ := trAt_open (TrAt.frame (S' := S) (fun k hk => hk) (fun k hk => HB.out.block k (HS.out k hk)) htr)
      obtain ⟨hSp, _, _, n2, n3, _⟩ := hn
      have hkq := HK.out a (List.mem_of_getElem? ha)
      have hww := HW.out (by omega)
      rw [hkq, ← hww] at n2
      have hsa : 1 + sizes (l.take j) + a.size ≤ 1000001 := by
        have h1 := sizes_take ha
        have h2 := sizes_le l (j + 1)
        omega
      have HE : Hid (1 + sizes (l.take (j + 1)) = 1 + sizes (l.take j) + a.size) := by
        show 1 + sizes (l.take (j + 1)) = 1 + sizes (l.take j) + a.size
        rw [sizes_take ha]
        omega
      have HP : Hid (ptrs (ps.take (j + 1)) = ptrs (ps.take j) ++ [ptr p]) := by
        show ptrs (ps.take (j + 1)) = ptrs (ps.take j) ++ [ptr p]
        rw [List.take_add_one, hp]
        simp [ptrs]
      have d3 := cell_heap (o := 3) HH.out
      have d4 := cell_heap (o := 4) HH.out
      simp only [List.getElem?_toArray, List.getElem?_cons_succ, List.getElem?_cons_zero] at d3 d4
      have hmlt : w.heap.size + 1 < wr.heap.size := (Array.getElem?_eq_some_iff.1 HH.out).1
      clear hp ha htr hkq hww
      generalize 1 + sizes (l.take j) = y at *
      generalize hxs : ptrs (ps.take j) = xs at *
      clear hxs
      have own0 := HO.out
      have own1 := own0.alloc (.cells #[ptr p] 72)
      have HB1 : Hid (Below w.heap.size w (wr.alloc (.cells #[ptr p] 72))) := HB.out.alloc HB.out.size _
      have cellsN := onePtr_cells wr p
      have HH1 : Hid ((wr.alloc (.cells #[ptr p] 72)).heap[w.heap.size + 1]? = some (.cells #[.int .i64 op, .int .u64 n, .int .i64 oo, .int .i64 (y : Int), sv] 100 (0, 0))) := by
        show (wr.alloc (.cells #[ptr p] 72)).heap[w.heap.size + 1]? = _
        rw [Below.heap_alloc _ _ _ hmlt]
        exact HH.out
      have n3a : (wr.alloc (.cells #[ptr p] 72)).cell? ⟨p, 3, none⟩ = some (.int .i64 (a.size : Int)) := by
        rw [← n3]
        exact World.cell?_of_block (w := wr) (a := ⟨p, 3, none⟩) (Below.heap_alloc _ _ _ (World.block_lt_of_cell? wr ⟨p, 3, none⟩ n3))
      have HP0 : Hid (p < w.heap.size) := HS.out p hSp
      have HML : Hid (w.heap.size + 1 < wr.heap.size) := hmlt
      clear hmlt
      go_wp2_with (at_builtin; refine wpList_append_own _ rfl _ _ 98 rfl (w.heap.size + 2) 72 i0 (.pointer none) 1 8 Tryd.underlying98 hi hz0 hz1 hz2 rfl (by decide) _ _ _ rfl own1 ⟨wr.heap.size, 0, none⟩ 1 1 [ptr p] rfl rfl cellsN (by intro u hu; simp at hu; subst hu; rfl) (by unfold maxLen; omega) (by omega) (by have h := HML.out; simp; omega) ?_)
      intro v7 w7 own7 grow7 _
      obtain ⟨ad7, cap7, rfl⟩ := own_shape own7
      have hne : some (w.heap.size + 1) ≠ sv.ownBlock := fun e => by
        have := (own0.lt _ e.symm).1
        omega
      have hne2 : some p ≠ sv.ownBlock := fun e => by
        have := (own0.lt _ e.symm).1
        have := HP0.out
        omega
      have HH7 : Hid (w7.heap[w.heap.size + 1]? = some (.cells #[.int .i64 op, .int .u64 n, .int .i64 oo, .int .i64 (y : Int), sv] 100 (0, 0))) := by
        show w7.heap[w.heap.size + 1]? = _
        rw [grow7.block _ (by have h := HML.out; simp; omega) hne]
        exact HH1.out
      have HB7 : Hid (Below w.heap.size w w7) := HB1.out.grown grow7 (by have h := HML.out; simp; omega) (fun k hk => by have := (own0.lt _ hk).1; omega)
      have HH8 : Hid ((w7.setCell ⟨w.heap.size + 1, 4, none⟩ (.slice ad7 (j + 1) cap7)).heap[w.heap.size + 1]? = some (.cells #[.int .i64 op, .int .u64 n, .int .i64 oo, .int .i64 (y : Int), (.slice ad7 (j + 1) cap7)] 100 (0, 0))) := heap_set HH7.out
      have d7 := cell_heap (o := 4) HH7.out
      have f7 := frozen_heap (o := 4) HH7.out
      have d8 := cell_heap (o := 3) HH8.out
      have f8 := frozen_heap (o := 3) HH8.out
      simp only [List.getElem?_toArray, List.getElem?_cons_succ, List.getElem?_cons_zero] at d7 d8
      have n8 : (w7.setCell ⟨w.heap.size + 1, 4, none⟩ (.slice ad7 (j + 1) cap7)).cell? ⟨p, 3, none⟩ = some (.int .i64 (a.size : Int)) := by
        rw [cell_otherBlock (by have := HP0.out; omega)]
        exact grow7.cell n3a hne2
      have own8 : Hid (((w7.setCell ⟨w.heap.size + 1, 4, none⟩ (.slice ad7 (j + 1) cap7)).setCell ⟨w.heap.size + 1, 3, none⟩ (.int .i64 ((y + a.size : Nat) : Int))).drew.ownsRow (w.heap.size + 2) 72 1 (.slice ad7 (j + 1) cap7) (j + 1) (ptrs (ps.take (j + 1)))) := by
        show World.ownsRow _ _ _ _ _ _ _
        rw [HP.out]
        have h1 := ownsRow_setCell_below own7 (a := ⟨w.heap.size + 1, 4, none⟩) (by simp) (.slice ad7 (j + 1) cap7)
        exact ownsRow_setCell_below h1 (a := ⟨w.heap.size + 1, 3, none⟩) (by simp) _
      have HH9 : Hid (((w7.setCell ⟨w.heap.size + 1, 4, none⟩ (.slice ad7 (j + 1) cap7)).setCell ⟨w.heap.size + 1, 3, none⟩ (.int .i64 ((y + a.size : Nat) : Int))).drew.heap[w.heap.size + 1]? = some (.cells #[.int .i64 op, .int .u64 n, .int .i64 oo, .int .i64 ((y + a.size : Nat) : Int), (.slice ad7 (j + 1) cap7)] 100 (0, 0))) := heap_set HH8.out
      have HB9 : Hid (Below w.heap.size w ((w7.setCell ⟨w.heap.size + 1, 4, none⟩ (.slice ad7 (j + 1) cap7)).setCell ⟨w.heap.size + 1, 3, none⟩ (.int .i64 ((y + a.size : Nat) : Int))).drew) := ((HB7.out.setCell (p := ⟨w.heap.size + 1, 4, none⟩) (by simp) _).setCell (p := ⟨w.heap.size + 1, 3, none⟩) (by simp) _).drew
      clear own0 own1 own7 grow7 hne hne2 cellsN c0 n2 n3 n3a d3 d4
      go_wp2_with fail
      go_region
      all_goals
        go_wp2_with fail
        go_roundw
        case rel =>
          refine ⟨j + 1, .slice ad7 (j + 1) cap7, by omega, by go_num, ?_, own8, HB9⟩
          show Hid _
          rw [HE.out]
          exact HH9
        case measure => simp [intOf]; omega
    · obtain rfl : j = ps.length := by omega
      have HE : Hid (∃ b, (w.heap.size + 1) = b ∧ TrAt wr (fun k => S k ∨ (w.heap.size ≤ k ∧ k < wr.heap.size)) (Tr.over (op, n) l) b ∧ Below w.heap.size w wr) := by
        refine ⟨_, rfl, trAt_shut (ps := ps) HLL.out ?_ ?_, HB.out⟩
        · have hh := HH.out
          have hle : l.length = ps.length := HT.out.1
          rw [← hle, List.take_length] at hh
          have own := HO.out
          rw [List.take_length] at own
          have hlt2 := (Array.getElem?_eq_some_iff.1 hh).1
          refine ⟨Or.inr ⟨by omega, hlt2⟩, cell_heap (o := 0) hh, cell_heap (o := 1) hh, ?_, cell_heap (o := 3) hh, sv, cell_heap (o := 4) hh, ?_⟩
          · rw [HOO.out]
            exact cell_heap (o := 2) hh
          · have hp := ptrs_of_own own (by omega)
            refine ⟨hp.1, ?_⟩
            rcases hp.2 with h | ⟨g1, off1, cap1, hv, hg1, hc1⟩
            · exact Or.inl h
            · refine Or.inr ⟨g1, off1, cap1, hv, Or.inr ⟨?_, hg1⟩, hc1⟩
              have := (own.lt g1 (by rw [hv]; rfl)).1
              omega
        · exact TrsAt.frame (fun k hk => Or.inl hk) (fun k hk => HB.out.block k (HS.out k hk)) HT.out
      clear HH HO HB HT HC
      go_wp2_with fail
      go_ret
      obtain ⟨b, rfl, h1, h2⟩ := HE.out
      exact ⟨_, rfl, h1, h2⟩
theorem nodeOver_made (op n : Int) (l : List Tr) (ps : List Nat) (v : Value) (w : World) (S : Nat → Prop) (hS : ∀ k, S k → k < w.heap.size) (hv : PtrsAt w (Old w) v ps)
    (ht : TrsAt w S l ps) (hown : ¬ ownOf op = 0) (hm : manyOf op = l.length) (hk : ∀ q ∈ l, q.kind = partOf op) (hsz : sizes l ≤ 1000000) :
    Calls Tryd.prog 77 #[.agg #[.int .i64 op, .int .u64 n], v] w fun e w' => ∃ b, e = .returned (ptr b) ∧ TrAt w' (fun k => S k ∨ (w.heap.size ≤ k ∧ k < w'.heap.size)) (Tr.over (op, n) l) b ∧ Below w.heap.size w w' := by
  rcases hv.2 with ⟨rfl, a, cap, rfl⟩ | ⟨g, off, cap, rfl, hg, hc⟩
  · exact nodeOver_yes op n l [] a cap w S hS (fun i b hb => by simp at hb) ht hown hm hk hsz
  · exact nodeOver_yes op n l ps _ cap w S hS (fun i b hb => ⟨g, off, rfl, hg, hc i b hb⟩) ht hown hm hk hsz
end Go.Proofs.YtpgojamabmpjnaaDoor

namespace Go.Proofs.YtpgojamabmpjnaaDoor
open Go Go.RowKit
open M
set_option linter.unusedVariables false

/-- a part that may be none -/
abbrev pv (q : Option (Nat × Tr)) : Value := .pointer (q.map fun b => ⟨b.1, 0, none⟩)
set_option maxRecDepth 100000 in
set_option maxHeartbeats 2000000 in
theorem nodeOver_bad (op n : Int) (qs : List (Option (Nat × Tr))) (ad : Option Addr) (cap : Nat) (w : World) (hown : ¬ ownOf op = 0) (hm : manyOf op = qs.length)
    (hc : ∀ (i : Nat) (q : Option (Nat × Tr)), qs[i]? = some q → ∃ g off : Nat, ad = some ⟨g, off, none⟩ ∧ g < w.heap.size ∧ w.cell? ⟨g, off + i, none⟩ = some (pv q))
    (ht : ∀ (b : Nat) (a : Tr), some (b, a) ∈ qs → TrAt w (Old w) a b ∧ a.size ≤ 1000000)
    (hbad : ¬ ∀ q ∈ qs, ∃ b a, q = some (b, a) ∧ a.kind = partOf op) :
    Calls Tryd.prog 77 #[.agg #[.int .i64 op, .int .u64 n], .slice ad qs.length cap] w fun e w' => e = .returned (.pointer none) ∧ Below w.heap.size w w' := by
  have g0 := fun w1 => shapeOf_any op w1
  have hm2 := manyOf_le op
  have e0 : (ownOf op == 0) = false := beq_eq_false_iff_ne.2 hown
  have hlm : qs.length = manyOf op := by omega
  have HW : Hid (manyOf op ≠ 0 → wantOf op = partOf op) := fun h => wantOf_part h
  have HC : Hid _ := hc
  have HT : Hid _ := ht
  have HBAD : Hid _ := hbad
  obtain ⟨i0, hi, hz0, hz1, hz2⟩ := info_parts infoPtr
  clear hc ht hbad hown
  generalize hmm : manyOf op = mm at *
  generalize hww : wantOf op = ww at *
  generalize hpp : partOf op = pp at *
  generalize hoo : ownOf op = oo at *
  clear hmm hww hpp hoo hm
  subst hlm
  go_enter Tryd.func77, Tryd.ntmps77
  go_wp2_with fail
  refine (g0 _).mono ?_
  rintro e w' ⟨rfl, rfl⟩
  clear g0
  go_wp2_with fail
  go_loopw [32] (fun i wr => ∃ (j : Nat) (sv : Value) (y : Nat) (xs : List Value), j ≤ qs.length ∧ i = .int .i64 j ∧ Hid (wr.heap[w.heap.size + 1]? = some (.cells #[.int .i64 op, .int .u64 n, .int .i64 oo, .int .i64 (y : Int), sv] 100 (0, 0))) ∧ y ≤ 1 + j * 1000000 ∧ Hid (wr.ownsRow (w.heap.size + 2) 72 1 sv j xs) ∧ Hid (Below w.heap.size w wr) ∧ Hid (∀ (i : Nat) (q : Option (Nat × Tr)), i < j → qs[i]? = some q → ∃ b a, q = some (b, a) ∧ a.kind = pp)) (fun i _ => qs.length - (intOf i).toNat)
  case atStart =>
    refine ⟨0, .slice none 0 0, 1, [], by omega, rfl, ?_, by omega, World.ownsRow_nil _ _ _ _, ?_, (fun i q hi _ => absurd hi (by omega) : ∀ (i : Nat) (q : Option (Nat × Tr)), i < 0 → qs[i]? = some q → ∃ b a, q = some (b, a) ∧ a.kind = pp)⟩
    · have e : (w.alloc (.cells #[.int .i64 op, .int .u64 n] 65)).heap.size = w.heap.size + 1 := by simp
      show ((w.alloc (.cells #[.int .i64 op, .int .u64 n] 65)).heap.push _)[w.heap.size + 1]? = _
      rw [← e, Array.getElem?_push_size]
      simp
    · exact ((Below.refl _ _).alloc (Nat.le_refl _) _).alloc (by simp) _
  case round =>
    obtain ⟨j, sv, y, xs, hj, rfl, HH, hy, HO, HB, HG⟩ := hrel
    by_cases hlt' : j < qs.length
    · obtain ⟨q, hq⟩ : ∃ q, qs[j]? = some q := ⟨qs[j], List.getElem?_eq_getElem hlt'⟩
      obtain ⟨g, off, rfl, hg, c0⟩ := HC.out j q hq
      rw [← HB.out.cell (p := ⟨g, off + j, none⟩) hg] at c0
      rcases q with _ | ⟨p, a⟩
      · have c0' : wr.cell? ⟨g, off + j, none⟩ = some (.pointer none) := c0
        clear c0 hq HG HH HO HC HT HBAD
        go_wp2_with fail
        go_ret
        exact ⟨rfl, HB.out⟩
      · have c0' : wr.cell? ⟨g, off + j, none⟩ = some (ptr p) := c0
        obtain ⟨htr, hsa⟩ := HT.out p a (List.mem_of_getElem? hq)
        obtain ⟨rs, hn, _⟩ := trAt_open (htr.below HB.out)
        obtain ⟨_, _, _, n2, n3, _⟩ := hn
        have HP0 : Hid (p < w.heap.size) := (trAt_open htr).choose_spec.1.1
        have hww := HW.out (by omega)
        clear c0
        by_cases hk : a.kind = pp
        · rw [hk, ← hww] at n2
          have HG2 : Hid (∀ (i : Nat) (q : Option (Nat × Tr)), i < j + 1 → qs[i]? = some q → ∃ b a, q = some (b, a) ∧ a.kind = pp) := by
            intro i q hi hq'
            by_cases e : i = j
            · subst e
              rw [hq] at hq'
              obtain rfl := Option.some.inj hq'
              exact ⟨p, a, rfl, hk⟩
            · exact HG.out i q (by omega) hq'
          have d3 := cell_heap (o := 3) HH.out
          have d4 := cell_heap (o := 4) HH.out
          simp only [List.getElem?_toArray, List.getElem?_cons_succ, List.getElem?_cons_zero] at d3 d4
          have hmlt : w.heap.size + 1 < wr.heap.size := (Array.getElem?_eq_some_iff.1 HH.out).1
          have own0 := HO.out
          have own1 := own0.alloc (.cells #[ptr p] 72)
          have HB1 : Hid (Below w.heap.size w (wr.alloc (.cells #[ptr p] 72))) := HB.out.alloc HB.out.size _
          have cellsN := onePtr_cells wr p
          have HH1 : Hid ((wr.alloc (.cells #[ptr p] 72)).heap[w.heap.size + 1]? = some (.cells #[.int .i64 op, .int .u64 n, .int .i64 oo, .int .i64 (y : Int), sv] 100 (0, 0))) := by
            show (wr.alloc (.cells #[ptr p] 72)).heap[w.heap.size + 1]? = _
            rw [Below.heap_alloc _ _ _ hmlt]
            exact HH.out
          have n3a : (wr.alloc (.cells #[ptr p] 72)).cell? ⟨p, 3, none⟩ = some (.int .i64 (a.size : Int)) := by
            rw [← n3]
            exact World.cell?_of_block (w := wr) (a := ⟨p, 3, none⟩) (Below.heap_alloc _ _ _ (World.block_lt_of_cell? wr ⟨p, 3, none⟩ n3))
          have HML : Hid (w.heap.size + 1 < wr.heap.size) := hmlt
          clear hmlt hq htr hk hww
          go_wp2_with (at_builtin; refine wpList_append_own _ rfl _ _ 98 rfl (w.heap.size + 2) 72 i0 (.pointer none) 1 8 Tryd.underlying98 hi hz0 hz1 hz2 rfl (by decide) _ _ _ rfl own1 ⟨wr.heap.size, 0, none⟩ 1 1 [ptr p] rfl rfl cellsN (by intro u hu; simp at hu; subst hu; rfl) (by unfold maxLen; omega) (by omega) (by have h := HML.out; simp; omega) ?_)
          intro v7 w7 own7 grow7 _
          obtain ⟨ad7, cap7, rfl⟩ := own_shape own7
          have hne : some (w.heap.size + 1) ≠ sv.ownBlock := fun e => by
            have := (own0.lt _ e.symm).1
            omega
          have hne2 : some p ≠ sv.ownBlock := fun e => by
            have := (own0.lt _ e.symm).1
            have := HP0.out
            omega
          have HH7 : Hid (w7.heap[w.heap.size + 1]? = some (.cells #[.int .i64 op, .int .u64 n, .int .i64 oo, .int .i64 (y : Int), sv] 100 (0, 0))) := by
            show w7.heap[w.heap.size + 1]? = _
            rw [grow7.block _ (by have h := HML.out; simp; omega) hne]
            exact HH1.out
          have HB7 : Hid (Below w.heap.size w w7) := HB1.out.grown grow7 (by have h := HML.out; simp; omega) (fun k hk => by have := (own0.lt _ hk).1; omega)
          have HH8 : Hid ((w7.setCell ⟨w.heap.size + 1, 4, none⟩ (.slice ad7 (j + 1) cap7)).heap[w.heap.size + 1]? = some (.cells #[.int .i64 op, .int .u64 n, .int .i64 oo, .int .i64 (y : Int), (.slice ad7 (j + 1) cap7)] 100 (0, 0))) := heap_set HH7.out
          have d7 := cell_heap (o := 4) HH7.out
          have f7 := frozen_heap (o := 4) HH7.out
          have d8 := cell_heap (o := 3) HH8.out
          have f8 := frozen_heap (o := 3) HH8.out
          simp only [List.getElem?_toArray, List.getElem?_cons_succ, List.getElem?_cons_zero] at d7 d8
          have n8 : (w7.setCell ⟨w.heap.size + 1, 4, none⟩ (.slice ad7 (j + 1) cap7)).cell? ⟨p, 3, none⟩ = some (.int .i64 (a.size : Int)) := by
            rw [cell_otherBlock (by have := HP0.out; omega)]
            exact grow7.cell n3a hne2
          have own8 : Hid (((w7.setCell ⟨w.heap.size + 1, 4, none⟩ (.slice ad7 (j + 1) cap7)).setCell ⟨w.heap.size + 1, 3, none⟩ (.int .i64 ((y + a.size : Nat) : Int))).drew.ownsRow (w.heap.size + 2) 72 1 (.slice ad7 (j + 1) cap7) (j + 1) (xs ++ [ptr p])) := by
            show World.ownsRow _ _ _ _ _ _ _
            have h1 := ownsRow_setCell_below own7 (a := ⟨w.heap.size + 1, 4, none⟩) (by simp) (.slice ad7 (j + 1) cap7)
            exact ownsRow_setCell_below h1 (a := ⟨w.heap.size + 1, 3, none⟩) (by simp) _
          have HH9 : Hid (((w7.setCell ⟨w.heap.size + 1, 4, none⟩ (.slice ad7 (j + 1) cap7)).setCell ⟨w.heap.size + 1, 3, none⟩ (.int .i64 ((y + a.size : Nat) : Int))).drew.heap[w.heap.size + 1]? = some (.cells #[.int .i64 op, .int .u64 n, .int .i64 oo, .int .i64 ((y + a.size : Nat) : Int), (.slice ad7 (j + 1) cap7)] 100 (0, 0))) := heap_set HH8.out
          have HB9 : Hid (Below w.heap.size w ((w7.setCell ⟨w.heap.size + 1, 4, none⟩ (.slice ad7 (j + 1) cap7)).setCell ⟨w.heap.size + 1, 3, none⟩ (.int .i64 ((y + a.size : Nat) : Int))).drew) := ((HB7.out.setCell (p := ⟨w.heap.size + 1, 4, none⟩) (by simp) _).setCell (p := ⟨w.heap.size + 1, 3, none⟩) (by simp) _).drew
          clear own0 own1 own7 grow7 hne hne2 cellsN c0' n2 n3 n3a d3 d4
          go_wp2_with fail
          go_region
          all_goals
            go_wp2_with fail
            go_roundw
            case rel =>
              exact ⟨j + 1, .slice ad7 (j + 1) cap7, y + a.size, xs ++ [ptr p], by omega, by go_num, HH9, by omega, own8, HB9, HG2⟩
            case measure => simp [intOf]; omega
        · have hne : (a.kind != ww) = true := bne_iff_ne.2 (by rw [hww]; exact hk)
          generalize a.kind = kk at *
          clear hk hww hq HG HH HO HC HT HBAD htr
          go_wp2_with fail
          go_ret
          exact ⟨rfl, HB.out⟩
    · exfalso
      obtain rfl : j = qs.length := by omega
      refine HBAD.out (fun q hq => ?_)
      obtain ⟨i, hi, rfl⟩ := List.mem_iff_getElem.1 hq
      exact HG.out i _ hi (List.getElem?_eq_getElem hi)
end Go.Proofs.YtpgojamabmpjnaaDoor

namespace Go.Proofs.YtpgojamabmpjnaaDoor
open Go Go.RowKit
open M
set_option linter.unusedVariables false

theorem rootOf_out (wide vars : Int) (a : Option Addr) (len cap : Nat) (hlen : len ≤ 9223372036854775807) (h : ¬ (wideB wide = true ∧ 1 ≤ vars ∧ vars ≤ 4 ∧ len ≤ 48)) (w : World) :
    Calls Tryd.prog 56 #[.int .i64 wide, .int .i64 vars, .slice a len cap] w fun e w' => e = .returned (.pointer none) ∧ w' = w := by
  have g1 := goodWide_any wide w
  cases hw : wideB wide with
  | false =>
    rw [hw] at g1
    clear hw h
    go_enter Tryd.func56, Tryd.ntmps56
    go_wp2_with fail
    refine g1.mono ?_
    rintro e w' ⟨rfl, rfl⟩
    clear g1
    go_wp2_with fail
    go_ret
    exact ⟨rfl, rfl⟩
  | true =>
    rw [hw] at g1
    by_cases hv : 1 ≤ vars ∧ vars ≤ 4
    · have g2 := goodVars_yes vars hv w
      have hl : 48 < len := by
        by_cases h48 : 48 < len
        · exact h48
        · exact absurd ⟨hw, hv.1, hv.2, by omega⟩ h
      clear hw h hv
      go_enter Tryd.func56, Tryd.ntmps56
      go_wp2_with fail
      refine g1.mono ?_
      rintro e w' ⟨rfl, rfl⟩
      clear g1
      go_wp2_with fail
      refine g2.mono ?_
      rintro e w' ⟨rfl, rfl⟩
      clear g2
      go_wp2_with fail
      go_ret
      exact ⟨rfl, rfl⟩
    · have g2 := goodVars_no vars hv w
      clear hw h hv
      go_enter Tryd.func56, Tryd.ntmps56
      go_wp2_with fail
      refine g1.mono ?_
      rintro e w' ⟨rfl, rfl⟩
      clear g1
      go_wp2_with fail
      refine g2.mono ?_
      rintro e w' ⟨rfl, rfl⟩
      clear g2
      go_wp2_with fail
      go_ret
      exact ⟨rfl, rfl⟩
set_option maxRecDepth 100000 in
theorem rootOf_nil (k : Nat) (vars : Int) (a : Option Addr) (cap : Nat) (hw : wideB k = true) (hv : 1 ≤ vars ∧ vars ≤ 4) (w : World) :
    Calls Tryd.prog 56 #[.int .i64 k, .int .i64 vars, .slice a 0 cap] w fun e w' => e = .returned (.pointer none) ∧ w' = w := by
  have g1 := goodWide_any k w
  rw [hw] at g1
  have g2 := goodVars_yes vars hv w
  clear hw hv
  go_enter Tryd.func56, Tryd.ntmps56
  go_wp2_with fail
  refine g1.mono ?_
  rintro e w' ⟨rfl, rfl⟩
  clear g1
  go_wp2_with fail
  refine g2.mono ?_
  rintro e w' ⟨rfl, rfl⟩
  clear g2
  go_wp2_with fail
  go_loop [7, 30] (fun v i => v = .slice none 0 0 ∧ i = .int .i64 0) (fun _ _ => 0)
  case atStart => exact ⟨rfl, rfl⟩
  case round =>
    obtain ⟨rfl, rfl⟩ := hrel
    go_wp2_with fail
    go_ret
    exact ⟨rfl, rfl⟩
theorem step_kind {k vars : Int} {x : Nd} {p : List (Ent Tr)} (hle : manyOf x.1 ≤ p.length) (h : ∃ e ∈ p.take (manyOf x.1), e.kind ≠ partOf x.1) : stepK k vars (p.map Ent.kind).reverse x = none := by
  have hm := manyOf_le x.1
  unfold stepK
  split
  · rfl
  obtain ⟨e, he, hk⟩ := h
  generalize manyOf x.1 = m at *
  generalize partOf x.1 = q at *
  match m, hm, p, hle, he with
  | 0, _, p, _, he => simp at he
  | 1, _, d :: r, _, he =>
    simp at he
    subst he
    simp [popN, hk]
  | 2, _, d :: c :: r, _, he =>
    simp at he
    rcases he with rfl | rfl
    · simp [popN, hk]
    · simp only [popN, List.map_cons, List.reverse_cons, List.getLast?_concat, List.dropLast_concat]
      split
      · simp [hk]
      · rfl
theorem step_tree {k vars : Int} {j : Nat} {x : Nd} {p : List (Ent Tr)} (h1 : ¬ ownOf x.1 = 0) (h2 : okN k vars x.1 x.2 = true) (hle : manyOf x.1 ≤ p.length) (h : ∀ e ∈ p.take (manyOf x.1), e.kind = partOf x.1) :
    ∃ a0, stepE k vars Tr.leaf Tr.one Tr.two j p x = some (⟨a0, ownOf x.1, Tr.over x ((p.take (manyOf x.1)).reverse.map Ent.val)⟩ :: p.drop (manyOf x.1)) := by
  have hm := manyOf_le x.1
  unfold stepE
  rw [if_neg (by rw [h2]; simp [h1])]
  generalize manyOf x.1 = m at *
  generalize partOf x.1 = q at *
  match m, hm, p, hle, h with
  | 0, _, p, _, _ => exact ⟨j, rfl⟩
  | 1, _, d :: r, _, h =>
    have hd := h d (by simp)
    refine ⟨d.at0, ?_⟩
    simp [hd, Tr.over]
  | 2, _, d :: c :: r, _, h =>
    have hd := h d (by simp)
    have hc := h c (by simp)
    refine ⟨c.at0, ?_⟩
    simp [hd, hc, Tr.over]
theorem own_low {w : World} {B g n cap rest : Nat} {bs : List Nat} (h : w.ownsRow B 72 1 (.slice (some ⟨g, 0, none⟩) n cap) n (ptrs bs)) (hn : n = bs.length) (hr : rest ≤ n) : w.ownsRow B 72 1 (.slice (some ⟨g, 0, none⟩) rest cap) rest (ptrs (bs.take rest)) := by
  subst hn
  refine ⟨by simp [ptrs]; omega, ?_⟩
  rcases h.2 with ⟨h1, _⟩ | ⟨g', cap', cur, h1, hg, hh, h2, h3, h4, h5⟩
  · cases h1
  · simp at h1
    obtain ⟨rfl, rfl⟩ := h1
    refine Or.inr ⟨g, cap, cur, rfl, hg, hh, by omega, h3, h4, ?_⟩
    have h6 := congrArg (List.take rest) h5
    rw [List.take_take] at h6
    simp only [Nat.mul_one] at h6 ⊢
    rw [Nat.min_eq_left hr] at h6
    rw [h6]
    simp [ptrs, List.map_take]
theorem own_high {w : World} {B g n cap rest : Nat} {bs : List Nat} (h : w.ownsRow B 72 1 (.slice (some ⟨g, 0, none⟩) n cap) n (ptrs bs)) (hn : n = bs.length) (hr : rest ≤ n) (hl : n ≤ 48) :
    PtrsAt w (Old w) (.slice (if cap = rest then some ⟨g, 0, none⟩ else some ⟨g, rest, none⟩) (n - rest) (cap - rest)) (bs.drop rest) := by
  subst hn
  have hlt := (h.lt g rfl).2
  refine ⟨by simp; omega, ?_⟩
  by_cases h0 : rest = bs.length
  · subst h0
    exact Or.inl ⟨by simp, (if cap = bs.length then some ⟨g, 0, none⟩ else some ⟨g, bs.length, none⟩), cap - bs.length, by simp⟩
  · have hc : rest < cap := by
      rcases h.2 with ⟨h1, _⟩ | ⟨g', cap', cur, h1, hg, hh, h2, _⟩
      · cases h1
      · simp at h1
        omega
    refine Or.inr ⟨g, rest, cap - rest, by rw [if_neg (by omega)]; simp, hlt, fun i b hb => ?_⟩
    have hcell := h.cells (g := g) rfl (rest + i) (ptr b) (by
      rw [List.getElem?_drop] at hb
      simp [ptrs, hb])
    rw [show ((⟨g, 0, none⟩ : Addr).add (rest + i)) = ⟨g, rest + i, none⟩ from by unfold Addr.add; split <;> simp_all] at hcell
    exact hcell
theorem trs_drop {w : World} {S : Nat → Prop} {l : List Tr} {ps : List Nat} (h : TrsAt w S l ps) (r : Nat) : TrsAt w S (l.drop r) (ps.drop r) :=
  ⟨by simp [h.1], fun i a p ha hp => h.2 (r + i) a p (by rw [List.getElem?_drop] at ha; exact ha) (by rw [List.getElem?_drop] at hp; exact hp)⟩
theorem trs_take {w : World} {S : Nat → Prop} {l : List Tr} {ps : List Nat} (h : TrsAt w S l ps) (r : Nat) : TrsAt w S (l.take r) (ps.take r) :=
  ⟨by simp [h.1], fun i a p ha hp => h.2 i a p (by rw [List.getElem?_take] at ha; split at ha; exact ha; cases ha) (by rw [List.getElem?_take] at hp; split at hp; exact hp; cases hp)⟩
theorem trs_snoc {w : World} {S : Nat → Prop} {l : List Tr} {ps : List Nat} {a : Tr} {p : Nat} (h : TrsAt w S l ps) (ha : TrAt w S a p) : TrsAt w S (l ++ [a]) (ps ++ [p]) := by
  refine ⟨by simp [h.1], fun i c q hc hq => ?_⟩
  have hl := h.1
  by_cases hi : i < l.length
  · rw [List.getElem?_append_left hi] at hc
    rw [List.getElem?_append_left (by omega)] at hq
    exact h.2 i c q hc hq
  · rw [List.getElem?_append_right (by omega)] at hc hq
    rw [hl] at hc
    generalize i - ps.length = j at hc hq
    match j, hc, hq with
    | 0, hc, hq =>
      simp at hc hq
      subst hc hq
      exact ha
    | j + 1, hc, hq => simp at hq
theorem pile_next {w3 w7 : World} {v v0 v7 : Value} {o : Obj} {l : List Tr} {ps : List Nat} (ht : TrsAt w3 (OldBut w3 v) l ps) (grow : (w3.alloc o).grownBy w7 v0.ownBlock) (hat : v7.ownBlock = v0.ownBlock ∨ v7.ownBlock = some (w3.heap.size + 1)) (hvb : v0.ownBlock = v.ownBlock) : TrsAt w7 (OldBut w7 v7) l ps := by
  have hs := grow.size
  rw [show (w3.alloc o).heap.size = w3.heap.size + 1 from by simp] at hs
  refine TrsAt.frame (fun k hk => ⟨by omega, ?_⟩) (fun k hk => ?_) ht
  · rcases hat with h | h
    · rw [h, hvb]
      exact hk.2
    · rw [h]
      intro e
      have := Option.some.inj e
      omega
  · rw [grow.block k (by simp; omega) (by rw [hvb]; exact hk.2)]
    exact Below.heap_alloc _ _ _ hk.1
theorem PtrsAt.shape {w : World} {S : Nat → Prop} {v : Value} {bs : List Nat} (h : PtrsAt w S v bs) : ∃ (a : Option Addr) (cap : Nat), v = .slice a bs.length cap := by
  rcases h.2 with ⟨rfl, a, cap, h⟩ | ⟨g, off, cap, h, _⟩
  · exact ⟨a, cap, h⟩
  · exact ⟨_, cap, h⟩
theorem size_le_sizes {l : List Tr} {a : Tr} (h : a ∈ l) : a.size ≤ sizes l := by
  induction l with
  | nil => cases h
  | cons b l ih =>
    simp only [sizes]
    rcases List.mem_cons.1 h with rfl | h
    · omega
    · have := ih h
      omega
/-- parts of which one is of another kind -/
theorem nodeOver_mixed (op n : Int) (l : List Tr) (ps : List Nat) (v : Value) (w : World) (S : Nat → Prop) (hS : ∀ k, S k → k < w.heap.size) (hv : PtrsAt w (Old w) v ps)
    (ht : TrsAt w S l ps) (hm : manyOf op = l.length) (hk : ¬ (¬ ownOf op = 0 ∧ ∀ q ∈ l, q.kind = partOf op)) (hsz : sizes l ≤ 1000000) :
    Calls Tryd.prog 77 #[.agg #[.int .i64 op, .int .u64 n], v] w fun e w' => e = .returned (.pointer none) ∧ Below w.heap.size w w' := by
  by_cases h0 : ownOf op = 0
  · obtain ⟨a, cap, rfl⟩ := hv.shape
    exact nodeOver_shape op n a _ cap hv.1 (Or.inl h0) w
  · have hbad : ¬ ∀ q ∈ l, q.kind = partOf op := fun h => hk ⟨h0, h⟩
    obtain ⟨a, cap, hsh⟩ := hv.shape
    have hzl : (((ps.zip l).map some : List (Option (Nat × Tr)))).length = ps.length := by
      have := ht.1
      simp
      omega
    rw [hsh, ← hzl]
    refine nodeOver_bad op n ((ps.zip l).map some) a cap w h0 (by rw [hzl, hm, ht.1]) ?_ ?_ ?_
    · intro i q hq
      rw [List.getElem?_map, Option.map_eq_some_iff] at hq
      obtain ⟨⟨b, c⟩, hbc, rfl⟩ := hq
      obtain ⟨hb, hc⟩ := List.getElem?_zip_eq_some.1 hbc
      rcases hv.2 with ⟨rfl, _⟩ | ⟨g, off, cap', h, hg, hcell⟩
      · simp at hb
      · rw [hsh] at h
        simp at h
        exact ⟨g, off, h.1, hg, hcell i b hb⟩
    · intro b c hbc
      obtain ⟨x, hx, he⟩ := List.mem_map.1 hbc
      obtain rfl := Option.some.inj he
      obtain ⟨i, hi⟩ := List.mem_iff_getElem?.1 hx
      obtain ⟨hb, hc⟩ := List.getElem?_zip_eq_some.1 hi
      refine ⟨TrAt.frame (fun k hk => hS k hk) (fun _ _ => rfl) (ht.2 i c b hc hb), ?_⟩
      have h9 : c.size ≤ sizes l := size_le_sizes (List.mem_of_getElem? hc)
      omega
    · intro hall
      refine hbad (fun q hq => ?_)
      obtain ⟨i, hi⟩ := List.mem_iff_getElem?.1 hq
      have hil := (List.getElem?_eq_some_iff.1 hi).1
      obtain ⟨b, hb⟩ : ∃ b, ps[i]? = some b := ⟨ps[i]'(by have := ht.1; omega), List.getElem?_eq_getElem _⟩
      have hz : (ps.zip l)[i]? = some (b, q) := List.getElem?_zip_eq_some.2 ⟨hb, hi⟩
      obtain ⟨b', a', he, hk'⟩ := hall (some (b, q)) (List.mem_map.2 ⟨(b, q), List.mem_of_getElem? hz, rfl⟩)
      simp at he
      rw [he.2]
      exact hk'
theorem sizes_flat (l : List Tr) : sizes l = (l.flatMap Tr.flat).length := by
  induction l with
  | nil => rfl
  | cons a l ih => simp [sizes, ih, Tr.flat_len]
theorem pile_sizes {k vars : Int} {t : List Nd} {j : Nat} {p : List (Ent Tr)} (h : pileT k vars t j = some p) : sizes (p.reverse.map Ent.val) ≤ t.length := by
  have h2 := (pileT_ok j p h).2
  rw [sizes_flat, List.flatMap_map, h2]
  simp
  omega
theorem pile_end {k : Nat} {vars : Int} {t : List Nd} {p : List (Ent Tr)} (hk1 : 1 ≤ k) (hk : k ≤ 64) (hv : 1 ≤ vars) (hv4 : vars ≤ 4) (hl : t.length ≤ 48) (h : pileT k vars t t.length = some p) :
    (p.length ≠ 1 → kindL k vars t = 0) ∧ ∀ e, p = [e] → pileT k vars t t.length = some [⟨0, e.val.kind, e.val⟩] := by
  have hf := foldK_of_pileT h
  rw [List.take_length] at hf
  by_cases h1 : 1 ≤ t.length
  · have hg : wideB k = true ∧ 1 ≤ vars ∧ vars ≤ 4 ∧ 1 ≤ t.length ∧ t.length ≤ 48 := ⟨decide_eq_true (by omega), hv, hv4, h1, hl⟩
    have he := kind_end hg (by rw [List.take_length]; exact hf)
    constructor
    · intro hp
      rw [he]
      unfold root1
      rw [if_neg (by simpa using hp)]
    · rintro e rfl
      obtain ⟨k1, k2⟩ := (pileT_ok _ _ h).1 e (by simp)
      have hpos : 0 < kindL k vars t := by
        rw [he]
        have := Tr.kind_pos k1
        simp [root1]
        omega
      obtain ⟨_, _, _, _, _, r, hr, _⟩ := root_tree hpos
      rw [hr]
      have e1 : pileT k vars t t.length = some [e] := h
      rw [hr] at e1
      simp at e1
      subst e1
      rfl
  · have h0 : t = [] := List.length_eq_zero_iff.1 (by omega)
    subst h0
    simp [pileE] at h
    subst h
    constructor
    · intro _
      exact kind_out (by simp)
    · intro e he
      cases he
set_option maxRecDepth 100000 in
set_option maxHeartbeats 4000000 in
theorem rootOf_in (k : Nat) (vars : Int) (b off cap : Nat) (t : List Nd) (hk1 : 1 ≤ k) (hk : k ≤ 64) (hv : 1 ≤ vars) (hv4 : vars ≤ 4) (hl : t.length ≤ 48) (hok : ∀ x ∈ t, NdOk x) (w : World) (hT : Tab w) (hlt : b < w.heap.size)
    (hc : ∀ (i : Nat) (x : Nd), t[i]? = some x → w.cell? ⟨b, off + i * 2, none⟩ = some (.int .i64 x.1) ∧ w.cell? ⟨b, off + i * 2 + 1, none⟩ = some (.int .u64 x.2)) :
    Calls Tryd.prog 56 #[.int .i64 k, .int .i64 vars, .slice (some ⟨b, off, none⟩) t.length cap] w fun e w' => Below w.heap.size w w' ∧
      ((kindL k vars t = 0 ∧ e = .returned (.pointer none)) ∨ ∃ (r : Tr) (p : Nat), pileT k vars t t.length = some [⟨0, r.kind, r⟩] ∧ e = .returned (ptr p) ∧ TrAt w' (Old w') r p) := by
  have hw : wideB k = true := decide_eq_true (by omega)
  have g1 := goodWide_any k w
  rw [hw] at g1
  have g2 := goodVars_yes vars ⟨hv, hv4⟩ w
  clear hw
  obtain ⟨i0, hi, hz0, hz1, hz2⟩ := info_parts infoPtr
  go_enter Tryd.func56, Tryd.ntmps56
  go_wp2_with fail
  refine g1.mono ?_
  rintro e w' ⟨rfl, rfl⟩
  clear g1
  go_wp2_with fail
  refine g2.mono ?_
  rintro e w' ⟨rfl, rfl⟩
  clear g2
  go_wp2_with fail
  have HC : Hid _ := hc
  have HOK : Hid _ := hok
  have HT : Hid (Tab w') := hT
  clear hc hok hT
  go_loopw [7, 30] (fun v i wr => ∃ (j : Nat) (p : List (Ent Tr)) (bs : List Nat), j ≤ t.length ∧ i = .int .i64 j ∧ Hid (pileT k vars t j = some p) ∧ Hid (wr.ownsRow w'.heap.size 72 1 v bs.length (ptrs bs)) ∧ Hid (TrsAt wr (OldBut wr v) (p.reverse.map Ent.val) bs) ∧ Hid (Below w'.heap.size w' wr)) (fun _ i _ => t.length - (intOf i).toNat)
  case atStart => exact ⟨0, [], [], by omega, rfl, rfl, World.ownsRow_nil _ _ _ _, ⟨rfl, fun i a p ha _ => by simp at ha⟩, Below.refl _ _⟩
  case round =>
    obtain ⟨j, p, bs, hj, rfl, HF, HO, HS, HB⟩ := hrel
    have hpl : p.length = bs.length := by
      have := HS.out.1
      simpa using this
    by_cases hlt' : j < t.length
    · obtain ⟨⟨op, n⟩, hx⟩ : ∃ x, t[j]? = some x := ⟨t[j], List.getElem?_eq_getElem hlt'⟩
      obtain ⟨ho0, ho1, hn0, hn1⟩ := HOK.out (op, n) (List.mem_of_getElem? hx)
      simp only at ho0 ho1 hn0 hn1
      obtain ⟨c0, c1⟩ := HC.out j (op, n) hx
      rw [← HB.out.cell (p := ⟨b, off + j * 2, none⟩) hlt] at c0
      rw [← HB.out.cell (p := ⟨b, off + j * 2 + 1, none⟩) hlt] at c1
      simp only at c0 c1
      have HX : Hid (t[j]? = some (op, n)) := hx
      have hb1 : Below w'.heap.size w' (wr.alloc (.cells #[.int .i64 op, .int .u64 n] 65)) := HB.out.alloc HB.out.size _
      have g1 := shapeOf_any op (wr.alloc (.cells #[.int .i64 op, .int .u64 n] 65))
      have g2 := goodN_any k vars op n (by omega) (by omega) hn0 hn1 (wr.alloc (.cells #[.int .i64 op, .int .u64 n] 65)) (HT.out.below hb1 HT.out.some)
      have HBa : Hid (Below w'.heap.size w' (wr.alloc (.cells #[.int .i64 op, .int .u64 n] 65))) := hb1
      have hpj : bs.length ≤ 48 := by
        have h1 := foldK_of_pileT HF.out
        have h2 := foldK_len _ _ _ h1
        simp at h2
        omega
      have hml := manyOf_le op
      have HPL : Hid (p.length = bs.length) := hpl
      obtain ⟨ad, cp, hv7⟩ := own_shape HO.out
      clear hx hb1 hpl
      cases z2 : okN k vars op n with
      | false =>
        have HK : Hid (kindL k vars t = 0) := kind_stop HX.out (foldK_of_pileT HF.out) (step_num z2)
        rw [z2] at g2
        clear z2
        generalize ownOf op = o at *
        generalize manyOf op = m at *
        generalize wantOf op = q at *
        subst hv7
        go_wp2_with fail
        refine g1.mono ?_
        rintro e w2 ⟨rfl, rfl⟩
        clear g1
        go_wp2_with fail
        refine g2.mono ?_
        rintro e w2 ⟨rfl, hb2⟩
        clear g2
        have HB2 : Hid (Below w'.heap.size w' w2) := HBa.out.trans (hb2.mono HBa.out.size)
        clear hb2
        go_wp2_with fail
        go_ret
        exact ⟨HB2.out, Or.inl ⟨HK.out, rfl⟩⟩
      | true =>
        rw [z2] at g2
        by_cases z3 : bs.length < manyOf op
        · have HK : Hid (kindL k vars t = 0) := kind_stop HX.out (foldK_of_pileT HF.out) (step_few (by have := HPL.out; simp; omega))
          clear z2
          generalize ownOf op = o at *
          generalize manyOf op = m at *
          generalize wantOf op = q at *
          subst hv7
          go_wp2_with fail
          refine g1.mono ?_
          rintro e w2 ⟨rfl, rfl⟩
          clear g1
          go_wp2_with fail
          refine g2.mono ?_
          rintro e w2 ⟨rfl, hb2⟩
          clear g2
          have HB2 : Hid (Below w'.heap.size w' w2) := HBa.out.trans (hb2.mono HBa.out.size)
          clear hb2
          go_wp2_with fail
          go_ret
          exact ⟨HB2.out, Or.inl ⟨HK.out, rfl⟩⟩
        · subst hv7
          obtain ⟨m, hmm⟩ : ∃ m, m = manyOf op := ⟨_, rfl⟩
          rw [← hmm] at g1 z3 hml
          have HMM : Hid (m = manyOf op) := hmm
          clear hmm
          generalize hqq : wantOf op = q at g1
          generalize hoo : ownOf op = o at g1
          go_wp2_with fail
          refine g1.mono ?_
          rintro e w2 ⟨rfl, rfl⟩
          clear g1
          go_wp2_with fail
          refine g2.mono ?_
          rintro e w2 ⟨rfl, hb2⟩
          clear g2
          have HB2 : Hid (Below w'.heap.size w' w2) := HBa.out.trans (hb2.mono HBa.out.size)
          have e0 : w2.cell? ⟨wr.heap.size, 0, none⟩ = some (.int .i64 op) := by
            rw [hb2.cell (p := ⟨wr.heap.size, 0, none⟩) (by simp)]
            simp
          have e1 : w2.cell? ⟨wr.heap.size, 1, none⟩ = some (.int .u64 n) := by
            rw [hb2.cell (p := ⟨wr.heap.size, 1, none⟩) (by simp)]
            simp
          obtain ⟨rest, hrest⟩ : ∃ rest : Nat, (bs.length : Int) - (m : Int) = (rest : Int) := ⟨bs.length - m, by omega⟩
          have hr1 : rest ≤ bs.length := by omega
          have HR : Hid (rest + m = bs.length) := (by omega : rest + m = bs.length)
          go_wp2_with fail
          clear hrest
          have hp1 : Hid (TrsAt w2 (OldBut w2 (.slice ad bs.length cp)) (p.reverse.map Ent.val) bs ∧ w2.ownsRow w'.heap.size 72 1 (.slice ad bs.length cp) bs.length (ptrs bs)) := by
            have hba : Below wr.heap.size wr w2 := ((Below.refl _ _).alloc (Nat.le_refl _) _).trans (hb2.mono (by simp))
            exact ⟨TrsAt.frame (fun k hk => ⟨Nat.lt_of_lt_of_le hk.1 hba.size, hk.2⟩) (fun k hk => hba.block k hk.1) HS.out, owns_below HO.out hba⟩
          have HLP : Hid ((p.reverse.map Ent.val).drop rest = (p.take m).reverse.map Ent.val ∧ (p.reverse.map Ent.val).take rest = (p.drop m).reverse.map Ent.val) := by
            have h1 := HPL.out
            have h2 := HR.out
            constructor
            · rw [← List.map_drop, List.drop_reverse, show p.length - rest = m from by omega]
            · rw [← List.map_take, List.take_reverse, show p.length - rest = m from by omega]
          by_cases hgood : ¬ ownOf op = 0 ∧ ∀ e ∈ p.take m, e.kind = partOf op
          · obtain ⟨a0, hst⟩ := step_tree (j := j) (k := k) (vars := vars) (x := (op, n)) (p := p) hgood.1 z2 (by have := HMM.out; have := HPL.out; have := HR.out; simp only; omega) (by rw [show manyOf (op, n).1 = m from HMM.out.symm]; exact hgood.2)
            have HF2 : Hid (pileT k vars t (j + 1) = some (⟨a0, ownOf op, Tr.over (op, n) ((p.take m).reverse.map Ent.val)⟩ :: p.drop m)) := by
              show pileE k vars Tr.leaf Tr.one Tr.two t (j + 1) = _
              rw [pileE, show pileE k vars Tr.leaf Tr.one Tr.two t j = some p from HF.out, HX.out]
              simp only [Option.bind_some]
              rw [hst, ← show m = manyOf (op, n).1 from HMM.out]
            have GE : Hid (∀ (sl : Value) (w1 : World), PtrsAt w1 (Old w1) sl (bs.drop rest) → Below w2.heap.size w2 w1 → Calls Tryd.prog 77 #[.agg #[.int .i64 op, .int .u64 n], sl] w1 fun e w3 => ∃ pb, e = .returned (ptr pb) ∧
                TrsAt w3 (OldBut w3 (.slice ad bs.length cp)) ((p.drop m).reverse.map Ent.val ++ [Tr.over (op, n) ((p.take m).reverse.map Ent.val)]) (bs.take rest ++ [pb]) ∧ w3.ownsRow w'.heap.size 72 1 (.slice ad bs.length cp) bs.length (ptrs bs) ∧ Below w'.heap.size w' w3) := by
              intro sl w1 hsl hb3
              obtain ⟨h1, h2⟩ := hp1.out
              have h1' : TrsAt w1 (OldBut w1 (.slice ad bs.length cp)) (p.reverse.map Ent.val) bs := TrsAt.frame (fun k hk => ⟨Nat.lt_of_lt_of_le hk.1 hb3.size, hk.2⟩) (fun k hk => hb3.block k hk.1) h1
              have h2' := owns_below h2 hb3
              have hd := trs_drop h1' rest
              rw [HLP.out.1] at hd
              have ht := trs_take h1' rest
              rw [HLP.out.2] at ht
              have hkk : ∀ q ∈ (p.take m).reverse.map Ent.val, q.kind = partOf op := by
                intro q hq
                obtain ⟨e, he, rfl⟩ := List.mem_map.1 hq
                have he' : e ∈ p.take m := by simpa using he
                rw [← ((pileT_ok j p HF.out).1 e (List.mem_of_mem_take he')).2]
                exact hgood.2 e he'
              have hsz : sizes ((p.take m).reverse.map Ent.val) ≤ 1000000 := by
                have h3 := pile_sizes HF.out
                have h4 := sizes_append ((p.reverse.map Ent.val).take rest) ((p.reverse.map Ent.val).drop rest)
                rw [List.take_append_drop, HLP.out.1] at h4
                omega
              refine (nodeOver_made op n _ (bs.drop rest) sl w1 (OldBut w1 (.slice ad bs.length cp)) (fun k hk => hk.1) hsl hd hgood.1 ?_ hkk hsz).mono ?_
              · rw [← HMM.out]
                have := HPL.out
                have := HR.out
                simp
                omega
              · rintro e w3 ⟨pb, he, htr, hb4⟩
                have hS : ∀ k, OldBut w1 (.slice ad bs.length cp) k → OldBut w3 (.slice ad bs.length cp) k := fun k hk => ⟨Nat.lt_of_lt_of_le hk.1 hb4.size, hk.2⟩
                refine ⟨pb, he, trs_snoc (TrsAt.frame hS (fun k hk => hb4.block k hk.1) ht) (TrAt.frame (fun k hk => ?_) (fun _ _ => rfl) htr), owns_below h2' hb4, HB2.out.trans ((hb3.trans (hb4.mono hb3.size)).mono HB2.out.size)⟩
                rcases hk with hk | ⟨hk1, hk2⟩
                · exact hS k hk
                · refine ⟨hk2, fun e => ?_⟩
                  have := (h2'.lt k e.symm).2
                  omega
            clear hgood hst HF
            have HSH : Hid _ := hp1.out.2
            have HN2 : Hid ((p.drop m).reverse.map Ent.val ++ [Tr.over (op, n) ((p.take m).reverse.map Ent.val)] = ((⟨a0, ownOf op, Tr.over (op, n) ((p.take m).reverse.map Ent.val)⟩ :: p.drop m).reverse.map Ent.val)) := by
              show _ = _
              simp
            generalize hNL : (p.drop m).reverse.map Ent.val ++ [Tr.over (op, n) ((p.take m).reverse.map Ent.val)] = NL at *
            generalize hNP : (⟨a0, ownOf op, Tr.over (op, n) ((p.take m).reverse.map Ent.val)⟩ :: p.drop m : List (Ent Tr)) = NP at *
            clear hNL hNP HLP
            rcases HO.out.2 with ⟨hnil, hb0⟩ | ⟨g, cap', cur, hv, hg, hh, hcap1, hcap2, hcap3, hcur⟩
            · have hbs : bs = [] := List.length_eq_zero_iff.1 hb0
              subst hbs
              obtain rfl : rest = 0 := by simp at hr1; exact hr1
              obtain ⟨rfl, rfl⟩ : ad = none ∧ cp = 0 := by
                simp at hnil
                exact hnil
              have GC := fun (w1 : World) (hb3 : Below w2.heap.size w2 w1) => GE.out (.slice none 0 0) w1 ⟨by simp, Or.inl ⟨rfl, none, 0, rfl⟩⟩ hb3
              have hd2 : Below w2.heap.size w2 w2.drew := (Below.refl _ _).drew
              clear hnil hb0 HO hr1 hp1 HSH GE HPL HS
              go_region_with (go_at_call 77; refine (GC _ hd2).mono ?_; rintro e w3 ⟨pb, rfl, ht3, ho3, hb3⟩; have HT3 : Hid _ := ht3; have HO3 : Hid _ := ho3; have HB3 : Hid _ := hb3; clear ht3 ho3 hb3)
              all_goals clear GC hd2
              all_goals
                have own1 : (w3.alloc (.cells #[ptr pb] 72)).ownsRow w'.heap.size 72 1 (.slice none 0 0) 0 [] := World.ownsRow_nil _ _ _ _
                have HBx : Hid (Below w'.heap.size w' (w3.alloc (.cells #[ptr pb] 72))) := HB3.out.alloc HB3.out.size _
                have cellsN := onePtr_cells w3 pb
                go_wp2_with (at_builtin; refine wpList_append_own_at _ rfl _ _ 98 rfl w'.heap.size 72 i0 (.pointer none) 1 8 Tryd.underlying98 hi hz0 hz1 hz2 rfl (by decide) _ _ _ rfl own1 ⟨w3.heap.size, 0, none⟩ 1 1 [ptr pb] rfl rfl cellsN (by intro u hu; simp at hu; subst hu; rfl) (by unfold maxLen; omega) (by omega) (by have h := HB3.out.size; simp; omega) ?_)
                intro v7 w7 own7 grow7 _ hat7
                have HO7 : Hid (w7.ownsRow w'.heap.size 72 1 v7 ([pb] : List Nat).length (ptrs [pb])) := own7
                have HT7 : Hid (TrsAt w7 (OldBut w7 v7) (NP.reverse.map Ent.val) [pb]) := by
                  show TrsAt _ _ _ _
                  rw [← HN2.out]
                  exact pile_next HT3.out grow7 hat7 rfl
                have HB7 : Hid (Below w'.heap.size w' w7) := HBx.out.grown grow7 HBx.out.size (fun k hk => by cases hk)
                clear own1 own7 grow7 hat7 cellsN
                go_wp2_with fail
                go_roundw
                case rel => exact ⟨j + 1, NP, [pb], by omega, by go_num, HF2, HO7, HT7, HB7⟩
                case measure => simp [intOf]; omega
            · obtain ⟨rfl, rfl⟩ : ad = some ⟨g, 0, none⟩ ∧ cap' = cp := by
                simp at hv
                exact ⟨hv.1, hv.2.symm⟩
              have hcap2' : cap' ≤ 9223372036854775807 := hcap2
              have GC := fun (w1 : World) (hb3 : Below w2.heap.size w2 w1) => GE.out _ w1 (own_high (owns_below HSH.out hb3) rfl hr1 hpj) hb3
              obtain ⟨asl, hasl⟩ : ∃ asl, (if cap' = rest then some (⟨g, 0, none⟩ : Addr) else some ⟨g, rest, none⟩) = asl := ⟨_, rfl⟩
              rw [hasl] at GC
              have hd2 : Below w2.heap.size w2 w2.drew := (Below.refl _ _).drew
              have HG0 : Hid (w'.heap.size ≤ g) := hg
              clear hv hcur hcap2 hh HO hg hp1 HSH GE HPL HS
              go_region_with (go_at_call 77; refine (GC _ hd2).mono ?_; rintro e w3 ⟨pb, rfl, ht3, ho3, hb3⟩; have HT3 : Hid _ := ht3; have HO3 : Hid _ := ho3; have HB3 : Hid _ := hb3; clear ht3 ho3 hb3)
              all_goals clear GC hd2 hasl
              all_goals
                have own1 := (own_low HO3.out rfl hr1).alloc (.cells #[ptr pb] 72)
                have HLX : Hid (ptrs (bs.take rest) ++ [ptr pb] = ptrs (bs.take rest ++ [pb]) ∧ rest + 1 = (bs.take rest ++ [pb]).length) := by
                  constructor
                  · simp [ptrs]
                  · simp
                    omega
                generalize ptrs (bs.take rest) = xs0 at own1 HLX
                generalize bs.take rest ++ [pb] = NB at *
                have HBx : Hid (Below w'.heap.size w' (w3.alloc (.cells #[ptr pb] 72))) := HB3.out.alloc HB3.out.size _
                have cellsN := onePtr_cells w3 pb
                go_wp2_with (at_builtin; refine wpList_append_own_at _ rfl _ _ 98 rfl w'.heap.size 72 i0 (.pointer none) 1 8 Tryd.underlying98 hi hz0 hz1 hz2 rfl (by decide) _ _ _ rfl own1 ⟨w3.heap.size, 0, none⟩ 1 1 [ptr pb] rfl rfl cellsN (by intro u hu; simp at hu; subst hu; rfl) (by unfold maxLen; omega) (by omega) (by have h := HB3.out.size; simp; omega) ?_)
                intro v7 w7 own7 grow7 _ hat7
                have HO7 : Hid (w7.ownsRow w'.heap.size 72 1 v7 NB.length (ptrs NB)) := by
                  show World.ownsRow _ _ _ _ _ _ _
                  rw [← HLX.out.1, ← HLX.out.2]
                  exact own7
                have HT7 : Hid (TrsAt w7 (OldBut w7 v7) (NP.reverse.map Ent.val) NB) := by
                  show TrsAt _ _ _ _
                  rw [← HN2.out]
                  exact pile_next HT3.out grow7 hat7 rfl
                have HB7 : Hid (Below w'.heap.size w' w7) := HBx.out.grown grow7 HBx.out.size (fun k hk => by
                  have e : g = k := Option.some.inj hk
                  rw [← e]
                  exact HG0.out)
                clear own1 own7 grow7 hat7 cellsN
                go_wp2_with fail
                go_roundw
                case rel => exact ⟨j + 1, NP, NB, by omega, by go_num, HF2, HO7, HT7, HB7⟩
                case measure => simp [intOf]; omega
          · have HK : Hid (kindL k vars t = 0) := by
              show _ = _
              by_cases h0 : ownOf op = 0
              · exact kind_stop HX.out (foldK_of_pileT HF.out) (step_own h0)
              · refine kind_stop HX.out (foldK_of_pileT HF.out) (step_kind (x := (op, n)) (by have := HMM.out; have := HPL.out; have := HR.out; simp only; omega) ?_)
                rw [show manyOf (op, n).1 = m from HMM.out.symm]
                refine Classical.byContradiction fun hne => hgood ⟨h0, fun e he => Classical.byContradiction fun hk' => hne ⟨e, he, hk'⟩⟩
            have GE : Hid (∀ (sl : Value) (w1 : World), PtrsAt w1 (Old w1) sl (bs.drop rest) → Below w2.heap.size w2 w1 → Calls Tryd.prog 77 #[.agg #[.int .i64 op, .int .u64 n], sl] w1 fun e w3 => e = .returned (.pointer none) ∧ Below w'.heap.size w' w3) := by
              intro sl w1 hsl hb3
              obtain ⟨h1, h2⟩ := hp1.out
              have h1' : TrsAt w1 (OldBut w1 (.slice ad bs.length cp)) (p.reverse.map Ent.val) bs := TrsAt.frame (fun k hk => ⟨Nat.lt_of_lt_of_le hk.1 hb3.size, hk.2⟩) (fun k hk => hb3.block k hk.1) h1
              have hd := trs_drop h1' rest
              rw [HLP.out.1] at hd
              have hsz : sizes ((p.take m).reverse.map Ent.val) ≤ 1000000 := by
                have h3 := pile_sizes HF.out
                have h4 := sizes_append ((p.reverse.map Ent.val).take rest) ((p.reverse.map Ent.val).drop rest)
                rw [List.take_append_drop, HLP.out.1] at h4
                omega
              refine (nodeOver_mixed op n _ (bs.drop rest) sl w1 (OldBut w1 (.slice ad bs.length cp)) (fun k hk => hk.1) hsl hd ?_ ?_ hsz).mono ?_
              · rw [← HMM.out]
                have := HPL.out
                have := HR.out
                simp
                omega
              · rintro ⟨h0, hall⟩
                refine hgood ⟨h0, fun e he => ?_⟩
                rw [((pileT_ok j p HF.out).1 e (List.mem_of_mem_take he)).2]
                exact hall e.val (List.mem_map.2 ⟨e, by simpa using he, rfl⟩)
              · rintro e w3 ⟨he, hb4⟩
                exact ⟨he, HB2.out.trans ((hb3.trans (hb4.mono hb3.size)).mono HB2.out.size)⟩
            clear hgood HF HLP
            have HSH : Hid _ := hp1.out.2
            rcases HO.out.2 with ⟨hnil, hb0⟩ | ⟨g, cap', cur, hv, hg, hh, hcap1, hcap2, hcap3, hcur⟩
            · have hbs : bs = [] := List.length_eq_zero_iff.1 hb0
              subst hbs
              obtain rfl : rest = 0 := by simp at hr1; exact hr1
              obtain ⟨rfl, rfl⟩ : ad = none ∧ cp = 0 := by
                simp at hnil
                exact hnil
              have GC := fun (w1 : World) (hb3 : Below w2.heap.size w2 w1) => GE.out (.slice none 0 0) w1 ⟨by simp, Or.inl ⟨rfl, none, 0, rfl⟩⟩ hb3
              have hd2 : Below w2.heap.size w2 w2.drew := (Below.refl _ _).drew
              clear hnil hb0 HO hr1 hp1 HSH GE HPL HS
              go_region_with (go_at_call 77; refine (GC _ hd2).mono ?_; rintro e w3 ⟨rfl, hb3⟩; have HB3 : Hid _ := hb3; clear hb3)
              all_goals clear GC hd2
              all_goals
                go_wp2_with fail
                go_ret
                exact ⟨HB3.out, Or.inl ⟨HK.out, rfl⟩⟩
            · obtain ⟨rfl, rfl⟩ : ad = some ⟨g, 0, none⟩ ∧ cap' = cp := by
                simp at hv
                exact ⟨hv.1, hv.2.symm⟩
              have hcap2' : cap' ≤ 9223372036854775807 := hcap2
              have GC := fun (w1 : World) (hb3 : Below w2.heap.size w2 w1) => GE.out _ w1 (own_high (owns_below HSH.out hb3) rfl hr1 hpj) hb3
              obtain ⟨asl, hasl⟩ : ∃ asl, (if cap' = rest then some (⟨g, 0, none⟩ : Addr) else some ⟨g, rest, none⟩) = asl := ⟨_, rfl⟩
              rw [hasl] at GC
              have hd2 : Below w2.heap.size w2 w2.drew := (Below.refl _ _).drew
              clear hv hcur hcap2 hh HO hg hp1 HSH GE HPL HS
              go_region_with (go_at_call 77; refine (GC _ hd2).mono ?_; rintro e w3 ⟨rfl, hb3⟩; have HB3 : Hid _ := hb3; clear hb3)
              all_goals clear GC hd2 hasl
              all_goals
                go_wp2_with fail
                go_ret
                exact ⟨HB3.out, Or.inl ⟨HK.out, rfl⟩⟩
    · obtain rfl : j = t.length := by omega
      have HE := pile_end hk1 hk hv hv4 hl HF.out
      obtain ⟨ad, cp, hv7⟩ := own_shape HO.out
      by_cases h1 : bs.length = 1
      · obtain ⟨b0, rfl⟩ := List.length_eq_one_iff.1 h1
        obtain ⟨e0, rfl⟩ : ∃ e0, p = [e0] := List.length_eq_one_iff.1 hpl
        have hr := HE.2 e0 rfl
        have htr : TrAt wr (Old wr) e0.val b0 := TrAt.frame (fun k hk => hk.1) (fun _ _ => rfl) (HS.out.2 0 e0.val b0 rfl rfl)
        rcases HO.out.2 with ⟨_, hb0⟩ | ⟨g, cap', cur, hv, hg, hh, _⟩
        · simp at hb0
        have hcell := HO.out.cells (g := g) (by rw [hv]; rfl) 0 (ptr b0) rfl
        have hcell' : wr.cell? ⟨g, 0, none⟩ = some (ptr b0) := hcell
        have HR : Hid (Below w'.heap.size w' wr ∧ ∃ r : Tr, pileT k vars t t.length = some [⟨0, r.kind, r⟩] ∧ TrAt wr (Old wr) r b0) := ⟨HB.out, e0.val, hr, htr⟩
        clear hcell hr htr HE hh HO HS HF HB hv7
        subst hv
        go_wp2_with fail
        go_ret
        obtain ⟨h1, r, h2, h4⟩ := HR.out
        exact ⟨h1, Or.inr ⟨r, b0, h2, rfl, h4⟩⟩
      · have HK : Hid (kindL k vars t = 0) := HE.1 (by omega)
        have hne : ((bs.length : Int) != 1) = true := bne_iff_ne.2 (by omega)
        have hb48 : bs.length ≤ 48 := by
          have h1 := foldK_of_pileT HF.out
          have h2 := foldK_len _ _ _ h1
          simp at h2
          omega
        clear HE HF HS HO
        subst hv7
        go_wp2_with fail
        go_ret
        exact ⟨HB.out, Or.inl ⟨HK.out, rfl⟩⟩
theorem kindL_zero {wide vars : Int} {t : List Nd} (h : ¬ 0 < kindL wide vars t) : kindL wide vars t = 0 := by
  have h0 : kindL wide vars t = 0 ∨ 0 < kindL wide vars t := by
    by_cases hg : wideB wide = true ∧ 1 ≤ vars ∧ vars ≤ 4 ∧ 1 ≤ t.length ∧ t.length ≤ 48
    · cases hf : foldK wide vars t [] with
      | none => exact Or.inl (kind_none hf)
      | some q =>
        obtain ⟨p, hp, hq⟩ := pileE_kinds wide vars Tr.leaf Tr.one Tr.two t t.length q (Nat.le_refl _) (by rw [List.take_length]; exact hf)
        rw [kind_end hg (by rw [List.take_length]; exact hf)]
        unfold root1
        split
        · rename_i h1
          right
          obtain ⟨e, rfl⟩ : ∃ e, p = [e] := List.length_eq_one_iff.1 (by rw [← hq] at h1; simpa using h1)
          obtain ⟨k1, k2⟩ := (pileT_ok _ _ hp).1 e (by simp)
          have := Tr.kind_pos k1
          rw [← hq]
          simp
          omega
        · exact Or.inl rfl
    · exact Or.inl (kind_out hg)
  omega
/-- the root of a term that is not good: none -/
theorem rootOf_no (wide vars : Int) (v : Value) (t : List Nd) (w : World) (hT : Tab w) (h : NodesAt w v t) (hk : ¬ 0 < kindL wide vars t) :
    Calls Tryd.prog 56 #[.int .i64 wide, .int .i64 vars, v] w fun e w' => e = .returned (.pointer none) ∧ Below w.heap.size w w' := by
  by_cases hg : wideB wide = true ∧ 1 ≤ vars ∧ vars ≤ 4 ∧ t.length ≤ 48
  · obtain ⟨h1, h2, h3, h4⟩ := hg
    obtain ⟨k, rfl, hk1, hk64⟩ := wideB_true h1
    obtain ⟨hok, hlen, hN⟩ := h
    rcases hN with ⟨rfl, a, cap, rfl⟩ | ⟨b, off, cap, rfl, hlt, hc⟩
    · have g := rootOf_nil k vars a cap h1 ⟨h2, h3⟩ w
      refine g.mono ?_
      rintro e w' ⟨he, rfl⟩
      exact ⟨he, Below.refl _ _⟩
    · refine (rootOf_in k vars b off cap t hk1 hk64 h2 h3 h4 hok w hT hlt hc).mono ?_
      rintro e w' ⟨hb, ⟨_, he⟩ | ⟨r, p, hr, _⟩⟩
      · exact ⟨he, hb⟩
      · exfalso
        have hf := foldK_of_pileT hr
        have hl1 : 1 ≤ t.length := by
          by_cases h0 : 1 ≤ t.length
          · exact h0
          · obtain rfl : t = [] := List.length_eq_zero_iff.1 (by omega)
            simp [pileE] at hr
        have he := kind_end ⟨h1, h2, h3, hl1, h4⟩ hf
        have hkp : r.kind = 1 ∨ r.kind = 2 := Tr.kind_pos ((pileT_ok _ _ hr).1 _ (List.mem_singleton.2 rfl)).1
        simp [root1] at he
        omega
  · obtain ⟨a, cap, rfl⟩ := h.shape
    refine (rootOf_out wide vars a t.length cap h.2.1 hg w).mono ?_
    rintro e w' ⟨he, rfl⟩
    exact ⟨he, Below.refl _ _⟩
theorem rootOf_yes (wide vars : Int) (v : Value) (t : List Nd) (w : World) (hT : Tab w) (h : NodesAt w v t) (r : Tr) (hk : 0 < kindL wide vars t) (hr : pileT wide vars t t.length = some [⟨0, r.kind, r⟩]) :
    Calls Tryd.prog 56 #[.int .i64 wide, .int .i64 vars, v] w fun e w' => ∃ p, e = .returned (ptr p) ∧ TrAt w' (Old w') r p ∧ Below w.heap.size w w' := by
  obtain ⟨h1, h2, h3, h4, h5, _⟩ := root_tree hk
  obtain ⟨k, rfl, hk1, hk64⟩ := wideB_true h1
  obtain ⟨hok, hlen, hN⟩ := h
  rcases hN with ⟨rfl, _⟩ | ⟨b, off, cap, rfl, hlt, hc⟩
  · simp at h4
  refine (rootOf_in k vars b off cap t hk1 hk64 h2 h3 h5 hok w hT hlt hc).mono ?_
  rintro e w' ⟨hb, ⟨h0, _⟩ | ⟨r', p, hr', he, htr⟩⟩
  · omega
  · rw [hr] at hr'
    simp at hr'
    obtain rfl := hr'.2
    exact ⟨p, he, htr, hb⟩
end Go.Proofs.YtpgojamabmpjnaaDoor

namespace Go.Proofs.YtpgojamabmpjnaaDoor
open Go Go.RowKit
open M
set_option linter.unusedVariables false

theorem joinTerms_reads0 (wide vars op : Int) (a b : List Nd) (hwide0 : -9223372036854775808 ≤ wide) (hwide1 : wide ≤ 9223372036854775807) (hvars0 : -9223372036854775808 ≤ vars) (hvars1 : vars ≤ 9223372036854775807) (ho0 : -9223372036854775808 ≤ op) (ho1 : op ≤ 9223372036854775807) (hok : ∀ x ∈ a, NdOk x) (hl : a.length ≤ 1048576) (hokb : ∀ x ∈ b, NdOk x) (hlb : b.length ≤ 1048576) :
    ∀ (w1 : World) (B : Nat) (v1 : Value), OwnNodes w1 B v1 (joinL wide vars op a b) → NodesAt w1 v1 (joinL wide vars op a b) := by
  intro w1 B v1 ho
  refine nodes_of_own ?_ ?_ ho
  · intro x hx
    unfold joinL madeL at hx
    split at hx
    · split at hx
      · rcases List.mem_append.1 hx with h | h
        · rcases List.mem_append.1 h with h | h
          · exact hok x h
          · exact hokb x h
        · simp at h
          subst h
          exact ⟨ho0, ho1, by simp, by simp⟩
      · cases hx
    · cases hx
  · unfold joinL madeL
    split
    · split
      · simp
        omega
      · simp
    · simp
theorem joinTerms_len0 (wide vars op : Int) (a b : List Nd) : (joinL wide vars op a b).length ≤ a.length + b.length + 1 := by
  unfold joinL madeL
  split
  · split
    · simp
      omega
    · simp
  · simp
end Go.Proofs.YtpgojamabmpjnaaDoor

namespace Go.Proofs.YtpgojamabmpjnaaDoor
open Go Go.RowKit
open M
set_option linter.unusedVariables false

/-- all but a row is as it was, and the row is the old one or a new one -/
def Laid (w w' : World) (v v' : Value) : Prop := w.grownBy w' v.ownBlock ∧ (v'.ownBlock = v.ownBlock ∨ ∃ k, v'.ownBlock = some k ∧ w.heap.size ≤ k)
theorem Laid.refl (w : World) (v : Value) : Laid w w v v := ⟨⟨rfl, rfl, rfl, Nat.le_refl _, fun _ _ _ => rfl⟩, Or.inl rfl⟩
theorem Laid.apart {w w' : World} {v v' : Value} (h : Laid w w' v v') {k : Nat} (hk : OldBut w v k) : OldBut w' v' k ∧ w'.heap[k]? = w.heap[k]? := by
  refine ⟨⟨Nat.lt_of_lt_of_le hk.1 h.1.size, ?_⟩, h.1.block k hk.1 hk.2⟩
  rcases h.2 with e | ⟨g, e, hg⟩
  · rw [e]
    exact hk.2
  · rw [e]
    intro e2
    have := Option.some.inj e2
    have := hk.1
    omega
theorem Laid.trans {w w1 w2 : World} {v v1 v2 : Value} (h : Laid w w1 v v1) (h' : Laid w1 w2 v1 v2) : Laid w w2 v v2 := by
  refine ⟨⟨h'.1.os.trans h.1.os, h'.1.tape.trans h.1.tape, h'.1.output.trans h.1.output, Nat.le_trans h.1.size h'.1.size, fun k hk hne => ?_⟩, ?_⟩
  · have h1 := h.apart (k := k) ⟨hk, hne⟩
    rw [h'.1.block k h1.1.1 h1.1.2]
    exact h1.2
  · rcases h'.2 with e | ⟨g, e, hg⟩
    · rw [e]
      exact h.2
    · exact Or.inr ⟨g, e, Nat.le_trans h.1.size hg⟩
theorem Laid.tree {w w' : World} {v v' : Value} {t : Tr} {b : Nat} (h : Laid w w' v v') (ht : TrAt w (OldBut w v) t b) : TrAt w' (OldBut w' v') t b :=
  TrAt.frame (fun k hk => (h.apart hk).1) (fun k hk => (h.apart hk).2) ht
theorem flats_take {l : List Tr} {j : Nat} {a : Tr} (h : l[j]? = some a) : (l.take (j + 1)).flatMap Tr.flat = (l.take j).flatMap Tr.flat ++ a.flat := by
  rw [List.take_add_one, h, List.flatMap_append]
  simp
theorem PtrsAt.at {w : World} {S : Nat → Prop} {a : Option Addr} {n cap : Nat} {ps : List Nat} (h : PtrsAt w S (.slice a n cap) ps) {j p : Nat} (hp : ps[j]? = some p) : ∃ g off : Nat, a = some ⟨g, off, none⟩ ∧ S g ∧ w.cell? ⟨g, off + j, none⟩ = some (ptr p) := by
  rcases h.2 with ⟨rfl, _⟩ | ⟨g, off, cap', h1, h2, h3⟩
  · simp at hp
  · simp at h1
    exact ⟨g, off, h1.1, h2, h3 j p hp⟩
end Go.Proofs.YtpgojamabmpjnaaDoor

namespace Go.Proofs.YtpgojamabmpjnaaDoor
open Go Go.RowKit
open M
set_option linter.unusedVariables false

/-- parts that are not those that the op wants -/
theorem nodeOver_not (op n : Int) (qs : List (Option (Nat × Tr))) (g : Nat) (cap : Nat) (w : World) (hl : qs.length ≤ 48) (hg : g < w.heap.size)
    (hc : ∀ (i : Nat) (q : Option (Nat × Tr)), qs[i]? = some q → w.cell? ⟨g, i, none⟩ = some (pv q))
    (ht : ∀ (b : Nat) (a : Tr), some (b, a) ∈ qs → TrAt w (Old w) a b ∧ a.size ≤ 1000000)
    (hbad : ¬ (¬ ownOf op = 0 ∧ manyOf op = qs.length ∧ ∀ q ∈ qs, ∃ b a, q = some (b, a) ∧ a.kind = partOf op)) :
    Calls Tryd.prog 77 #[.agg #[.int .i64 op, .int .u64 n], .slice (some ⟨g, 0, none⟩) qs.length cap] w fun e w' => e = .returned (.pointer none) ∧ Below w.heap.size w w' := by
  by_cases h0 : ownOf op = 0 ∨ qs.length ≠ manyOf op
  · exact nodeOver_shape op n _ _ cap (by omega) h0 w
  · have h1 : ¬ ownOf op = 0 := fun e => h0 (Or.inl e)
    have h2 : manyOf op = qs.length := Classical.byContradiction fun e => h0 (Or.inr (fun e2 => e e2.symm))
    exact nodeOver_bad op n qs _ cap w h1 h2 (fun i q hq => ⟨g, 0, rfl, hg, by rw [Nat.zero_add]; exact hc i q hq⟩) ht (fun h => hbad ⟨h1, h2, h⟩)
/-- a root that may be none -/
def RootQ (wide vars : Int) (t : List Nd) (q : Option (Nat × Tr)) (w : World) : Prop :=
  match q with
  | none => ¬ 0 < kindL wide vars t
  | some (b, r) => 0 < kindL wide vars t ∧ pileT wide vars t t.length = some [⟨0, r.kind, r⟩] ∧ TrAt w (Old w) r b ∧ r.Ok wide vars ∧ r.flat = t ∧ r.kind = kindL wide vars t ∧ t.length ≤ 48 ∧ wideB wide = true ∧ 1 ≤ vars ∧ vars ≤ 4
theorem RootQ.below {wide vars : Int} {t : List Nd} {q : Option (Nat × Tr)} {w w' : World} (h : RootQ wide vars t q w) (hb : Below w.heap.size w w') : RootQ wide vars t q w' := by
  match q, h with
  | none, h => exact h
  | some (b, r), ⟨h1, h2, h3, h4⟩ => exact ⟨h1, h2, h3.below hb, h4⟩
theorem rootOf_q (wide vars : Int) (v : Value) (t : List Nd) (w : World) (hT : Tab w) (h : NodesAt w v t) :
    Calls Tryd.prog 56 #[.int .i64 wide, .int .i64 vars, v] w fun e w' => ∃ q, e = .returned (pv q) ∧ RootQ wide vars t q w' ∧ Below w.heap.size w w' := by
  by_cases hk : 0 < kindL wide vars t
  · obtain ⟨g1, g2, g3, g4, g5, r, hr, k1, k2, k3⟩ := root_tree hk
    refine (rootOf_yes wide vars v t w hT h r hk hr).mono ?_
    rintro e w' ⟨p, he, htr, hb⟩
    exact ⟨some (p, r), he, ⟨hk, hr, htr, k1, k2, k3, g5, g1, g2, g3⟩, hb⟩
  · refine (rootOf_no wide vars v t w hT h hk).mono ?_
    rintro e w' ⟨he, hb⟩
    exact ⟨none, he, hk, hb⟩
theorem RootQ.tree {wide vars : Int} {t : List Nd} {q : Option (Nat × Tr)} {w : World} (h : RootQ wide vars t q w) : ∀ (b : Nat) (a : Tr), q = some (b, a) → TrAt w (Old w) a b ∧ a.size ≤ 1000000 := by
  rintro b a rfl
  obtain ⟨h1, h2, h3, h4, h5, h6, h7, h8⟩ := h
  refine ⟨h3, ?_⟩
  have := a.flat_len
  rw [h5] at this
  omega
theorem okN_zero {wide vars op : Int} (h : manyOf op ≠ 0) : okN wide vars op 0 = true := by
  unfold okN
  rw [if_neg (by rintro rfl; exact h rfl), if_neg (by rintro rfl; exact h rfl), if_neg (by rintro rfl; exact h rfl)]
  rfl
theorem many_ops {op : Int} (h : manyOf op ≠ 0) : op = 13 ∨ op = 19 ∨ (3 ≤ op ∧ op ≤ 12) ∨ (14 ≤ op ∧ op ≤ 18) := by
  unfold manyOf at h
  split at h
  · omega
  · split at h
    · omega
    · exact absurd rfl h
theorem own_many {op : Int} (h : manyOf op ≠ 0) : ¬ ownOf op = 0 := by
  have := many_ops h
  unfold ownOf
  split
  · decide
  · split
    · decide
    · omega
theorem part_many {op : Int} (h : manyOf op ≠ 0) : 0 < partOf op := by
  have := many_ops h
  unfold partOf
  split
  · decide
  · split
    · decide
    · omega
theorem oneV_cells (w : World) (x : Value) : (w.alloc (.cells #[x] 72)).cell? ⟨w.heap.size, 0, none⟩ = some x := by simp
end Go.Proofs.YtpgojamabmpjnaaDoor

namespace Go.Proofs.YtpgojamabmpjnaaDoor
open Go Go.RowKit
open M
set_option linter.unusedVariables false

theorem varsL_len (t : List Nd) : (varsL t).length ≤ t.length := by
  have h : ∀ n : Nat, n ≤ t.length → (varsL (t.take n)).length ≤ n := by
    intro n
    induction n with
    | zero => intro _; simp [varsL]
    | succ n ih =>
      intro hn
      obtain ⟨x, hx⟩ : ∃ x, t[n]? = some x := ⟨t[n], List.getElem?_eq_getElem (by omega)⟩
      have e : t.take (n + 1) = t.take n ++ [x] := by
        rw [List.take_add_one, hx]
        rfl
      rw [e, varsL_snoc]
      have i1 := ih (by omega)
      split
      · have := (putL_len (varsL (t.take n)) x.2).1
        omega
      · omega
  have h2 := h t.length (Nat.le_refl _)
  rw [List.take_length] at h2
  exact h2
theorem varsIn_len0 (wide vars : Int) (t : List Nd) : (varsInL wide vars t).length ≤ t.length := by
  unfold varsInL
  split
  · exact varsL_len t
  · simp
theorem varsIn_reads0 (wide vars : Int) (t : List Nd) (hwide0 : -9223372036854775808 ≤ wide) (hwide1 : wide ≤ 9223372036854775807) (hvars0 : -9223372036854775808 ≤ vars) (hvars1 : vars ≤ 9223372036854775807) (hok : ∀ x ∈ t, NdOk x) (hl : t.length ≤ 1048576) :
    ∀ (w1 : World) (B : Nat) (v1 : Value), OwnInts w1 B v1 (varsInL wide vars t) → IntsAt w1 v1 (varsInL wide vars t) := by
  intro w1 B v1 ho
  have := varsIn_len0 wide vars t
  exact ints_of_own (by omega) ho
end Go.Proofs.YtpgojamabmpjnaaDoor

namespace Go.Proofs.YtpgojamabmpjnaaDoor
open Go Go.RowKit
open M
set_option linter.unusedVariables false

/-- of what lay there nothing but block g has turned -/
structure But (g : Nat) (w w' : World) : Prop where
  os : w'.os = w.os
  tape : w'.tape = w.tape
  output : w'.output = w.output
  size : w.heap.size ≤ w'.heap.size
  block : ∀ k, k ≠ g → k < w.heap.size → w'.heap[k]? = w.heap[k]?
theorem But.refl (g : Nat) (w : World) : But g w w := ⟨rfl, rfl, rfl, Nat.le_refl _, fun _ _ _ => rfl⟩
theorem But.trans {g : Nat} {u v w : World} (h : But g u v) (k : But g v w) : But g u w :=
  ⟨k.os.trans h.os, k.tape.trans h.tape, k.output.trans h.output, Nat.le_trans h.size k.size, fun i hi hs => (k.block i hi (Nat.lt_of_lt_of_le hs h.size)).trans (h.block i hi hs)⟩
theorem But.setCell {g : Nat} {u w : World} (h : But g u w) (o : Nat) (v : Value) : But g u (w.setCell ⟨g, o, none⟩ v) :=
  h.trans ⟨rfl, rfl, rfl, by simp [World.setCell], fun k hk _ => Below.heap_setCell _ _ _ _ hk⟩
theorem But.drew {g : Nat} {u w : World} (h : But g u w) : But g u w.drew := ⟨h.os, h.tape, h.output, h.size, h.block⟩
theorem But.below {B g : Nat} {w w' : World} (h : But g w w') (hB : B ≤ g) (hs : B ≤ w.heap.size) : Below B w w' :=
  ⟨h.os, h.tape, h.output, h.size, fun k hk => h.block k (by omega) (by omega)⟩
/-- four truths in memory -/
def bools (f : Int → Bool) : Array Value := #[.bool (f 0), .bool (f 1), .bool (f 2), .bool (f 3)]
theorem bools_put (f : Int → Bool) (i : Nat) (h : i < 4) : (bools f).setIfInBounds i (.bool true) = bools (fun j => f j || j == (i : Int)) := by
  match i, h with
  | 0, _ => simp [bools]
  | 1, _ => simp [bools]
  | 2, _ => simp [bools]
  | 3, _ => simp [bools]
abbrev OldNot (w : World) (g : Nat) : Nat → Prop := fun k => k < w.heap.size ∧ k ≠ g
end Go.Proofs.YtpgojamabmpjnaaDoor

namespace Go.Proofs.YtpgojamabmpjnaaDoor
open Go Go.RowKit
open M
set_option linter.unusedVariables false

theorem iDivWord_any (k : Nat) (hk1 : 1 ≤ k) (hk : k ≤ 64) (a b : Int) (ha0 : 0 ≤ a) (ha : a < pw k) (hb0 : 0 ≤ b) (hb : b < pw k) (w : World) (hT : Tab w) :
    Calls Tryd.prog 97 #[.int .i64 k, .int .u64 a, .int .u64 b] w fun e w' => e = .returned (.tuple #[.int .u64 (quotOf k a b), .int .u64 (remOf a b), .bool true]) ∧ (w' = w ∨ w' = w.drew) := by
  have hl := pw_le k hk
  have hg : (goodB k a && goodB k b) = true := by rw [good_of k hk1 hk a ha, good_of k hk1 hk b hb]; rfl
  unfold quotOf remOf
  by_cases h : b = 0
  · rw [if_pos h, if_pos h]
    subst h
    refine (iDivWord_zero k hk1 hk a ha0 (by omega) w hT hg).mono ?_
    rintro e w' ⟨he, hw⟩
    exact ⟨he, Or.inl hw⟩
  · rw [if_neg h, if_neg h]
    refine (iDivWord_yes k hk1 hk a b ha0 (by omega) hb0 (by omega) (by omega) w hT hg).mono ?_
    rintro e w' ⟨he, hw⟩
    exact ⟨he, Or.inr hw⟩
set_option maxHeartbeats 1000000 in
theorem numberOf_3 (k : Nat) (hk1 : 1 ≤ k) (hk : k ≤ 64) (a b : Int) (ha0 : 0 ≤ a) (ha : a < pw k) (hb0 : 0 ≤ b) (hb : b < pw k) (w : World) (hT : Tab w) :
    Calls Tryd.prog 91 #[.int .i64 k, .int .i64 3, .int .u64 a, .int .u64 b] w fun e w' => e = .returned (.int .u64 (doOp k 3 a b)) ∧ (w' = w ∨ w' = w.drew) := by
  have hl := pw_le k hk
  have hg : (goodB k a && goodB k b) = true := by rw [good_of k hk1 hk a ha, good_of k hk1 hk b hb]; rfl
  have e0 : doOp k 3 a b = cut k (IntKind.u64.wrap (a + b)) := rfl
  rw [e0]
  have g := iAddWord_yes k hk1 hk a b ha0 (by omega) hb0 (by omega) w hT hg
  clear e0 ha0 ha hb0 hb hl hg hT
  generalize cut k (IntKind.u64.wrap (a + b)) = Z at *
  go_enter Tryd.func91, Tryd.ntmps91
  go_wp2_with fail
  refine g.mono ?_
  rintro e w1 ⟨rfl, hw⟩
  clear g
  go_wp2_with fail
  go_ret
  exact ⟨rfl, Or.inl rfl⟩
set_option maxHeartbeats 1000000 in
theorem numberOf_4 (k : Nat) (hk1 : 1 ≤ k) (hk : k ≤ 64) (a b : Int) (ha0 : 0 ≤ a) (ha : a < pw k) (hb0 : 0 ≤ b) (hb : b < pw k) (w : World) (hT : Tab w) :
    Calls Tryd.prog 91 #[.int .i64 k, .int .i64 4, .int .u64 a, .int .u64 b] w fun e w' => e = .returned (.int .u64 (doOp k 4 a b)) ∧ (w' = w ∨ w' = w.drew) := by
  have hl := pw_le k hk
  have hg : (goodB k a && goodB k b) = true := by rw [good_of k hk1 hk a ha, good_of k hk1 hk b hb]; rfl
  have e0 : doOp k 4 a b = cut k (IntKind.u64.wrap (a - b)) := rfl
  rw [e0]
  have g := iSubWord_yes k hk1 hk a b ha0 (by omega) hb0 (by omega) w hT hg
  clear e0 ha0 ha hb0 hb hl hg hT
  generalize cut k (IntKind.u64.wrap (a - b)) = Z at *
  go_enter Tryd.func91, Tryd.ntmps91
  go_wp2_with fail
  refine g.mono ?_
  rintro e w1 ⟨rfl, hw⟩
  clear g
  go_wp2_with fail
  go_ret
  exact ⟨rfl, Or.inl rfl⟩
set_option maxHeartbeats 1000000 in
theorem numberOf_5 (k : Nat) (hk1 : 1 ≤ k) (hk : k ≤ 64) (a b : Int) (ha0 : 0 ≤ a) (ha : a < pw k) (hb0 : 0 ≤ b) (hb : b < pw k) (w : World) (hT : Tab w) :
    Calls Tryd.prog 91 #[.int .i64 k, .int .i64 5, .int .u64 a, .int .u64 b] w fun e w' => e = .returned (.int .u64 (doOp k 5 a b)) ∧ (w' = w ∨ w' = w.drew) := by
  have hl := pw_le k hk
  have hg : (goodB k a && goodB k b) = true := by rw [good_of k hk1 hk a ha, good_of k hk1 hk b hb]; rfl
  have e0 : doOp k 5 a b = cut k (IntKind.u64.wrap (a * b)) := rfl
  rw [e0]
  have g := iMulWord_yes k hk1 hk a b ha0 (by omega) hb0 (by omega) w hT hg
  clear e0 ha0 ha hb0 hb hl hg hT
  generalize cut k (IntKind.u64.wrap (a * b)) = Z at *
  go_enter Tryd.func91, Tryd.ntmps91
  go_wp2_with fail
  refine g.mono ?_
  rintro e w1 ⟨rfl, hw⟩
  clear g
  go_wp2_with fail
  go_ret
  exact ⟨rfl, Or.inl rfl⟩
set_option maxHeartbeats 1000000 in
theorem numberOf_6 (k : Nat) (hk1 : 1 ≤ k) (hk : k ≤ 64) (a b : Int) (ha0 : 0 ≤ a) (ha : a < pw k) (hb0 : 0 ≤ b) (hb : b < pw k) (w : World) (hT : Tab w) :
    Calls Tryd.prog 91 #[.int .i64 k, .int .i64 6, .int .u64 a, .int .u64 b] w fun e w' => e = .returned (.int .u64 (doOp k 6 a b)) ∧ (w' = w ∨ w' = w.drew) := by
  have hl := pw_le k hk
  have hg : (goodB k a && goodB k b) = true := by rw [good_of k hk1 hk a ha, good_of k hk1 hk b hb]; rfl
  have e0 : doOp k 6 a b = quotOf k a b := rfl
  rw [e0]
  have g := iDivWord_any k hk1 hk a b ha0 ha hb0 hb w hT
  clear e0 ha0 ha hb0 hb hl hg hT
  generalize quotOf k a b = Q at *
  generalize remOf a b = R at *
  go_enter Tryd.func91, Tryd.ntmps91
  go_wp2_with fail
  refine g.mono ?_
  rintro e w1 ⟨rfl, hw⟩
  clear g
  go_wp2_with fail
  go_ret
  exact ⟨rfl, hw⟩
set_option maxHeartbeats 1000000 in
theorem numberOf_7 (k : Nat) (hk1 : 1 ≤ k) (hk : k ≤ 64) (a b : Int) (ha0 : 0 ≤ a) (ha : a < pw k) (hb0 : 0 ≤ b) (hb : b < pw k) (w : World) (hT : Tab w) :
    Calls Tryd.prog 91 #[.int .i64 k, .int .i64 7, .int .u64 a, .int .u64 b] w fun e w' => e = .returned (.int .u64 (doOp k 7 a b)) ∧ (w' = w ∨ w' = w.drew) := by
  have hl := pw_le k hk
  have hg : (goodB k a && goodB k b) = true := by rw [good_of k hk1 hk a ha, good_of k hk1 hk b hb]; rfl
  have e0 : doOp k 7 a b = remOf a b := rfl
  rw [e0]
  have g := iDivWord_any k hk1 hk a b ha0 ha hb0 hb w hT
  clear e0 ha0 ha hb0 hb hl hg hT
  generalize quotOf k a b = Q at *
  generalize remOf a b = R at *
  go_enter Tryd.func91, Tryd.ntmps91
  go_wp2_with fail
  refine g.mono ?_
  rintro e w1 ⟨rfl, hw⟩
  clear g
  go_wp2_with fail
  go_ret
  exact ⟨rfl, hw⟩
set_option maxHeartbeats 1000000 in
theorem numberOf_8 (k : Nat) (hk1 : 1 ≤ k) (hk : k ≤ 64) (a b : Int) (ha0 : 0 ≤ a) (ha : a < pw k) (hb0 : 0 ≤ b) (hb : b < pw k) (w : World) (hT : Tab w) :
    Calls Tryd.prog 91 #[.int .i64 k, .int .i64 8, .int .u64 a, .int .u64 b] w fun e w' => e = .returned (.int .u64 (doOp k 8 a b)) ∧ (w' = w ∨ w' = w.drew) := by
  have hl := pw_le k hk
  have hg : (goodB k a && goodB k b) = true := by rw [good_of k hk1 hk a ha, good_of k hk1 hk b hb]; rfl
  have e0 : doOp k 8 a b = bits .and .u64 a b := rfl
  rw [e0]
  clear e0 ha0 ha hb0 hb hl hg hT
  go_enter Tryd.func91, Tryd.ntmps91
  go_wp2_with fail
  go_ret
  exact ⟨rfl, Or.inl rfl⟩
set_option maxHeartbeats 1000000 in
theorem numberOf_9 (k : Nat) (hk1 : 1 ≤ k) (hk : k ≤ 64) (a b : Int) (ha0 : 0 ≤ a) (ha : a < pw k) (hb0 : 0 ≤ b) (hb : b < pw k) (w : World) (hT : Tab w) :
    Calls Tryd.prog 91 #[.int .i64 k, .int .i64 9, .int .u64 a, .int .u64 b] w fun e w' => e = .returned (.int .u64 (doOp k 9 a b)) ∧ (w' = w ∨ w' = w.drew) := by
  have hl := pw_le k hk
  have hg : (goodB k a && goodB k b) = true := by rw [good_of k hk1 hk a ha, good_of k hk1 hk b hb]; rfl
  have e0 : doOp k 9 a b = bits .or .u64 a b := rfl
  rw [e0]
  clear e0 ha0 ha hb0 hb hl hg hT
  go_enter Tryd.func91, Tryd.ntmps91
  go_wp2_with fail
  go_ret
  exact ⟨rfl, Or.inl rfl⟩
set_option maxHeartbeats 1000000 in
theorem numberOf_10 (k : Nat) (hk1 : 1 ≤ k) (hk : k ≤ 64) (a b : Int) (ha0 : 0 ≤ a) (ha : a < pw k) (hb0 : 0 ≤ b) (hb : b < pw k) (w : World) (hT : Tab w) :
    Calls Tryd.prog 91 #[.int .i64 k, .int .i64 10, .int .u64 a, .int .u64 b] w fun e w' => e = .returned (.int .u64 (doOp k 10 a b)) ∧ (w' = w ∨ w' = w.drew) := by
  have hl := pw_le k hk
  have hg : (goodB k a && goodB k b) = true := by rw [good_of k hk1 hk a ha, good_of k hk1 hk b hb]; rfl
  have e0 : doOp k 10 a b = bits .xor .u64 a b := rfl
  rw [e0]
  clear e0 ha0 ha hb0 hb hl hg hT
  go_enter Tryd.func91, Tryd.ntmps91
  go_wp2_with fail
  go_ret
  exact ⟨rfl, Or.inl rfl⟩
set_option maxHeartbeats 1000000 in
theorem numberOf_11 (k : Nat) (hk1 : 1 ≤ k) (hk : k ≤ 64) (a b : Int) (ha0 : 0 ≤ a) (ha : a < pw k) (hb0 : 0 ≤ b) (hb : b < pw k) (w : World) (hT : Tab w) :
    Calls Tryd.prog 91 #[.int .i64 k, .int .i64 11, .int .u64 a, .int .u64 b] w fun e w' => e = .returned (.int .u64 (doOp k 11 a b)) ∧ (w' = w ∨ w' = w.drew) := by
  have hl := pw_le k hk
  have hg : (goodB k a && goodB k b) = true := by rw [good_of k hk1 hk a ha, good_of k hk1 hk b hb]; rfl
  have e0 : doOp k 11 a b = moved k a b true := rfl
  rw [e0]
  have g := iShiftWord_yes k hk1 hk a b true ha0 ha hb0 hb w hT hg
  clear e0 ha0 ha hb0 hb hl hg hT
  generalize moved k a b true = Z at *
  go_enter Tryd.func91, Tryd.ntmps91
  go_wp2_with fail
  refine g.mono ?_
  rintro e w1 ⟨rfl, hw⟩
  clear g
  go_wp2_with fail
  go_ret
  exact ⟨rfl, Or.inl rfl⟩
set_option maxHeartbeats 1000000 in
theorem numberOf_12 (k : Nat) (hk1 : 1 ≤ k) (hk : k ≤ 64) (a b : Int) (ha0 : 0 ≤ a) (ha : a < pw k) (hb0 : 0 ≤ b) (hb : b < pw k) (w : World) (hT : Tab w) :
    Calls Tryd.prog 91 #[.int .i64 k, .int .i64 12, .int .u64 a, .int .u64 b] w fun e w' => e = .returned (.int .u64 (doOp k 12 a b)) ∧ (w' = w ∨ w' = w.drew) := by
  have hl := pw_le k hk
  have hg : (goodB k a && goodB k b) = true := by rw [good_of k hk1 hk a ha, good_of k hk1 hk b hb]; rfl
  have e0 : doOp k 12 a b = moved k a b false := rfl
  rw [e0]
  have g := iShiftWord_yes k hk1 hk a b false ha0 ha hb0 hb w hT hg
  clear e0 ha0 ha hb0 hb hl hg hT
  generalize moved k a b false = Z at *
  go_enter Tryd.func91, Tryd.ntmps91
  go_wp2_with fail
  refine g.mono ?_
  rintro e w1 ⟨rfl, hw⟩
  clear g
  go_wp2_with fail
  go_ret
  exact ⟨rfl, Or.inl rfl⟩
set_option maxHeartbeats 1000000 in
theorem numberOf_flip (k : Nat) (hk1 : 1 ≤ k) (hk : k ≤ 64) (a b : Int) (ha0 : 0 ≤ a) (ha : a < pw k) (w : World) (hT : Tab w) :
    Calls Tryd.prog 91 #[.int .i64 k, .int .i64 13, .int .u64 a, .int .u64 b] w fun e w' => e = .returned (.int .u64 (pw k - 1 - a)) ∧ (w' = w ∨ w' = w.drew) := by
  have g := iFlipWord_yes k hk a ha0 ha w hT (good_of k hk1 hk a ha)
  generalize pw k - 1 - a = Z at *
  clear ha0 ha hT
  go_enter Tryd.func91, Tryd.ntmps91
  go_wp2_with fail
  refine g.mono ?_
  rintro e w1 ⟨rfl, hw⟩
  clear g
  go_wp2_with fail
  go_ret
  exact ⟨rfl, Or.inl rfl⟩
theorem numberOf_any (op : Int) (hop : 3 ≤ op ∧ op ≤ 12) (k : Nat) (hk1 : 1 ≤ k) (hk : k ≤ 64) (a b : Int) (ha0 : 0 ≤ a) (ha : a < pw k) (hb0 : 0 ≤ b) (hb : b < pw k) (w : World) (hT : Tab w) :
    Calls Tryd.prog 91 #[.int .i64 k, .int .i64 op, .int .u64 a, .int .u64 b] w fun e w' => e = .returned (.int .u64 (doOp k op a b)) ∧ (w' = w ∨ w' = w.drew) := by
  rcases (show op = 3 ∨ op = 4 ∨ op = 5 ∨ op = 6 ∨ op = 7 ∨ op = 8 ∨ op = 9 ∨ op = 10 ∨ op = 11 ∨ op = 12 by omega) with rfl | rfl | rfl | rfl | rfl | rfl | rfl | rfl | rfl | rfl
  · exact numberOf_3 k hk1 hk a b ha0 ha hb0 hb w hT
  · exact numberOf_4 k hk1 hk a b ha0 ha hb0 hb w hT
  · exact numberOf_5 k hk1 hk a b ha0 ha hb0 hb w hT
  · exact numberOf_6 k hk1 hk a b ha0 ha hb0 hb w hT
  · exact numberOf_7 k hk1 hk a b ha0 ha hb0 hb w hT
  · exact numberOf_8 k hk1 hk a b ha0 ha hb0 hb w hT
  · exact numberOf_9 k hk1 hk a b ha0 ha hb0 hb w hT
  · exact numberOf_10 k hk1 hk a b ha0 ha hb0 hb w hT
  · exact numberOf_11 k hk1 hk a b ha0 ha hb0 hb w hT
  · exact numberOf_12 k hk1 hk a b ha0 ha hb0 hb w hT
theorem bitOf_any (p : Bool) (w : World) : Calls Tryd.prog 89 #[.bool p] w fun e w' => e = .returned (.int .u64 (if p = true then 1 else 0)) ∧ w' = w := by
  cases p
  · go_enter Tryd.func89, Tryd.ntmps89
    go_wp2
    go_ret
    exact ⟨rfl, rfl⟩
  · go_enter Tryd.func89, Tryd.ntmps89
    go_wp2
    go_ret
    exact ⟨rfl, rfl⟩
theorem holdsOf_14 (k : Nat) (hk1 : 1 ≤ k) (hk : k ≤ 64) (a b : Int) (ha0 : 0 ≤ a) (ha : a < pw k) (hb0 : 0 ≤ b) (hb : b < pw k) (w : World) (hT : Tab w) :
    Calls Tryd.prog 90 #[.int .i64 k, .int .i64 14, .int .u64 a, .int .u64 b] w fun e w' => ∃ p : Bool, e = .returned (.bool p) ∧ (if p = true then 1 else 0) = doOp k 14 a b ∧ w' = w := by
  have HE : Hid ((if (a == b) = true then (1 : Int) else 0) = doOp k 14 a b) := by
    show _ = (if _ then (1 : Int) else 0)
    simp
  clear ha0 ha hb0 hb hT
  go_enter Tryd.func90, Tryd.ntmps90
  go_wp2_with fail
  go_ret
  exact ⟨_, rfl, HE.out, rfl⟩
theorem holdsOf_15 (k : Nat) (hk1 : 1 ≤ k) (hk : k ≤ 64) (a b : Int) (ha0 : 0 ≤ a) (ha : a < pw k) (hb0 : 0 ≤ b) (hb : b < pw k) (w : World) (hT : Tab w) :
    Calls Tryd.prog 90 #[.int .i64 k, .int .i64 15, .int .u64 a, .int .u64 b] w fun e w' => ∃ p : Bool, e = .returned (.bool p) ∧ (if p = true then 1 else 0) = doOp k 15 a b ∧ w' = w := by
  have HE : Hid ((if (decide (a < b)) = true then (1 : Int) else 0) = doOp k 15 a b) := by
    show _ = (if _ then (1 : Int) else 0)
    simp
  clear ha0 ha hb0 hb hT
  go_enter Tryd.func90, Tryd.ntmps90
  go_wp2_with fail
  go_ret
  exact ⟨_, rfl, HE.out, rfl⟩
set_option maxHeartbeats 1000000 in
theorem holdsOf_16 (k : Nat) (hk1 : 1 ≤ k) (hk : k ≤ 64) (a b : Int) (ha0 : 0 ≤ a) (ha : a < pw k) (hb0 : 0 ≤ b) (hb : b < pw k) (w : World) (hT : Tab w) :
    Calls Tryd.prog 90 #[.int .i64 k, .int .i64 16, .int .u64 a, .int .u64 b] w fun e w' => ∃ p : Bool, e = .returned (.bool p) ∧ (if p = true then 1 else 0) = doOp k 16 a b ∧ w' = w := by
  obtain ⟨j, rfl⟩ : ∃ j, k = j + 1 := ⟨k - 1, by omega⟩
  have hg : (goodB ((j : Int) + 1) a && goodB ((j : Int) + 1) b) = true := by
    have h1 := good_of (j + 1) hk1 hk a ha
    have h2 := good_of (j + 1) hk1 hk b hb
    rw [show ((j + 1 : Nat) : Int) = (j : Int) + 1 from by omega] at h1 h2
    rw [h1, h2]
    rfl
  have g := iLessSigned_yes j hk a b ha0 ha hb0 hb w hT hg
  rw [show (j : Int) + 1 = ((j + 1 : Nat) : Int) from by omega] at g
  have HE : Hid ((if (decide (sgn (j + 1) a < sgn (j + 1) b)) = true then (1 : Int) else 0) = doOp (j + 1) 16 a b) := by
    show _ = (if sgn (j + 1) a < sgn (j + 1) b then (1 : Int) else 0)
    simp
  generalize decide (sgn (j + 1) a < sgn (j + 1) b) = Z at *
  generalize doOp (j + 1) 16 a b = Y at *
  generalize j + 1 = k at *
  clear ha0 ha hb0 hb hT hg
  go_enter Tryd.func90, Tryd.ntmps90
  go_wp2_with fail
  refine g.mono ?_
  rintro e w1 ⟨rfl, rfl⟩
  clear g
  go_wp2_with fail
  go_ret
  exact ⟨_, rfl, HE.out, rfl⟩
theorem holdsOf_17 (k : Nat) (a b : Int) (ha : a = 0 ∨ a = 1) (hb : b = 0 ∨ b = 1) (w : World) :
    Calls Tryd.prog 90 #[.int .i64 k, .int .i64 17, .int .u64 a, .int .u64 b] w fun e w' => ∃ p : Bool, e = .returned (.bool p) ∧ (if p = true then 1 else 0) = doOp k 17 a b ∧ w' = w := by
  rcases ha with rfl | rfl <;> rcases hb with rfl | rfl
  all_goals
    go_enter Tryd.func90, Tryd.ntmps90
    go_wp2_with fail
    go_ret
    exact ⟨_, rfl, rfl, rfl⟩
theorem holdsOf_18 (k : Nat) (a b : Int) (ha : a = 0 ∨ a = 1) (hb : b = 0 ∨ b = 1) (w : World) :
    Calls Tryd.prog 90 #[.int .i64 k, .int .i64 18, .int .u64 a, .int .u64 b] w fun e w' => ∃ p : Bool, e = .returned (.bool p) ∧ (if p = true then 1 else 0) = doOp k 18 a b ∧ w' = w := by
  rcases ha with rfl | rfl <;> rcases hb with rfl | rfl
  all_goals
    go_enter Tryd.func90, Tryd.ntmps90
    go_wp2_with fail
    go_ret
    exact ⟨_, rfl, rfl, rfl⟩
theorem holdsOf_no (k : Nat) (a b : Int) (ha : a = 0 ∨ a = 1) (w : World) :
    Calls Tryd.prog 90 #[.int .i64 k, .int .i64 19, .int .u64 a, .int .u64 b] w fun e w' => ∃ p : Bool, e = .returned (.bool p) ∧ (if p = true then 1 else 0) = 1 - a ∧ w' = w := by
  rcases ha with rfl | rfl
  all_goals
    go_enter Tryd.func90, Tryd.ntmps90
    go_wp2_with fail
    go_ret
    exact ⟨_, rfl, rfl, rfl⟩
end Go.Proofs.YtpgojamabmpjnaaDoor

namespace Go.Proofs.YtpgojamabmpjnaaDoor
open Go Go.RowKit
open M
set_option linter.unusedVariables false

end Go.Proofs.YtpgojamabmpjnaaDoor

namespace Go.Proofs.YtpgojamabmpjnaaDoor
open Go Go.RowKit
open M
set_option linter.unusedVariables false

/-- what value does with a tree -/
def ValP (k : Nat) (vars : Int) (st : List Int) (sv : Value) (r : Tr) : Prop := ∀ (b : Nat) (w : World), Tab w → TrAt w (Old w) r b → StAt w sv st → r.Ok k vars → Pos r → VarsBelow r st.length →
  Calls Tryd.prog 78 #[ptr b, .int .i64 k, sv] w fun e w' => e = .returned (.int .u64 (trVal k st r)) ∧ Below w.heap.size w w'
set_option maxRecDepth 100000 in
set_option maxHeartbeats 1000000 in
theorem value_lit (k : Nat) (sv : Value) (b : Nat) (op n : Int) (w : World) (hop : op = 1 ∨ op = 20) (c0 : w.cell? ⟨b, 0, none⟩ = some (.int .i64 op)) (c1 : w.cell? ⟨b, 1, none⟩ = some (.int .u64 n)) :
    Calls Tryd.prog 78 #[ptr b, .int .i64 k, sv] w fun e w' => e = .returned (.int .u64 n) ∧ w' = w := by
  rcases hop with rfl | rfl
  all_goals
    go_enter Tryd.func78, Tryd.ntmps78
    go_wp2_with fail
    go_ret
    exact ⟨rfl, rfl⟩
set_option maxRecDepth 100000 in
set_option maxHeartbeats 1000000 in
theorem value_var (k : Nat) (sv : Value) (st : List Int) (b i : Nat) (s : Int) (w : World) (hst : st.length ≤ 1048576) (hs : StAt w sv st) (hi : st[i]? = some s) (c0 : w.cell? ⟨b, 0, none⟩ = some (.int .i64 2)) (c1 : w.cell? ⟨b, 1, none⟩ = some (.int .u64 i)) :
    Calls Tryd.prog 78 #[ptr b, .int .i64 k, sv] w fun e w' => e = .returned (.int .u64 s) ∧ w' = w := by
  have hil : i < st.length := (List.getElem?_eq_some_iff.1 hi).1
  rcases hs with ⟨rfl, _⟩ | ⟨sb, so, sc, rfl, hsb, hcs⟩
  · simp at hil
  · have cs := hcs i s hi
    clear hcs hi
    go_enter Tryd.func78, Tryd.ntmps78
    go_wp2_with fail
    go_ret
    exact ⟨rfl, rfl⟩
/-- the two values of parts, 0 where there is none -/
def twoOf (l : List Int) : Array Value := #[.int .u64 (l.getD 0 0), .int .u64 (l.getD 1 0)]
theorem twoOf_put (l : List Int) (v : Int) (h : l.length < 2) : (twoOf l).setIfInBounds l.length (.int .u64 v) = twoOf (l ++ [v]) := by
  match l, h with
  | [], _ => rfl
  | [a], _ => rfl
  | _ :: _ :: _, h => simp at h; omega
set_option maxRecDepth 100000 in
set_option maxHeartbeats 4000000 in
theorem value_parts (k : Nat) (vars : Int) (st : List Int) (sv : Value) (r : Tr) (ih : ∀ q ∈ r.parts, ValP k vars st sv q) (hne : r.parts ≠ []) (Z : Int)
    (hfin : (r.kind = 1 ∧ ∀ w1, Tab w1 → Calls Tryd.prog 91 #[.int .i64 k, .int .i64 r.nd.1, .int .u64 ((r.parts.map (trVal k st)).getD 0 0), .int .u64 ((r.parts.map (trVal k st)).getD 1 0)] w1 fun e w' => e = .returned (.int .u64 Z) ∧ (w' = w1 ∨ w' = w1.drew)) ∨
      (r.kind = 2 ∧ ∀ w1, Tab w1 → Calls Tryd.prog 90 #[.int .i64 k, .int .i64 r.nd.1, .int .u64 ((r.parts.map (trVal k st)).getD 0 0), .int .u64 ((r.parts.map (trVal k st)).getD 1 0)] w1 fun e w' => ∃ p : Bool, e = .returned (.bool p) ∧ (if p = true then 1 else 0) = Z ∧ w' = w1))
    (b : Nat) (w : World) (hT : Tab w) (htr : TrAt w (Old w) r b) (hs : StAt w sv st) (hok : r.Ok k vars) (hp : Pos r) (hv : VarsBelow r st.length) :
    Calls Tryd.prog 78 #[ptr b, .int .i64 k, sv] w fun e w' => e = .returned (.int .u64 Z) ∧ Below w.heap.size w w' := by
  obtain ⟨ps, ⟨hb, n0, n1, n2, _, pvl, n4, hpv⟩, hpt⟩ := trAt_open htr
  have hmany := (Tr.ok_nd hok).2.2
  have hpl2 : ps.length ≤ 2 := by
    have h2 : r.parts.length ≤ 2 := by cases r <;> simp [Tr.parts]
    have := hpt.1
    omega
  have hm0 : manyOf r.nd.1 ≠ 0 := by
    rw [hmany]
    intro e
    exact hne (List.length_eq_zero_iff.1 e)
  have hops := many_ops hm0
  have e1 : (r.nd.1 == 1) = false := beq_eq_false_iff_ne.2 (by omega)
  have e20 : (r.nd.1 == 20) = false := beq_eq_false_iff_ne.2 (by omega)
  have e2 : (r.nd.1 == 2) = false := beq_eq_false_iff_ne.2 (by omega)
  have HIH : Hid (∀ (j q' : Nat) (q : Tr) (w1 : World), r.parts[j]? = some q → ps[j]? = some q' → Below w.heap.size w w1 → Calls Tryd.prog 78 #[ptr q', .int .i64 k, sv] w1 fun e w' => e = .returned (.int .u64 (trVal k st q)) ∧ Below w1.heap.size w1 w') := by
    intro j q' q w1 hq hq' hb1
    have hmem := List.mem_of_getElem? hq
    have hfl : ∀ x ∈ q.flat, x ∈ r.flat := by
      intro x hx
      rw [Tr.flat_eq r]
      exact List.mem_append_left _ (List.mem_flatMap.2 ⟨q, hmem, hx⟩)
    exact ih q hmem q' w1 (hT.below hb1 hT.some) ((hpt.2 j q q' hq hq').below hb1) (hs.below hb1) (Tr.ok_parts hok q hmem).2 (fun x hx => hp x (hfl x hx)) (fun x hx => hv x (hfl x hx))
  obtain ⟨pa, pc, hpsh⟩ := hpv.shape
  have HPV : Hid _ := hpv
  have HL : Hid (r.parts.length = ps.length) := hpt.1
  have HT : Hid (Tab w) := hT
  have HFIN : Hid _ := hfin
  have HN0 : Hid _ := n0
  have HN2 : Hid _ := n2
  have HBD : Hid (b < w.heap.size) := hb
  clear ih hpt hpv htr hs hp hv hok hT hfin hne hmany hm0 hops hb
  subst hpsh
  have n4a : (w.alloc (.cells #[.int .u64 0, .int .u64 0] 140)).cell? ⟨b, 4, none⟩ = some (.slice pa ps.length pc) := by
    rw [← n4]
    exact World.cell?_of_block (w := w) (a := ⟨b, 4, none⟩) (Below.heap_alloc _ _ _ HBD.out)
  generalize r.nd.1 = op at *
  go_enter Tryd.func78, Tryd.ntmps78
  go_wp2_with fail
  go_loopw [38] (fun i wr => ∃ j : Nat, j ≤ ps.length ∧ i = .int .i64 j ∧ Hid (wr.heap[w.heap.size]? = some (.cells (twoOf ((r.parts.take j).map (trVal k st))) 140 (0, 0))) ∧ Hid (Below w.heap.size w wr)) (fun i _ => ps.length - (intOf i).toNat)
  case atStart =>
    refine ⟨0, by omega, rfl, ?_, (Below.refl _ _).alloc (Nat.le_refl _) _⟩
    show (w.heap.push _)[w.heap.size]? = _
    simp [twoOf]
  case round =>
    obtain ⟨j, hj, rfl, HH, HB⟩ := hrel
    by_cases hlt' : j < ps.length
    · obtain ⟨p, hp⟩ : ∃ p, ps[j]? = some p := ⟨ps[j], List.getElem?_eq_getElem hlt'⟩
      obtain ⟨q, hq⟩ : ∃ q, r.parts[j]? = some q := ⟨r.parts[j]'(by have := HL.out; omega), List.getElem?_eq_getElem _⟩
      obtain ⟨g, off, rfl, hg, c0⟩ := PtrsAt.at HPV.out hp
      rw [← HB.out.cell (p := ⟨g, off + j, none⟩) hg] at c0
      have gI := HIH.out j p q wr hq hp HB.out
      have HE : Hid ((r.parts.take (j + 1)).map (trVal k st) = (r.parts.take j).map (trVal k st) ++ [trVal k st q] ∧ ((r.parts.take j).map (trVal k st)).length = j) := by
        constructor
        · rw [List.take_add_one, hq]
          simp
        · have := HL.out
          simp
          omega
      have hlw : w.heap.size < wr.heap.size := (Array.getElem?_eq_some_iff.1 HH.out).1
      clear hp hq hg
      generalize trVal k st q = vq at *
      generalize (r.parts.take j).map (trVal k st) = vj at *
      go_wp2_with fail
      refine gI.mono ?_
      rintro e w2 ⟨rfl, hb2⟩
      have HH2 : Hid (w2.heap[w.heap.size]? = some (.cells (twoOf vj) 140 (0, 0))) := by
        show w2.heap[w.heap.size]? = _
        rw [hb2.block _ hlw]
        exact HH.out
      have HB2 : Hid (Below w.heap.size w w2) := HB.out.trans (hb2.mono HB.out.size)
      have d0 : w2.cell? ⟨w.heap.size, j, none⟩ = some (.int .u64 (vj.getD j 0)) := by
        rw [cell_heap HH2.out]
        rcases (show j = 0 ∨ j = 1 by omega) with rfl | rfl <;> rfl
      have f0 := frozen_heap (o := j) HH2.out
      have HH3 : Hid ((w2.setCell ⟨w.heap.size, j, none⟩ (.int .u64 vq)).heap[w.heap.size]? = some (.cells (twoOf ((r.parts.take (j + 1)).map (trVal k st))) 140 (0, 0))) := by
        show (w2.setCell ⟨w.heap.size, j, none⟩ (.int .u64 vq)).heap[w.heap.size]? = _
        rw [heap_set HH2.out, HE.out.1]
        have h := twoOf_put vj vq (by have := HE.out.2; omega)
        rw [HE.out.2] at h
        rw [h]
      have HB3 : Hid (Below w.heap.size w (w2.setCell ⟨w.heap.size, j, none⟩ (.int .u64 vq))) := HB2.out.setCell (p := ⟨w.heap.size, j, none⟩) (Nat.le_refl _) _
      clear gI hb2
      go_wp2_with fail
      go_roundw
      case rel => exact ⟨j + 1, by omega, by go_num, HH3, HB3⟩
      case measure => simp [intOf]; omega
    · obtain rfl : j = ps.length := by omega
      have hh : wr.heap[w.heap.size]? = some (.cells (twoOf (r.parts.map (trVal k st))) 140 (0, 0)) := by
        have h1 := HH.out
        rw [show r.parts.take ps.length = r.parts from by rw [← HL.out, List.take_length]] at h1
        exact h1
      have d0 := cell_heap (o := 0) hh
      have d1 := cell_heap (o := 1) hh
      simp only [twoOf, List.getElem?_toArray, List.getElem?_cons_succ, List.getElem?_cons_zero] at d0 d1
      have m0 : wr.cell? ⟨b, 0, none⟩ = some (.int .i64 op) := by
        rw [HB.out.cell (p := ⟨b, 0, none⟩) HBD.out]
        exact HN0.out
      have m2 : wr.cell? ⟨b, 2, none⟩ = some (.int .i64 r.kind) := by
        rw [HB.out.cell (p := ⟨b, 2, none⟩) HBD.out]
        exact HN2.out
      have HTr : Hid (Tab wr) := HT.out.below HB.out HT.out.some
      clear HH hh HIH HPV HL
      generalize (r.parts.map (trVal k st)).getD 0 0 = x0 at *
      generalize (r.parts.map (trVal k st)).getD 1 0 = x1 at *
      rcases HFIN.out with ⟨hk, gN⟩ | ⟨hk, gH⟩
      · rw [hk] at m2
        have g9 := gN wr.drew HTr.out
        clear hk gN HFIN
        go_wp2_with fail
        go_region_with (go_at_call 91; refine g9.mono ?_; rintro e w9 ⟨rfl, hw9⟩; have HB9 : Hid (Below w.heap.size w w9) := (by rcases hw9 with rfl | rfl; exact HB.out.drew; exact HB.out.drew.drew); clear hw9)
        all_goals
          clear g9
          go_wp2_with fail
          go_ret
          exact ⟨rfl, HB9.out⟩
      · rw [hk] at m2
        have g9 := gH wr.drew HTr.out
        have gB : ∀ p : Bool, (if p = true then (1 : Int) else 0) = Z → Calls Tryd.prog 89 #[.bool p] wr.drew fun e w' => e = .returned (.int .u64 Z) ∧ w' = wr.drew := fun p hz => by rw [← hz]; exact bitOf_any p wr.drew
        have GB : Hid _ := gB
        clear gB
        clear hk gH HFIN
        go_wp2_with fail
        go_region_with (first | (go_at_call 90; refine g9.mono ?_; rintro e w9 ⟨pz, rfl, hz9, rfl⟩; have HZ9 : Hid _ := hz9; clear hz9) | (go_at_call 89; refine (GB.out _ HZ9.out).mono ?_; rintro e w9 ⟨rfl, rfl⟩))
        all_goals
          clear g9 GB
          go_wp2_with fail
          go_ret
          exact ⟨rfl, HB.out.drew⟩
theorem value_any (k : Nat) (hk1 : 1 ≤ k) (hk : k ≤ 64) (vars : Int) (st : List Int) (sv : Value) (hst : ∀ s ∈ st, 0 ≤ s ∧ s < pw k) (hsl : st.length ≤ 1048576) : ∀ r : Tr, ValP k vars st sv r := by
  apply Tr.ind
  intro r ih
  cases r with
  | leaf x =>
    intro b w hT htr hs hok hp hv
    obtain ⟨op, n⟩ := x
    obtain ⟨_, n0, n1, _⟩ := htr
    obtain ⟨h1, h2, m0⟩ := hok
    have hn0 := hp (op, n) (by simp [Tr.flat])
    have hvv := hv (op, n) (by simp [Tr.flat])
    simp only at h1 h2 m0 hn0 hvv n0 n1
    have hop : op = 1 ∨ op = 2 ∨ op = 20 := by
      unfold manyOf at m0
      unfold ownOf at h1
      split at m0
      · omega
      · split at m0
        · omega
        · split at h1
          · omega
          · split at h1 <;> omega
    by_cases h2' : op = 2
    · subst h2'
      obtain ⟨i, rfl⟩ := Int.eq_ofNat_of_zero_le hn0
      have hlt := hvv rfl
      have hi : st[i]? = some (trVal k st (.leaf (2, (i : Int)))) := by
        show st[i]? = some (st.getD ((i : Int).toNat) 0)
        rw [Int.toNat_natCast] at hlt ⊢
        rw [List.getD_eq_getElem?_getD, List.getElem?_eq_getElem hlt]
        rfl
      refine (value_var k sv st b i _ w hsl hs hi n0 n1).mono ?_
      rintro e w' ⟨he, rfl⟩
      exact ⟨he, Below.refl _ _⟩
    · have e : trVal k st (.leaf (op, n)) = n := by
        show val0 st (op, n) = n
        unfold val0
        rw [if_neg h2']
      rw [e]
      refine (value_lit k sv b op n w (by omega) n0 n1).mono ?_
      rintro e w' ⟨he, rfl⟩
      exact ⟨he, Below.refl _ _⟩
  | one x a =>
    intro b w hT htr hs hok hp hv
    obtain ⟨op, n⟩ := x
    obtain ⟨_, _, m1, hka, ha⟩ := id hok
    have hvo := trVal_ok hk1 hk hst ha (fun x hx => hp x (by simp [Tr.flat, hx])) (fun x hx => hv x (by simp [Tr.flat, hx]))
    simp only at m1 hka
    have hop : op = 13 ∨ op = 19 := by
      unfold manyOf at m1
      split at m1
      · assumption
      · split at m1 <;> omega
    refine value_parts k vars st sv (.one (op, n) a) ih (by simp [Tr.parts]) _ ?_ b w hT htr hs hok hp hv
    rcases hop with rfl | rfl
    · left
      rcases hvo with ⟨_, h0, h1⟩ | ⟨h2, _⟩
      · exact ⟨rfl, fun w1 hT1 => numberOf_flip k hk1 hk (trVal k st a) 0 h0 h1 w1 hT1⟩
      · simp only at h2
        rw [h2] at hka
        cases hka
    · right
      rcases hvo with ⟨h2, _⟩ | ⟨_, h0⟩
      · simp only at h2
        rw [h2] at hka
        cases hka
      · exact ⟨rfl, fun w1 hT1 => holdsOf_no k (trVal k st a) 0 h0 w1⟩
  | two x a c =>
    intro b w hT htr hs hok hp hv
    obtain ⟨op, n⟩ := x
    obtain ⟨_, _, m2, hka, hkc, ha, hc⟩ := id hok
    have hva := trVal_ok hk1 hk hst ha (fun x hx => hp x (by simp [Tr.flat, hx])) (fun x hx => hv x (by simp [Tr.flat, hx]))
    have hvc := trVal_ok hk1 hk hst hc (fun x hx => hp x (by simp [Tr.flat, hx])) (fun x hx => hv x (by simp [Tr.flat, hx]))
    simp only at m2 hka hkc
    have hop : (3 ≤ op ∧ op ≤ 12) ∨ (14 ≤ op ∧ op ≤ 16) ∨ (op = 17 ∨ op = 18) := by
      unfold manyOf at m2
      split at m2
      · cases m2
      · split at m2 <;> omega
    have wa := hva.word hk1
    have wc := hvc.word hk1
    simp only at wa wc
    refine value_parts k vars st sv (.two (op, n) a c) ih (by simp [Tr.parts]) _ ?_ b w hT htr hs hok hp hv
    rcases hop with hop | hop | hop
    · left
      exact ⟨by show ownOf op = 1; unfold ownOf; rw [if_pos (by omega)], fun w1 hT1 => numberOf_any op hop k hk1 hk (trVal k st a) (trVal k st c) wa.1 wa.2 wc.1 wc.2 w1 hT1⟩
    · right
      refine ⟨by show ownOf op = 2; unfold ownOf; rw [if_neg (by omega), if_pos (by omega)], fun w1 hT1 => ?_⟩
      rcases (show op = 14 ∨ op = 15 ∨ op = 16 by omega) with rfl | rfl | rfl
      · exact holdsOf_14 k hk1 hk (trVal k st a) (trVal k st c) wa.1 wa.2 wc.1 wc.2 w1 hT1
      · exact holdsOf_15 k hk1 hk (trVal k st a) (trVal k st c) wa.1 wa.2 wc.1 wc.2 w1 hT1
      · exact holdsOf_16 k hk1 hk (trVal k st a) (trVal k st c) wa.1 wa.2 wc.1 wc.2 w1 hT1
    · right
      have hp2 : partOf op = 2 := by
        unfold partOf
        rw [if_neg (by omega), if_pos (by omega)]
      rw [hp2] at hka hkc
      have v1 : trVal k st a = 0 ∨ trVal k st a = 1 := by
        rcases hva with ⟨h, _⟩ | ⟨_, h⟩
        · simp only at h
          rw [h] at hka
          cases hka
        · exact h
      have v2 : trVal k st c = 0 ∨ trVal k st c = 1 := by
        rcases hvc with ⟨h, _⟩ | ⟨_, h⟩
        · simp only at h
          rw [h] at hkc
          cases hkc
        · exact h
      refine ⟨by show ownOf op = 2; unfold ownOf; rw [if_neg (by omega), if_pos (by omega)], fun w1 hT1 => ?_⟩
      rcases hop with rfl | rfl
      · exact holdsOf_17 k (trVal k st a) (trVal k st c) v1 v2 w1
      · exact holdsOf_18 k (trVal k st a) (trVal k st c) v1 v2 w1
end Go.Proofs.YtpgojamabmpjnaaDoor

namespace Go.Proofs.YtpgojamabmpjnaaDoor
open Go Go.RowKit
open M
set_option linter.unusedVariables false

end Go.Proofs.YtpgojamabmpjnaaDoor

namespace Go.Proofs.YtpgojamabmpjnaaDoor
open Go Go.RowKit
open M
set_option linter.unusedVariables false

theorem equal4 (a b c d : Bool) (w : World) : Sem.run Tryd.prog (Op.equalIn 10000 165 (.agg #[.bool a, .bool b, .bool c, .bool d]) (.agg #[.bool false, .bool false, .bool false, .bool false])) w = .ok (!(a || b || c || d)) w := by
  cases a <;> cases b <;> cases c <;> cases d <;> kernel_rfl
end Go.Proofs.YtpgojamabmpjnaaDoor

namespace Go.Proofs.YtpgojamabmpjnaaDoor
open Go Go.RowKit
open M
set_option linter.unusedVariables false

/-- the tree that nodeOver made, among all that lies there -/
theorem tr_all {w w' : World} {S : Nat → Prop} {t : Tr} {b : Nat} (hS : ∀ k, S k → k < w.heap.size) (hb : Below w.heap.size w w') (h : TrAt w' (fun k => S k ∨ (w.heap.size ≤ k ∧ k < w'.heap.size)) t b) : TrAt w' (Old w') t b :=
  TrAt.frame (fun k hk => by
    rcases hk with hk | hk
    · exact Nat.lt_of_lt_of_le (hS k hk) hb.size
    · exact hk.2) (fun _ _ => rfl) h
/-- blocks of S or made since w, which lie there and are not the row's -/
abbrev Mix (S : Nat → Prop) (w wr : World) (v : Value) : Nat → Prop := fun k => (S k ∨ w.heap.size ≤ k) ∧ OldBut wr v k
theorem mix_next {S : Nat → Prop} {w w3 w7 : World} {v v0 v7 : Value} {o : Obj} {l : List Tr} {ps : List Nat} (ht : TrsAt w3 (Mix S w w3 v) l ps) (grow : (w3.alloc o).grownBy w7 v0.ownBlock) (hat : v7.ownBlock = v0.ownBlock ∨ v7.ownBlock = some (w3.heap.size + 1)) (hvb : v0.ownBlock = v.ownBlock) : TrsAt w7 (Mix S w w7 v7) l ps := by
  have hs := grow.size
  rw [show (w3.alloc o).heap.size = w3.heap.size + 1 from by simp] at hs
  refine TrsAt.frame (fun k hk => ⟨hk.1, ?_, ?_⟩) (fun k hk => ?_) ht
  · have := hk.2.1
    omega
  · rcases hat with h | h
    · rw [h, hvb]
      exact hk.2.2
    · rw [h]
      intro e
      have := Option.some.inj e
      have := hk.2.1
      omega
  · rw [grow.block k (by have := hk.2.1; simp; omega) (by rw [hvb]; exact hk.2.2)]
    exact Below.heap_alloc _ _ _ hk.2.1
/-- S or made since w -/
abbrev New (S : Nat → Prop) (w w' : World) : Nat → Prop := fun k => S k ∨ (w.heap.size ≤ k ∧ k < w'.heap.size)
theorem new_low {S : Nat → Prop} {w w1 w' : World} {t : Tr} {b : Nat} (hs : w.heap.size ≤ w1.heap.size) (h : TrAt w' (New S w1 w') t b) : TrAt w' (New S w w') t b :=
  TrAt.frame (fun k hk => hk.elim Or.inl fun h => Or.inr ⟨Nat.le_trans hs h.1, h.2⟩) (fun _ _ => rfl) h
end Go.Proofs.YtpgojamabmpjnaaDoor

namespace Go.Proofs.YtpgojamabmpjnaaDoor
open Go Go.RowKit
open M
set_option linter.unusedVariables false

set_option maxRecDepth 100000 in
set_option maxHeartbeats 4000000 in
theorem rootOf_inN (k : Nat) (vars : Int) (b off cap : Nat) (t : List Nd) (hk1 : 1 ≤ k) (hk : k ≤ 64) (hv : 1 ≤ vars) (hv4 : vars ≤ 4) (hl : t.length ≤ 48) (hok : ∀ x ∈ t, NdOk x) (w : World) (hT : Tab w) (hlt : b < w.heap.size)
    (hc : ∀ (i : Nat) (x : Nd), t[i]? = some x → w.cell? ⟨b, off + i * 2, none⟩ = some (.int .i64 x.1) ∧ w.cell? ⟨b, off + i * 2 + 1, none⟩ = some (.int .u64 x.2)) :
    Calls Tryd.prog 56 #[.int .i64 k, .int .i64 vars, .slice (some ⟨b, off, none⟩) t.length cap] w fun e w' => Below w.heap.size w w' ∧
      ((kindL k vars t = 0 ∧ e = .returned (.pointer none)) ∨ ∃ (r : Tr) (p : Nat), pileT k vars t t.length = some [⟨0, r.kind, r⟩] ∧ e = .returned (ptr p) ∧ TrAt w' (New (fun _ => False) w w') r p) := by
  have hw : wideB k = true := decide_eq_true (by omega)
  have g1 := goodWide_any k w
  rw [hw] at g1
  have g2 := goodVars_yes vars ⟨hv, hv4⟩ w
  clear hw
  obtain ⟨i0, hi, hz0, hz1, hz2⟩ := info_parts infoPtr
  go_enter Tryd.func56, Tryd.ntmps56
  go_wp2_with fail
  refine g1.mono ?_
  rintro e w' ⟨rfl, rfl⟩
  clear g1
  go_wp2_with fail
  refine g2.mono ?_
  rintro e w' ⟨rfl, rfl⟩
  clear g2
  go_wp2_with fail
  have HC : Hid _ := hc
  have HOK : Hid _ := hok
  have HT : Hid (Tab w') := hT
  clear hc hok hT
  go_loopw [7, 30] (fun v i wr => ∃ (j : Nat) (p : List (Ent Tr)) (bs : List Nat), j ≤ t.length ∧ i = .int .i64 j ∧ Hid (pileT k vars t j = some p) ∧ Hid (wr.ownsRow w'.heap.size 72 1 v bs.length (ptrs bs)) ∧ Hid (TrsAt wr (Mix (fun _ => False) w' wr v) (p.reverse.map Ent.val) bs) ∧ Hid (Below w'.heap.size w' wr)) (fun _ i _ => t.length - (intOf i).toNat)
  case atStart => exact ⟨0, [], [], by omega, rfl, rfl, World.ownsRow_nil _ _ _ _, ⟨rfl, fun i a p ha _ => by simp at ha⟩, Below.refl _ _⟩
  case round =>
    obtain ⟨j, p, bs, hj, rfl, HF, HO, HS, HB⟩ := hrel
    have hpl : p.length = bs.length := by
      have := HS.out.1
      simpa using this
    by_cases hlt' : j < t.length
    · obtain ⟨⟨op, n⟩, hx⟩ : ∃ x, t[j]? = some x := ⟨t[j], List.getElem?_eq_getElem hlt'⟩
      obtain ⟨ho0, ho1, hn0, hn1⟩ := HOK.out (op, n) (List.mem_of_getElem? hx)
      simp only at ho0 ho1 hn0 hn1
      obtain ⟨c0, c1⟩ := HC.out j (op, n) hx
      rw [← HB.out.cell (p := ⟨b, off + j * 2, none⟩) hlt] at c0
      rw [← HB.out.cell (p := ⟨b, off + j * 2 + 1, none⟩) hlt] at c1
      simp only at c0 c1
      have HX : Hid (t[j]? = some (op, n)) := hx
      have hb1 : Below w'.heap.size w' (wr.alloc (.cells #[.int .i64 op, .int .u64 n] 65)) := HB.out.alloc HB.out.size _
      have g1 := shapeOf_any op (wr.alloc (.cells #[.int .i64 op, .int .u64 n] 65))
      have g2 := goodN_any k vars op n (by omega) (by omega) hn0 hn1 (wr.alloc (.cells #[.int .i64 op, .int .u64 n] 65)) (HT.out.below hb1 HT.out.some)
      have HBa : Hid (Below w'.heap.size w' (wr.alloc (.cells #[.int .i64 op, .int .u64 n] 65))) := hb1
      have hpj : bs.length ≤ 48 := by
        have h1 := foldK_of_pileT HF.out
        have h2 := foldK_len _ _ _ h1
        simp at h2
        omega
      have hml := manyOf_le op
      have HPL : Hid (p.length = bs.length) := hpl
      obtain ⟨ad, cp, hv7⟩ := own_shape HO.out
      clear hx hb1 hpl
      cases z2 : okN k vars op n with
      | false =>
        have HK : Hid (kindL k vars t = 0) := kind_stop HX.out (foldK_of_pileT HF.out) (step_num z2)
        rw [z2] at g2
        clear z2
        generalize ownOf op = o at *
        generalize manyOf op = m at *
        generalize wantOf op = q at *
        subst hv7
        go_wp2_with fail
        refine g1.mono ?_
        rintro e w2 ⟨rfl, rfl⟩
        clear g1
        go_wp2_with fail
        refine g2.mono ?_
        rintro e w2 ⟨rfl, hb2⟩
        clear g2
        have HB2 : Hid (Below w'.heap.size w' w2) := HBa.out.trans (hb2.mono HBa.out.size)
        clear hb2
        go_wp2_with fail
        go_ret
        exact ⟨HB2.out, Or.inl ⟨HK.out, rfl⟩⟩
      | true =>
        rw [z2] at g2
        by_cases z3 : bs.length < manyOf op
        · have HK : Hid (kindL k vars t = 0) := kind_stop HX.out (foldK_of_pileT HF.out) (step_few (by have := HPL.out; simp; omega))
          clear z2
          generalize ownOf op = o at *
          generalize manyOf op = m at *
          generalize wantOf op = q at *
          subst hv7
          go_wp2_with fail
          refine g1.mono ?_
          rintro e w2 ⟨rfl, rfl⟩
          clear g1
          go_wp2_with fail
          refine g2.mono ?_
          rintro e w2 ⟨rfl, hb2⟩
          clear g2
          have HB2 : Hid (Below w'.heap.size w' w2) := HBa.out.trans (hb2.mono HBa.out.size)
          clear hb2
          go_wp2_with fail
          go_ret
          exact ⟨HB2.out, Or.inl ⟨HK.out, rfl⟩⟩
        · subst hv7
          obtain ⟨m, hmm⟩ : ∃ m, m = manyOf op := ⟨_, rfl⟩
          rw [← hmm] at g1 z3 hml
          have HMM : Hid (m = manyOf op) := hmm
          clear hmm
          generalize hqq : wantOf op = q at g1
          generalize hoo : ownOf op = o at g1
          go_wp2_with fail
          refine g1.mono ?_
          rintro e w2 ⟨rfl, rfl⟩
          clear g1
          go_wp2_with fail
          refine g2.mono ?_
          rintro e w2 ⟨rfl, hb2⟩
          clear g2
          have HB2 : Hid (Below w'.heap.size w' w2) := HBa.out.trans (hb2.mono HBa.out.size)
          have e0 : w2.cell? ⟨wr.heap.size, 0, none⟩ = some (.int .i64 op) := by
            rw [hb2.cell (p := ⟨wr.heap.size, 0, none⟩) (by simp)]
            simp
          have e1 : w2.cell? ⟨wr.heap.size, 1, none⟩ = some (.int .u64 n) := by
            rw [hb2.cell (p := ⟨wr.heap.size, 1, none⟩) (by simp)]
            simp
          obtain ⟨rest, hrest⟩ : ∃ rest : Nat, (bs.length : Int) - (m : Int) = (rest : Int) := ⟨bs.length - m, by omega⟩
          have hr1 : rest ≤ bs.length := by omega
          have HR : Hid (rest + m = bs.length) := (by omega : rest + m = bs.length)
          go_wp2_with fail
          clear hrest
          have hp1 : Hid (TrsAt w2 (Mix (fun _ => False) w' w2 (.slice ad bs.length cp)) (p.reverse.map Ent.val) bs ∧ w2.ownsRow w'.heap.size 72 1 (.slice ad bs.length cp) bs.length (ptrs bs)) := by
            have hba : Below wr.heap.size wr w2 := ((Below.refl _ _).alloc (Nat.le_refl _) _).trans (hb2.mono (by simp))
            exact ⟨TrsAt.frame (fun k hk => ⟨hk.1, Nat.lt_of_lt_of_le hk.2.1 hba.size, hk.2.2⟩) (fun k hk => hba.block k hk.2.1) HS.out, owns_below HO.out hba⟩
          have HLP : Hid ((p.reverse.map Ent.val).drop rest = (p.take m).reverse.map Ent.val ∧ (p.reverse.map Ent.val).take rest = (p.drop m).reverse.map Ent.val) := by
            have h1 := HPL.out
            have h2 := HR.out
            constructor
            · rw [← List.map_drop, List.drop_reverse, show p.length - rest = m from by omega]
            · rw [← List.map_take, List.take_reverse, show p.length - rest = m from by omega]
          by_cases hgood : ¬ ownOf op = 0 ∧ ∀ e ∈ p.take m, e.kind = partOf op
          · obtain ⟨a0, hst⟩ := step_tree (j := j) (k := k) (vars := vars) (x := (op, n)) (p := p) hgood.1 z2 (by have := HMM.out; have := HPL.out; have := HR.out; simp only; omega) (by rw [show manyOf (op, n).1 = m from HMM.out.symm]; exact hgood.2)
            have HF2 : Hid (pileT k vars t (j + 1) = some (⟨a0, ownOf op, Tr.over (op, n) ((p.take m).reverse.map Ent.val)⟩ :: p.drop m)) := by
              show pileE k vars Tr.leaf Tr.one Tr.two t (j + 1) = _
              rw [pileE, show pileE k vars Tr.leaf Tr.one Tr.two t j = some p from HF.out, HX.out]
              simp only [Option.bind_some]
              rw [hst, ← show m = manyOf (op, n).1 from HMM.out]
            have GE : Hid (∀ (sl : Value) (w1 : World), PtrsAt w1 (Old w1) sl (bs.drop rest) → Below w2.heap.size w2 w1 → Calls Tryd.prog 77 #[.agg #[.int .i64 op, .int .u64 n], sl] w1 fun e w3 => ∃ pb, e = .returned (ptr pb) ∧
                TrsAt w3 (Mix (fun _ => False) w' w3 (.slice ad bs.length cp)) ((p.drop m).reverse.map Ent.val ++ [Tr.over (op, n) ((p.take m).reverse.map Ent.val)]) (bs.take rest ++ [pb]) ∧ w3.ownsRow w'.heap.size 72 1 (.slice ad bs.length cp) bs.length (ptrs bs) ∧ Below w'.heap.size w' w3) := by
              intro sl w1 hsl hb3
              obtain ⟨h1, h2⟩ := hp1.out
              have h1' : TrsAt w1 (Mix (fun _ => False) w' w1 (.slice ad bs.length cp)) (p.reverse.map Ent.val) bs := TrsAt.frame (fun k hk => ⟨hk.1, Nat.lt_of_lt_of_le hk.2.1 hb3.size, hk.2.2⟩) (fun k hk => hb3.block k hk.2.1) h1
              have h2' := owns_below h2 hb3
              have hd := trs_drop h1' rest
              rw [HLP.out.1] at hd
              have ht := trs_take h1' rest
              rw [HLP.out.2] at ht
              have hkk : ∀ q ∈ (p.take m).reverse.map Ent.val, q.kind = partOf op := by
                intro q hq
                obtain ⟨e, he, rfl⟩ := List.mem_map.1 hq
                have he' : e ∈ p.take m := by simpa using he
                rw [← ((pileT_ok j p HF.out).1 e (List.mem_of_mem_take he')).2]
                exact hgood.2 e he'
              have hsz : sizes ((p.take m).reverse.map Ent.val) ≤ 1000000 := by
                have h3 := pile_sizes HF.out
                have h4 := sizes_append ((p.reverse.map Ent.val).take rest) ((p.reverse.map Ent.val).drop rest)
                rw [List.take_append_drop, HLP.out.1] at h4
                omega
              refine (nodeOver_made op n _ (bs.drop rest) sl w1 (Mix (fun _ => False) w' w1 (.slice ad bs.length cp)) (fun k hk => hk.2.1) hsl hd hgood.1 ?_ hkk hsz).mono ?_
              · rw [← HMM.out]
                have := HPL.out
                have := HR.out
                simp
                omega
              · rintro e w3 ⟨pb, he, htr, hb4⟩
                have hS : ∀ k, Mix (fun _ => False) w' w1 (.slice ad bs.length cp) k → Mix (fun _ => False) w' w3 (.slice ad bs.length cp) k := fun k hk => ⟨hk.1, Nat.lt_of_lt_of_le hk.2.1 hb4.size, hk.2.2⟩
                refine ⟨pb, he, trs_snoc (TrsAt.frame hS (fun k hk => hb4.block k hk.2.1) ht) (TrAt.frame (fun k hk => ?_) (fun _ _ => rfl) htr), owns_below h2' hb4, HB2.out.trans ((hb3.trans (hb4.mono hb3.size)).mono HB2.out.size)⟩
                rcases hk with hk | ⟨hk1, hk2⟩
                · exact hS k hk
                · refine ⟨Or.inr (Nat.le_trans HB2.out.size (Nat.le_trans hb3.size hk1)), hk2, fun e => ?_⟩
                  have := (h2'.lt k e.symm).2
                  omega
            clear hgood hst HF
            have HSH : Hid _ := hp1.out.2
            have HN2 : Hid ((p.drop m).reverse.map Ent.val ++ [Tr.over (op, n) ((p.take m).reverse.map Ent.val)] = ((⟨a0, ownOf op, Tr.over (op, n) ((p.take m).reverse.map Ent.val)⟩ :: p.drop m).reverse.map Ent.val)) := by
              show _ = _
              simp
            generalize hNL : (p.drop m).reverse.map Ent.val ++ [Tr.over (op, n) ((p.take m).reverse.map Ent.val)] = NL at *
            generalize hNP : (⟨a0, ownOf op, Tr.over (op, n) ((p.take m).reverse.map Ent.val)⟩ :: p.drop m : List (Ent Tr)) = NP at *
            clear hNL hNP HLP
            rcases HO.out.2 with ⟨hnil, hb0⟩ | ⟨g, cap', cur, hv, hg, hh, hcap1, hcap2, hcap3, hcur⟩
            · have hbs : bs = [] := List.length_eq_zero_iff.1 hb0
              subst hbs
              obtain rfl : rest = 0 := by simp at hr1; exact hr1
              obtain ⟨rfl, rfl⟩ : ad = none ∧ cp = 0 := by
                simp at hnil
                exact hnil
              have GC := fun (w1 : World) (hb3 : Below w2.heap.size w2 w1) => GE.out (.slice none 0 0) w1 ⟨by simp, Or.inl ⟨rfl, none, 0, rfl⟩⟩ hb3
              have hd2 : Below w2.heap.size w2 w2.drew := (Below.refl _ _).drew
              clear hnil hb0 HO hr1 hp1 HSH GE HPL HS
              go_region_with (go_at_call 77; refine (GC _ hd2).mono ?_; rintro e w3 ⟨pb, rfl, ht3, ho3, hb3⟩; have HT3 : Hid _ := ht3; have HO3 : Hid _ := ho3; have HB3 : Hid _ := hb3; clear ht3 ho3 hb3)
              all_goals clear GC hd2
              all_goals
                have own1 : (w3.alloc (.cells #[ptr pb] 72)).ownsRow w'.heap.size 72 1 (.slice none 0 0) 0 [] := World.ownsRow_nil _ _ _ _
                have HBx : Hid (Below w'.heap.size w' (w3.alloc (.cells #[ptr pb] 72))) := HB3.out.alloc HB3.out.size _
                have cellsN := onePtr_cells w3 pb
                go_wp2_with (at_builtin; refine wpList_append_own_at _ rfl _ _ 98 rfl w'.heap.size 72 i0 (.pointer none) 1 8 Tryd.underlying98 hi hz0 hz1 hz2 rfl (by decide) _ _ _ rfl own1 ⟨w3.heap.size, 0, none⟩ 1 1 [ptr pb] rfl rfl cellsN (by intro u hu; simp at hu; subst hu; rfl) (by unfold maxLen; omega) (by omega) (by have h := HB3.out.size; simp; omega) ?_)
                intro v7 w7 own7 grow7 _ hat7
                have HO7 : Hid (w7.ownsRow w'.heap.size 72 1 v7 ([pb] : List Nat).length (ptrs [pb])) := own7
                have HT7 : Hid (TrsAt w7 (Mix (fun _ => False) w' w7 v7) (NP.reverse.map Ent.val) [pb]) := by
                  show TrsAt _ _ _ _
                  rw [← HN2.out]
                  exact mix_next HT3.out grow7 hat7 rfl
                have HB7 : Hid (Below w'.heap.size w' w7) := HBx.out.grown grow7 HBx.out.size (fun k hk => by cases hk)
                clear own1 own7 grow7 hat7 cellsN
                go_wp2_with fail
                go_roundw
                case rel => exact ⟨j + 1, NP, [pb], by omega, by go_num, HF2, HO7, HT7, HB7⟩
                case measure => simp [intOf]; omega
            · obtain ⟨rfl, rfl⟩ : ad = some ⟨g, 0, none⟩ ∧ cap' = cp := by
                simp at hv
                exact ⟨hv.1, hv.2.symm⟩
              have hcap2' : cap' ≤ 9223372036854775807 := hcap2
              have GC := fun (w1 : World) (hb3 : Below w2.heap.size w2 w1) => GE.out _ w1 (own_high (owns_below HSH.out hb3) rfl hr1 hpj) hb3
              obtain ⟨asl, hasl⟩ : ∃ asl, (if cap' = rest then some (⟨g, 0, none⟩ : Addr) else some ⟨g, rest, none⟩) = asl := ⟨_, rfl⟩
              rw [hasl] at GC
              have hd2 : Below w2.heap.size w2 w2.drew := (Below.refl _ _).drew
              have HG0 : Hid (w'.heap.size ≤ g) := hg
              clear hv hcur hcap2 hh HO hg hp1 HSH GE HPL HS
              go_region_with (go_at_call 77; refine (GC _ hd2).mono ?_; rintro e w3 ⟨pb, rfl, ht3, ho3, hb3⟩; have HT3 : Hid _ := ht3; have HO3 : Hid _ := ho3; have HB3 : Hid _ := hb3; clear ht3 ho3 hb3)
              all_goals clear GC hd2 hasl
              all_goals
                have own1 := (own_low HO3.out rfl hr1).alloc (.cells #[ptr pb] 72)
                have HLX : Hid (ptrs (bs.take rest) ++ [ptr pb] = ptrs (bs.take rest ++ [pb]) ∧ rest + 1 = (bs.take rest ++ [pb]).length) := by
                  constructor
                  · simp [ptrs]
                  · simp
                    omega
                generalize ptrs (bs.take rest) = xs0 at own1 HLX
                generalize bs.take rest ++ [pb] = NB at *
                have HBx : Hid (Below w'.heap.size w' (w3.alloc (.cells #[ptr pb] 72))) := HB3.out.alloc HB3.out.size _
                have cellsN := onePtr_cells w3 pb
                go_wp2_with (at_builtin; refine wpList_append_own_at _ rfl _ _ 98 rfl w'.heap.size 72 i0 (.pointer none) 1 8 Tryd.underlying98 hi hz0 hz1 hz2 rfl (by decide) _ _ _ rfl own1 ⟨w3.heap.size, 0, none⟩ 1 1 [ptr pb] rfl rfl cellsN (by intro u hu; simp at hu; subst hu; rfl) (by unfold maxLen; omega) (by omega) (by have h := HB3.out.size; simp; omega) ?_)
                intro v7 w7 own7 grow7 _ hat7
                have HO7 : Hid (w7.ownsRow w'.heap.size 72 1 v7 NB.length (ptrs NB)) := by
                  show World.ownsRow _ _ _ _ _ _ _
                  rw [← HLX.out.1, ← HLX.out.2]
                  exact own7
                have HT7 : Hid (TrsAt w7 (Mix (fun _ => False) w' w7 v7) (NP.reverse.map Ent.val) NB) := by
                  show TrsAt _ _ _ _
                  rw [← HN2.out]
                  exact mix_next HT3.out grow7 hat7 rfl
                have HB7 : Hid (Below w'.heap.size w' w7) := HBx.out.grown grow7 HBx.out.size (fun k hk => by
                  have e : g = k := Option.some.inj hk
                  rw [← e]
                  exact HG0.out)
                clear own1 own7 grow7 hat7 cellsN
                go_wp2_with fail
                go_roundw
                case rel => exact ⟨j + 1, NP, NB, by omega, by go_num, HF2, HO7, HT7, HB7⟩
                case measure => simp [intOf]; omega
          · have HK : Hid (kindL k vars t = 0) := by
              show _ = _
              by_cases h0 : ownOf op = 0
              · exact kind_stop HX.out (foldK_of_pileT HF.out) (step_own h0)
              · refine kind_stop HX.out (foldK_of_pileT HF.out) (step_kind (x := (op, n)) (by have := HMM.out; have := HPL.out; have := HR.out; simp only; omega) ?_)
                rw [show manyOf (op, n).1 = m from HMM.out.symm]
                refine Classical.byContradiction fun hne => hgood ⟨h0, fun e he => Classical.byContradiction fun hk' => hne ⟨e, he, hk'⟩⟩
            have GE : Hid (∀ (sl : Value) (w1 : World), PtrsAt w1 (Old w1) sl (bs.drop rest) → Below w2.heap.size w2 w1 → Calls Tryd.prog 77 #[.agg #[.int .i64 op, .int .u64 n], sl] w1 fun e w3 => e = .returned (.pointer none) ∧ Below w'.heap.size w' w3) := by
              intro sl w1 hsl hb3
              obtain ⟨h1, h2⟩ := hp1.out
              have h1' : TrsAt w1 (Mix (fun _ => False) w' w1 (.slice ad bs.length cp)) (p.reverse.map Ent.val) bs := TrsAt.frame (fun k hk => ⟨hk.1, Nat.lt_of_lt_of_le hk.2.1 hb3.size, hk.2.2⟩) (fun k hk => hb3.block k hk.2.1) h1
              have hd := trs_drop h1' rest
              rw [HLP.out.1] at hd
              have hsz : sizes ((p.take m).reverse.map Ent.val) ≤ 1000000 := by
                have h3 := pile_sizes HF.out
                have h4 := sizes_append ((p.reverse.map Ent.val).take rest) ((p.reverse.map Ent.val).drop rest)
                rw [List.take_append_drop, HLP.out.1] at h4
                omega
              refine (nodeOver_mixed op n _ (bs.drop rest) sl w1 (Mix (fun _ => False) w' w1 (.slice ad bs.length cp)) (fun k hk => hk.2.1) hsl hd ?_ ?_ hsz).mono ?_
              · rw [← HMM.out]
                have := HPL.out
                have := HR.out
                simp
                omega
              · rintro ⟨h0, hall⟩
                refine hgood ⟨h0, fun e he => ?_⟩
                rw [((pileT_ok j p HF.out).1 e (List.mem_of_mem_take he)).2]
                exact hall e.val (List.mem_map.2 ⟨e, by simpa using he, rfl⟩)
              · rintro e w3 ⟨he, hb4⟩
                exact ⟨he, HB2.out.trans ((hb3.trans (hb4.mono hb3.size)).mono HB2.out.size)⟩
            clear hgood HF HLP
            have HSH : Hid _ := hp1.out.2
            rcases HO.out.2 with ⟨hnil, hb0⟩ | ⟨g, cap', cur, hv, hg, hh, hcap1, hcap2, hcap3, hcur⟩
            · have hbs : bs = [] := List.length_eq_zero_iff.1 hb0
              subst hbs
              obtain rfl : rest = 0 := by simp at hr1; exact hr1
              obtain ⟨rfl, rfl⟩ : ad = none ∧ cp = 0 := by
                simp at hnil
                exact hnil
              have GC := fun (w1 : World) (hb3 : Below w2.heap.size w2 w1) => GE.out (.slice none 0 0) w1 ⟨by simp, Or.inl ⟨rfl, none, 0, rfl⟩⟩ hb3
              have hd2 : Below w2.heap.size w2 w2.drew := (Below.refl _ _).drew
              clear hnil hb0 HO hr1 hp1 HSH GE HPL HS
              go_region_with (go_at_call 77; refine (GC _ hd2).mono ?_; rintro e w3 ⟨rfl, hb3⟩; have HB3 : Hid _ := hb3; clear hb3)
              all_goals clear GC hd2
              all_goals
                go_wp2_with fail
                go_ret
                exact ⟨HB3.out, Or.inl ⟨HK.out, rfl⟩⟩
            · obtain ⟨rfl, rfl⟩ : ad = some ⟨g, 0, none⟩ ∧ cap' = cp := by
                simp at hv
                exact ⟨hv.1, hv.2.symm⟩
              have hcap2' : cap' ≤ 9223372036854775807 := hcap2
              have GC := fun (w1 : World) (hb3 : Below w2.heap.size w2 w1) => GE.out _ w1 (own_high (owns_below HSH.out hb3) rfl hr1 hpj) hb3
              obtain ⟨asl, hasl⟩ : ∃ asl, (if cap' = rest then some (⟨g, 0, none⟩ : Addr) else some ⟨g, rest, none⟩) = asl := ⟨_, rfl⟩
              rw [hasl] at GC
              have hd2 : Below w2.heap.size w2 w2.drew := (Below.refl _ _).drew
              clear hv hcur hcap2 hh HO hg hp1 HSH GE HPL HS
              go_region_with (go_at_call 77; refine (GC _ hd2).mono ?_; rintro e w3 ⟨rfl, hb3⟩; have HB3 : Hid _ := hb3; clear hb3)
              all_goals clear GC hd2 hasl
              all_goals
                go_wp2_with fail
                go_ret
                exact ⟨HB3.out, Or.inl ⟨HK.out, rfl⟩⟩
    · obtain rfl : j = t.length := by omega
      have HE := pile_end hk1 hk hv hv4 hl HF.out
      obtain ⟨ad, cp, hv7⟩ := own_shape HO.out
      by_cases h1 : bs.length = 1
      · obtain ⟨b0, rfl⟩ := List.length_eq_one_iff.1 h1
        obtain ⟨e0, rfl⟩ : ∃ e0, p = [e0] := List.length_eq_one_iff.1 hpl
        have hr := HE.2 e0 rfl
        have htr : TrAt wr (New (fun _ => False) w' wr) e0.val b0 := TrAt.frame (fun k hk => Or.inr ⟨hk.1.elim (fun h => h.elim) id, hk.2.1⟩) (fun _ _ => rfl) (HS.out.2 0 e0.val b0 rfl rfl)
        rcases HO.out.2 with ⟨_, hb0⟩ | ⟨g, cap', cur, hv, hg, hh, _⟩
        · simp at hb0
        have hcell := HO.out.cells (g := g) (by rw [hv]; rfl) 0 (ptr b0) rfl
        have hcell' : wr.cell? ⟨g, 0, none⟩ = some (ptr b0) := hcell
        have HR : Hid (Below w'.heap.size w' wr ∧ ∃ r : Tr, pileT k vars t t.length = some [⟨0, r.kind, r⟩] ∧ TrAt wr (New (fun _ => False) w' wr) r b0) := ⟨HB.out, e0.val, hr, htr⟩
        clear hcell hr htr HE hh HO HS HF HB hv7
        subst hv
        go_wp2_with fail
        go_ret
        obtain ⟨h1, r, h2, h4⟩ := HR.out
        exact ⟨h1, Or.inr ⟨r, b0, h2, rfl, h4⟩⟩
      · have HK : Hid (kindL k vars t = 0) := HE.1 (by omega)
        have hne : ((bs.length : Int) != 1) = true := bne_iff_ne.2 (by omega)
        have hb48 : bs.length ≤ 48 := by
          have h1 := foldK_of_pileT HF.out
          have h2 := foldK_len _ _ _ h1
          simp at h2
          omega
        clear HE HF HS HO
        subst hv7
        go_wp2_with fail
        go_ret
        exact ⟨HB.out, Or.inl ⟨HK.out, rfl⟩⟩
theorem rootOf_new (wide vars : Int) (v : Value) (t : List Nd) (w : World) (hT : Tab w) (h : NodesAt w v t) (r : Tr) (hk : 0 < kindL wide vars t) (hr : pileT wide vars t t.length = some [⟨0, r.kind, r⟩]) :
    Calls Tryd.prog 56 #[.int .i64 wide, .int .i64 vars, v] w fun e w' => ∃ p, e = .returned (ptr p) ∧ TrAt w' (New (fun _ => False) w w') r p ∧ Below w.heap.size w w' := by
  obtain ⟨h1, h2, h3, h4, h5, _⟩ := root_tree hk
  obtain ⟨k, rfl, hk1, hk64⟩ := wideB_true h1
  obtain ⟨hok, hlen, hN⟩ := h
  rcases hN with ⟨rfl, _⟩ | ⟨b, off, cap, rfl, hlt, hc⟩
  · simp at h4
  refine (rootOf_inN k vars b off cap t hk1 hk64 h2 h3 h5 hok w hT hlt hc).mono ?_
  rintro e w' ⟨hb, ⟨h0, _⟩ | ⟨r', p, hr', he, htr⟩⟩
  · omega
  · rw [hr] at hr'
    simp at hr'
    obtain rfl := hr'.2
    exact ⟨p, he, htr, hb⟩
end Go.Proofs.YtpgojamabmpjnaaDoor

namespace Go.Proofs.YtpgojamabmpjnaaDoor
open Go Go.RowKit
open M
set_option linter.unusedVariables false

theorem rootK_no (wide vars kind : Int) (v : Value) (t : List Nd) (w : World) (hT : Tab w) (h : NodesAt w v t) (hk0 : kind = 1 ∨ kind = 2) (hk : ¬ kindL wide vars t = kind) :
    Calls Tryd.prog 35 #[.int .i64 wide, .int .i64 vars, v, .int .i64 kind] w fun e w' => e = .returned (.pointer none) ∧ Below w.heap.size w w' := by
  by_cases hp : 0 < kindL wide vars t
  · obtain ⟨_, _, _, _, _, r, hr, _, _, k3⟩ := root_tree hp
    have g := rootOf_yes wide vars v t w hT h r hp hr
    have hne : (r.kind != kind) = true := bne_iff_ne.2 (by rw [k3]; exact hk)
    have HK : Hid _ := hne
    clear hT h hk hp hr k3 hne
    go_enter Tryd.func35, Tryd.ntmps35
    go_wp2_with fail
    refine g.mono ?_
    rintro e w1 ⟨b, rfl, htr, hb⟩
    obtain ⟨ps, ⟨_, _, _, n2, _⟩, _⟩ := trAt_open htr
    have hne := HK.out
    have HB : Hid _ := hb
    clear g htr hb
    generalize r.kind = kk at *
    go_wp2_with fail
    go_ret
    exact ⟨rfl, HB.out⟩
  · have g := rootOf_no wide vars v t w hT h hp
    clear hT h hk hp
    go_enter Tryd.func35, Tryd.ntmps35
    go_wp2_with fail
    refine g.mono ?_
    rintro e w1 ⟨rfl, hb⟩
    have HB : Hid _ := hb
    clear g hb
    go_wp2_with fail
    go_ret
    exact ⟨rfl, HB.out⟩
set_option maxRecDepth 100000 in
theorem rootK_yes (wide vars kind : Int) (v : Value) (t : List Nd) (w : World) (hT : Tab w) (h : NodesAt w v t) (r : Tr) (hk : kindL wide vars t = kind) (hk0 : kind = 1 ∨ kind = 2) (hr : pileT wide vars t t.length = some [⟨0, r.kind, r⟩]) (hrk : r.kind = kind) :
    Calls Tryd.prog 35 #[.int .i64 wide, .int .i64 vars, v, .int .i64 kind] w fun e w' => ∃ p, e = .returned (ptr p) ∧ TrAt w' (New (fun _ => False) w w') r p ∧ Below w.heap.size w w' := by
  have g := rootOf_new wide vars v t w hT h r (by omega) hr
  have HK : Hid _ := hrk
  clear hT h hk hr hrk
  go_enter Tryd.func35, Tryd.ntmps35
  go_wp2_with fail
  refine g.mono ?_
  rintro e w1 ⟨b, rfl, htr, hb⟩
  obtain ⟨ps, ⟨_, _, _, n2, _⟩, _⟩ := trAt_open htr
  rw [HK.out] at n2
  have HT : Hid _ := htr
  have HB : Hid _ := hb
  clear g htr hb
  go_wp2_with fail
  go_ret
  exact ⟨_, rfl, HT.out, HB.out⟩
theorem rootK_some (wide vars kind : Int) (v : Value) (t : List Nd) (w : World) (hT : Tab w) (h : NodesAt w v t) (hk0 : kind = 1 ∨ kind = 2) (hk : kindL wide vars t = kind) :
    Calls Tryd.prog 35 #[.int .i64 wide, .int .i64 vars, v, .int .i64 kind] w fun e w' => ∃ p, e = .returned (ptr p) ∧ Below w.heap.size w w' := by
  obtain ⟨_, _, _, _, _, r, hr, _, _, k3⟩ := root_tree (show 0 < kindL wide vars t by omega)
  exact (rootK_yes wide vars kind v t w hT h r hk hk0 hr (by rw [k3]; exact hk)).mono fun e w' ⟨p, he, _, hb⟩ => ⟨p, he, hb⟩
theorem infoCR : (Tryd.prog.info? 130).map (fun i => (i.zero, i.size, i.bytes)) = some (some (.agg #[.int .i64 0, .pointer none]), 2, 16) := by kernel_rfl
theorem cr_cells (w : World) (x y : Value) (e : TypeId) : ∀ (j : Nat) (u : Value), ([x, y] : List Value)[j]? = some u → (w.alloc (.cells #[x, y] e)).cell? ((⟨w.heap.size, 0, none⟩ : Addr).add j) = some u := by
  intro j u hu
  match j, hu with
  | 0, hu => simp at hu; subst hu; simp [Addr.add]
  | 1, hu => simp at hu; subst hu; simp [Addr.add]
theorem nextL_in (wide vars : Int) (cs : List Ch) (h : chsB wide vars 0 cs = true) : nextL 0 cs = 0 ∨ (0 ≤ nextL 0 cs ∧ nextL 0 cs ≤ vars) := by
  rcases List.eq_nil_or_concat cs with rfl | ⟨l, c, rfl⟩
  · exact Or.inl rfl
  · right
    rw [List.concat_eq_append] at h ⊢
    have hm := chsB_mem wide vars _ 0 h c (by simp)
    rw [nextL_append]
    show 0 ≤ c.1 + 1 ∧ c.1 + 1 ≤ vars
    omega
/-- what changeRoots answers, but for its rows -/
def CROut (w : World) (R : Bool) (e : Ending) (w' : World) : Prop := ∃ a n cap, e = .returned (.tuple #[.slice a n cap, .bool R]) ∧ Below w.heap.size w w'
theorem crOut_mk {w w' : World} {R R' : Bool} (a : Option Addr) (n cap : Nat) (h : R = R') (hb : Below w.heap.size w w') : CROut w R (.returned (.tuple #[.slice a n cap, .bool R'])) w' := ⟨a, n, cap, by rw [h], hb⟩
set_option maxRecDepth 100000 in
set_option maxHeartbeats 8000000 in
theorem changeRoots_any (wide vars : Int) (v : Value) (cs : List Ch) (hfv : Fit vars) (hn : cs.length ≤ 1048576) (w : World) (hT : Tab w) (h : PairsAt ChV w v cs) :
    Calls Tryd.prog 61 #[.int .i64 wide, .int .i64 vars, v] w (CROut w (chsB wide vars 0 cs)) := by
  obtain ⟨cha, chc, rfl, hcc⟩ := h.opened
  have HCS : Hid (∀ w1 : World, Below w.heap.size w w1 → ∀ (i : Nat) (d : Ch), cs[i]? = some d → ∃ b off : Nat, cha = some ⟨b, off, none⟩ ∧ ∃ y : Value, w1.cell? ⟨b, off + i * 2, none⟩ = some (.int .i64 d.1) ∧ w1.cell? ⟨b, off + i * 2 + 1, none⟩ = some y ∧ Fit d.1 ∧ NodesAt w1 y d.2) := fun w1 hb i d hi => by
    obtain ⟨b, off, e, hlt, x, y, h3, h4, h5⟩ := hcc i d hi
    obtain ⟨k0, rfl, k2⟩ := h5
    exact ⟨b, off, e, y, by rw [hb.cell (p := ⟨b, off + i * 2, none⟩) hlt]; exact h3, by rw [hb.cell (p := ⟨b, off + i * 2 + 1, none⟩) hlt]; exact h4, k0, k2.below hb⟩
  have GN : Hid (∀ (w1 : World) (u : Value) (t : List Nd), Below w.heap.size w w1 → NodesAt w1 u t → ¬ kindL wide vars t = 1 → Calls Tryd.prog 35 #[.int .i64 wide, .int .i64 vars, u, .int .i64 1] w1 fun e w' => e = .returned (.pointer none) ∧ Below w1.heap.size w1 w') := fun w1 u t hb hu hk => rootK_no wide vars 1 u t w1 (hT.below hb hT.some) hu (Or.inl rfl) hk
  have GY : Hid (∀ (w1 : World) (u : Value) (t : List Nd), Below w.heap.size w w1 → NodesAt w1 u t → kindL wide vars t = 1 → Calls Tryd.prog 35 #[.int .i64 wide, .int .i64 vars, u, .int .i64 1] w1 fun e w' => ∃ p, e = .returned (ptr p) ∧ Below w1.heap.size w1 w') := fun w1 u t hb hu hk => rootK_some wide vars 1 u t w1 (hT.below hb hT.some) hu (Or.inl rfl) hk
  clear h hcc hT
  generalize hR : chsB wide vars 0 cs = R at *
  have HR : Hid _ := hR
  clear hR
  obtain ⟨hf0, hf1⟩ := hfv
  obtain ⟨i0, hi, hz0, hz1, hz2⟩ := info_parts infoCR
  have HO0 : Hid (∃ ps : List (Value × Value), w.ownsRow w.heap.size 130 2 (.slice none 0 0) 0 (flatP ps)) := ⟨[], World.ownsRow_nil _ _ _ _⟩
  have HB00 : Hid (Below w.heap.size w w) := Below.refl _ _
  go_enter Tryd.func61, Tryd.ntmps61
  go_wp2_with fail
  go_loopw [8, 9, 15] (fun v l i wr => ∃ j : Nat, j ≤ cs.length ∧ i = .int .i64 j ∧ l = .int .i64 (nextL 0 (cs.take j)) ∧ Hid (chsB wide vars 0 (cs.take j) = true) ∧ Hid (∃ ps : List (Value × Value), wr.ownsRow w.heap.size 130 2 v j (flatP ps)) ∧ Hid (Below w.heap.size w wr)) (fun _ _ i _ => cs.length - (intOf i).toNat)
  case atStart => exact ⟨0, by omega, rfl, rfl, rfl, HO0, HB00⟩
  case round =>
    obtain ⟨j, hj, rfl, rfl, HA, HO, HB⟩ := hrel
    clear HO0 HB00
    obtain ⟨ps, hown⟩ := HO.out
    obtain ⟨va, vcap, rfl⟩ := own_shape hown
    clear HO
    have HOW : Hid _ := hown
    clear hown
    have hnx := nextL_in wide vars _ HA.out
    by_cases hlt : j < cs.length
    · obtain ⟨d, hd⟩ : ∃ d, cs[j]? = some d := ⟨cs[j], List.getElem?_eq_getElem hlt⟩
      obtain ⟨b, off, rfl, y, cx, cy, hfd, hny⟩ := HCS.out wr HB.out j d hd
      have hTk := chsB_take wide vars cs 0 j d hd HA.out
      have hnt := nextL_take cs 0 j d hd
      have HNT : Hid _ := hnt
      have HNK : Hid (NodesAt wr y d.2) := hny
      obtain ⟨ya, yc, rfl⟩ := hny.shape
      obtain ⟨x1, dt⟩ := d
      obtain ⟨hx0, hx1⟩ := hfd
      simp only at *
      generalize hnl : nextL 0 (cs.take j) = nx at *
      generalize dt.length = yn at *
      have hal := (Below.refl wr.heap.size wr).alloc (Nat.le_refl _) (.cells #[.int .i64 x1, .slice ya yn yc] 117)
      have hb2 : Below w.heap.size w (wr.alloc (.cells #[.int .i64 x1, .slice ya yn yc] 117)) := HB.out.alloc HB.out.size _
      have hny2 := HNK.out.below hal
      have z2 := box2_alloc wr 117 (.int .i64 x1) (.slice ya yn yc)
      have hown2 := World.ownsRow.alloc HOW.out (.cells #[.int .i64 x1, .slice ya yn yc] 117)
      have HOW2 : Hid _ := hown2
      have HB2 : Hid _ := hb2
      have HNY : Hid _ := hny2
      have hss : (wr.alloc (.cells #[.int .i64 x1, .slice ya yn yc] 117)).heap.size = wr.heap.size + 1 := World.size_alloc _ _
      have hbs := HB.out.size
      clear hny hal hb2 hny2 hown2 HCS HNK hd hnt
      by_cases hlo : x1 < nx
      · have HN : Hid (R = false) := HR.out.symm.trans (chsB_not wide vars cs 0 (j + 1) (by rw [hTk, decide_eq_false (by omega), Bool.false_and]))
        clear hTk GN GY HOW HOW2 z2 HNY
        go_wp2_with fail
        go_ret2
        exact crOut_mk _ _ _ HN.out HB2.out
      by_cases hhi : vars ≤ x1
      · have HN : Hid (R = false) := HR.out.symm.trans (chsB_not wide vars cs 0 (j + 1) (by rw [hTk, decide_eq_false (by omega), Bool.false_and]))
        clear hTk GN GY HOW HOW2 z2 HNY
        go_wp2_with fail
        go_ret2
        exact crOut_mk _ _ _ HN.out HB2.out
      by_cases hk : kindL wide vars dt = 1
      case neg =>
        have hkb : (kindL wide vars dt == 1) = false := beq_eq_false_iff_ne.2 hk
        have HN : Hid (R = false) := HR.out.symm.trans (chsB_not wide vars cs 0 (j + 1) (by rw [hTk, hkb, Bool.and_false]))
        have g := GN.out _ _ dt HB2.out HNY.out hk
        clear hTk GN GY HOW HOW2 z2 HNY hkb hk
        go_wp2_with fail
        refine g.mono ?_
        rintro e w3 ⟨rfl, hs⟩
        have HB3 : Hid (Below w.heap.size w w3) := HB2.out.trans (hs.mono HB2.out.size)
        clear g hs
        go_wp2_with fail
        go_ret2
        exact crOut_mk _ _ _ HN.out HB3.out
      have hkb : (kindL wide vars dt == 1) = true := beq_iff_eq.2 hk
      have HN : Hid (chsB wide vars 0 (cs.take (j + 1)) = true) := by
        show chsB wide vars 0 (cs.take (j + 1)) = true
        rw [hTk, decide_eq_true (by omega), hkb]
        rfl
      have g := GY.out _ _ dt HB2.out HNY.out hk
      clear hTk GN GY HOW HNY hkb hk
      go_wp2_with fail
      refine g.mono ?_
      generalize wr.alloc (.cells #[.int .i64 x1, .slice ya yn yc] 117) = w2 at *
      rintro e w3 ⟨pb, rfl, hs⟩
      have hs3 := hs.size
      have z3 := z2.below hs z2.lt
      obtain ⟨c0, c1⟩ := z3.cells
      have ch := z3.heap
      have cl := z3.lt
      have own3 := own_same HOW2.out (fun q hq => (own_block HOW2.out hq).2) (fun i _ hi => hs.block i hi)
      have own6 := World.ownsRow.alloc own3 (.cells #[.int .i64 x1, ptr pb] 130)
      have hb6 : Below w.heap.size w (w3.alloc (.cells #[.int .i64 x1, ptr pb] 130)) := (HB2.out.trans (hs.mono HB2.out.size)).alloc (by omega) _
      have hs6 := hb6.size
      have z6 := z3.alloc (.cells #[.int .i64 x1, ptr pb] 130)
      have cells6 := cr_cells w3 (.int .i64 x1) (ptr pb) 130
      have hlen6 := own6.1
      clear hs g z2 own3 HOW2
      go_wp2_with (at_builtin; refine wpList_append_own _ rfl _ _ 108 rfl w.heap.size 130 i0 (.agg #[.int .i64 0, .pointer none]) 2 16 Tryd.underlying108 hi hz0 hz1 hz2 rfl (by decide) _ _ _ rfl own6 ⟨w3.heap.size, 0, none⟩ 1 1 [.int .i64 x1, ptr pb] rfl rfl cells6 (by simp [Value.oneCell']) (by unfold maxLen; omega) (by omega) hs6 ?_)
      intro v9 w9 own9 grow9 hnew9
      have HB9 : Hid (Below w.heap.size w w9) := hb6.grown grow9 hs6 (fun k hk => (own_block own6 hk).1)
      have HO9 : Hid (∃ ps : List (Value × Value), w9.ownsRow w.heap.size 130 2 v9 (j + 1) (flatP ps)) := ⟨ps ++ [(.int .i64 x1, ptr pb)], by rw [flatP_append]; exact own9⟩
      have z9 : Box2 w9 wr.heap.size 117 (.int .i64 x1) (.slice ya yn yc) := by
        refine ⟨?_⟩
        rw [grow9.block _ z6.lt ?_]
        · exact z6.heap
        · intro e
          rcases own6.2 with ⟨h1, _⟩ | ⟨g, cap, cur, h1, h2, h3, _⟩
          · rw [h1] at e
            cases e
          · rw [h1] at e
            have e2 : g = wr.heap.size := (Option.some.inj e).symm
            subst e2
            rw [z6.heap] at h3
            simp only [Option.some.injEq] at h3
            injection h3 with _ h8
            exact absurd h8 (by decide)
      obtain ⟨m0, m1⟩ := z9.cells
      have mh := z9.heap
      have ml := z9.lt
      clear own6 own9 grow9 hb6 z3 z6 z9 cells6 c0 c1 ch cl hnew9
      go_wp2_with fail
      go_roundw
      case rel => exact ⟨j + 1, by omega, by go_num, by rw [HNT.out], HN, HO9, HB9⟩
      case measure => simp [intOf]; omega
    · obtain rfl : j = cs.length := by omega
      have HN : Hid (R = true) := by
        have h1 := HA.out
        rw [List.take_length] at h1
        exact HR.out.symm.trans h1
      clear HCS GN GY HOW HA
      go_wp2_with fail
      go_ret2
      exact crOut_mk _ _ _ HN.out HB.out
end Go.Proofs.YtpgojamabmpjnaaDoor

namespace Go.Proofs.YtpgojamabmpjnaaDoor
open Go Go.RowKit
open M
set_option linter.unusedVariables false

/-- what rootsOf answers, but for the rows of its commands -/
def RootsOut (w : World) (p : Pg) (e : Ending) (w' : World) : Prop :=
  ((goodP p = true ∧ ∃ (P : Nat) (x y : Value), e = .returned (ptr P) ∧ w.heap.size ≤ P ∧ Box4 w' P 107 (.int .i64 p.1) (.int .i64 p.2.1) x y) ∨ (goodP p = false ∧ e = .returned (.pointer none))) ∧ Below w.heap.size w w'
theorem rootsOut_no {w w' : World} {p : Pg} (h : goodP p = false) (hb : Below w.heap.size w w') : RootsOut w p (.returned (.pointer none)) w' := ⟨Or.inr ⟨h, rfl⟩, hb⟩
theorem rootsOut_yes {w w' : World} {p : Pg} (P : Nat) (x y : Value) (h : goodP p = true) (hp : w.heap.size ≤ P) (hx : Box4 w' P 107 (.int .i64 p.1) (.int .i64 p.2.1) x y) (hb : Below w.heap.size w w') : RootsOut w p (.returned (.pointer (some ⟨P, 0, none⟩))) w' := ⟨Or.inl ⟨h, P, x, y, rfl, hp, hx⟩, hb⟩
theorem infoCm : (Tryd.prog.info? 112).map (fun i => (i.zero, i.size, i.bytes)) = some (some (.agg #[.pointer none, .slice none 0 0]), 2, 32) := by kernel_rfl
set_option maxRecDepth 100000 in
set_option maxHeartbeats 8000000 in
theorem rootsOf_any (v : Value) (p : Pg) (ok : PgOk p) (w : World) (hT : Tab w) (h : AtProg w v p) :
    Calls Tryd.prog 42 #[v] w (RootsOut w p) := by
  obtain ⟨⟨hfw0, hfw1⟩, ⟨hfv0, hfv1⟩, s, c, rfl, hst, hcm⟩ := h
  obtain ⟨sa, sc, rfl⟩ := hst.shape
  obtain ⟨ca, cc, rfl, hcc⟩ := hcm.opened
  have hcl := hcm.1
  have HOK : Hid (∀ x ∈ p.2.2.2, CmOk x) := ok.2.2.2.2
  have HCS : Hid (∀ w1 : World, Below w.heap.size w w1 → ∀ (i : Nat) (d : Cm), p.2.2.2[i]? = some d → ∃ b off : Nat, ca = some ⟨b, off, none⟩ ∧ ∃ x y : Value, w1.cell? ⟨b, off + i * 2, none⟩ = some x ∧ w1.cell? ⟨b, off + i * 2 + 1, none⟩ = some y ∧ NodesAt w1 x d.1 ∧ PairsAt ChV w1 y d.2) := fun w1 hb i d hi => by
    obtain ⟨b, off, e, hlt, x, y, h3, h4, h5⟩ := hcc i d hi
    exact ⟨b, off, e, x, y, by rw [hb.cell (p := ⟨b, off + i * 2, none⟩) hlt]; exact h3, by rw [hb.cell (p := ⟨b, off + i * 2 + 1, none⟩) hlt]; exact h4, h5.1.below hb, h5.2.below chV_frame hb⟩
  have GN : Hid (∀ (w1 : World) (u : Value) (t : List Nd), Below w.heap.size w w1 → NodesAt w1 u t → ¬ kindL p.1 p.2.1 t = 2 → Calls Tryd.prog 35 #[.int .i64 p.1, .int .i64 p.2.1, u, .int .i64 2] w1 fun e w' => e = .returned (.pointer none) ∧ Below w1.heap.size w1 w') := fun w1 u t hb hu hk => rootK_no _ _ 2 u t w1 (hT.below hb hT.some) hu (Or.inr rfl) hk
  have GY : Hid (∀ (w1 : World) (u : Value) (t : List Nd), Below w.heap.size w w1 → NodesAt w1 u t → kindL p.1 p.2.1 t = 2 → Calls Tryd.prog 35 #[.int .i64 p.1, .int .i64 p.2.1, u, .int .i64 2] w1 fun e w' => ∃ q, e = .returned (ptr q) ∧ Below w1.heap.size w1 w') := fun w1 u t hb hu hk => rootK_some _ _ 2 u t w1 (hT.below hb hT.some) hu (Or.inr rfl) hk
  have GC : Hid (∀ (w1 : World) (u : Value) (t : List Ch), Below w.heap.size w w1 → PairsAt ChV w1 u t → t.length ≤ 1048576 → Calls Tryd.prog 61 #[.int .i64 p.1, .int .i64 p.2.1, u] w1 (CROut w1 (chsB p.1 p.2.1 0 t))) := fun w1 u t hb hu hl => changeRoots_any _ _ u t ⟨hfv0, hfv1⟩ hl w1 (hT.below hb hT.some) hu
  have hR0 : goodP p = ((kindL p.1 p.2.1 p.2.2.1 == 2) && (decide (1 ≤ p.2.2.2.length ∧ p.2.2.2.length ≤ 6) && p.2.2.2.all (cmB p.1 p.2.1))) := rfl
  have HR : Hid _ := hR0
  have HST : Hid (∀ w1 : World, Below w.heap.size w w1 → NodesAt w1 (.slice sa p.2.2.1.length sc) p.2.2.1) := fun w1 hb => hst.below hb
  have HP1 : Hid (p.1 = p.1 ∧ p.2.1 = p.2.1) := ⟨rfl, rfl⟩
  clear hcc hcm hst hT ok hR0 HP1
  obtain ⟨i0, hi, hz0, hz1, hz2⟩ := info_parts infoCm
  have HB0 : Hid (Below w.heap.size w (w.alloc (.cells #[.int .i64 p.1, .int .i64 p.2.1, .slice sa p.2.2.1.length sc, .slice ca p.2.2.2.length cc] 33))) := (Below.refl _ _).alloc (Nat.le_refl _) _
  have x0 := box4_alloc w 33 (.int .i64 p.1) (.int .i64 p.2.1) (.slice sa p.2.2.1.length sc) (.slice ca p.2.2.2.length cc)
  have HX0 : Hid _ := x0
  have hns := HST.out _ HB0.out
  clear x0
  by_cases hks : kindL p.1 p.2.1 p.2.2.1 = 2
  case neg =>
    have hkb : (kindL p.1 p.2.1 p.2.2.1 == 2) = false := beq_eq_false_iff_ne.2 hks
    have HN : Hid (goodP p = false) := by
      show goodP p = false
      rw [HR.out, hkb, Bool.false_and]
    have g := GN.out _ _ _ HB0.out hns hks
    clear GN GY GC HCS HR HST hns hks hkb HX0 HOK
    generalize p.2.2.1.length = sn at *
    generalize p.2.2.2.length = cn at *
    go_enter Tryd.func42, Tryd.ntmps42
    go_wp2_with fail
    refine g.mono ?_
    rintro e w1 ⟨rfl, hs⟩
    have HB1 : Hid (Below w.heap.size w w1) := Below.step HB0.out HB0.out.size hs
    clear hs g
    go_wp2_with fail
    go_ret
    exact rootsOut_no HN.out HB1.out
  have hkb : (kindL p.1 p.2.1 p.2.2.1 == 2) = true := beq_iff_eq.2 hks
  have g := GY.out _ _ _ HB0.out hns hks
  by_cases hcn : 1 ≤ p.2.2.2.length ∧ p.2.2.2.length ≤ 6
  case neg =>
    have HN : Hid (goodP p = false) := by
      show goodP p = false
      rw [HR.out, decide_eq_false hcn, Bool.false_and, Bool.and_false]
    clear GN GY GC HCS HR HST hns hks hkb HOK
    generalize p.2.2.1.length = sn at *
    generalize p.2.2.2.length = cn at *
    by_cases hc1 : cn < 1
    · go_enter Tryd.func42, Tryd.ntmps42
      go_wp2_with fail
      refine g.mono ?_
      generalize w.alloc (.cells #[.int .i64 p.1, .int .i64 p.2.1, .slice sa sn sc, .slice ca cn cc] 33) = w0 at *
      rintro e w1 ⟨q, rfl, hs⟩
      have HB1 : Hid (Below w.heap.size w w1) := Below.step HB0.out HB0.out.size hs
      have x1 := HX0.out.below hs HX0.out.lt
      obtain ⟨a0, a1, a2, a3⟩ := x1.cells
      have ah := x1.heap
      have al := x1.lt
      clear hs g x1
      go_wp2_with fail
      go_ret
      exact rootsOut_no HN.out HB1.out
    · have hc6 : 6 < cn := by omega
      go_enter Tryd.func42, Tryd.ntmps42
      go_wp2_with fail
      refine g.mono ?_
      generalize w.alloc (.cells #[.int .i64 p.1, .int .i64 p.2.1, .slice sa sn sc, .slice ca cn cc] 33) = w0 at *
      rintro e w1 ⟨q, rfl, hs⟩
      have HB1 : Hid (Below w.heap.size w w1) := Below.step HB0.out HB0.out.size hs
      have x1 := HX0.out.below hs HX0.out.lt
      obtain ⟨a0, a1, a2, a3⟩ := x1.cells
      have ah := x1.heap
      have al := x1.lt
      clear hs g x1
      go_wp2_with fail
      go_ret
      exact rootsOut_no HN.out HB1.out
  obtain ⟨hc1, hc6⟩ := hcn
  have HR2 : Hid (goodP p = p.2.2.2.all (cmB p.1 p.2.1)) := by
    show goodP p = _
    rw [HR.out, hkb, decide_eq_true ⟨hc1, hc6⟩, Bool.true_and, Bool.true_and]
  clear HR HST hns hks hkb
  have HPE : Hid (∀ (P : Nat) (x y : Value) (w' : World), goodP p = true → w.heap.size ≤ P → Box4 w' P 107 (.int .i64 p.1) (.int .i64 p.2.1) x y → Below w.heap.size w w' → RootsOut w p (.returned (.pointer (some ⟨P, 0, none⟩))) w') := fun P x y w' h1 h2 h3 h4 => rootsOut_yes P x y h1 h2 h3 h4
  have HNO : Hid (∀ w' : World, goodP p = false → Below w.heap.size w w' → RootsOut w p (.returned (.pointer none)) w') := fun w' h1 h2 => rootsOut_no h1 h2
  generalize RootsOut w p = OUT at *
  generalize goodP p = GP at *
  generalize hcs : p.2.2.2 = cs at *
  generalize p.2.2.1.length = sn at *
  generalize p.1 = pw at *
  generalize p.2.1 = pv at *
  clear hcs
  go_enter Tryd.func42, Tryd.ntmps42
  go_wp2_with fail
  refine g.mono ?_
  generalize w.alloc (.cells #[.int .i64 pw, .int .i64 pv, .slice sa sn sc, .slice ca cs.length cc] 33) = w0 at *
  rintro e w1 ⟨q, rfl, hs⟩
  have hb1 : Below w.heap.size w w1 := Below.step HB0.out HB0.out.size hs
  have hsw1 := hb1.size
  have x1 := HX0.out.below hs HX0.out.lt
  have hlt1 := x1.lt
  obtain ⟨a0, a1, a2, a3⟩ := x1.cells
  have ah := x1.heap
  have al := x1.lt
  have y1 := box4_alloc w1 107 (.int .i64 pw) (.int .i64 pv) (ptr q) (.slice none 0 0)
  have hal := (Below.refl w1.heap.size w1).alloc (Nat.le_refl _) (.cells #[.int .i64 pw, .int .i64 pv, ptr q, .slice none 0 0] 107)
  have hb2 := hb1.trans (hal.mono hb1.size)
  have x2 := x1.below hal x1.lt
  have hss2 : (w1.alloc (.cells #[.int .i64 pw, .int .i64 pv, ptr q, .slice none 0 0] 107)).heap.size = w1.heap.size + 1 := World.size_alloc _ _
  have HXP : Hid (∀ w3, Below (w1.heap.size) (w1.alloc (.cells #[.int .i64 pw, .int .i64 pv, ptr q, .slice none 0 0] 107)) w3 → Box4 w3 w.heap.size 33 (.int .i64 pw) (.int .i64 pv) (.slice sa sn sc) (.slice ca cs.length cc)) := fun w3 hb3 => x2.below hb3 (by omega)
  have HB2 : Hid _ := hb2
  have hy1 := y1
  have HY1 : Hid _ := hy1
  have HBB : Hid (Below w1.heap.size (w1.alloc (.cells #[.int .i64 pw, .int .i64 pv, ptr q, .slice none 0 0] 107)) (w1.alloc (.cells #[.int .i64 pw, .int .i64 pv, ptr q, .slice none 0 0] 107))) := Below.refl _ _
  have HO1 : Hid (∃ (vv : Value) (ps : List (Value × Value)), Box4 (w1.alloc (.cells #[.int .i64 pw, .int .i64 pv, ptr q, .slice none 0 0] 107)) w1.heap.size 107 (.int .i64 pw) (.int .i64 pv) (ptr q) vv ∧ (w1.alloc (.cells #[.int .i64 pw, .int .i64 pv, ptr q, .slice none 0 0] 107)).ownsRow (w1.heap.size + 1) 112 2 vv 0 (flatP ps)) := ⟨_, [], y1, World.ownsRow_nil _ _ _ _⟩
  clear hs g hal hb2 hb1 x1 x2 y1 hy1 HX0 HB0
  go_wp2_with fail
  generalize w1.alloc (.cells #[.int .i64 pw, .int .i64 pv, ptr q, .slice none 0 0] 107) = w2 at *
  go_loopw [41] (fun i wr => ∃ j : Nat, j ≤ cs.length ∧ i = .int .i64 j ∧ Hid ((cs.take j).all (cmB pw pv) = true) ∧ Hid (∃ (vv : Value) (ps : List (Value × Value)), Box4 wr w1.heap.size 107 (.int .i64 pw) (.int .i64 pv) (ptr q) vv ∧ wr.ownsRow (w1.heap.size + 1) 112 2 vv j (flatP ps)) ∧ Hid (Below w.heap.size w wr) ∧ Hid (Below w1.heap.size w2 wr)) (fun i _ => cs.length - (intOf i).toNat)
  case atStart => exact ⟨0, by omega, rfl, rfl, HO1, HB2, HBB⟩
  case round =>
    obtain ⟨j, hj, rfl, HA, HO, HB, HBX⟩ := hrel
    clear HO1 HB2 HBB a0 a1 a2 a3 ah al
    obtain ⟨vv, ps, hbox, hown⟩ := HO.out
    obtain ⟨va, vcap, rfl⟩ := own_shape hown
    have HBOX : Hid _ := hbox
    have HOWN : Hid _ := hown
    have hbs := HBX.out.size
    clear HO hbox hown
    by_cases hlt : j < cs.length
    · obtain ⟨d, hd⟩ : ∃ d, cs[j]? = some d := ⟨cs[j], List.getElem?_eq_getElem hlt⟩
      obtain ⟨b, off, rfl, x, y, cx, cy, hnx, hny⟩ := HCS.out wr HB.out j d hd
      have HD : Hid (cs[j]? = some d) := hd
      have hok := HOK.out d (List.mem_of_getElem? hd)
      have hcb : cmB pw pv d = ((kindL pw pv d.1 == 2) && chsB pw pv 0 d.2) := rfl
      have HCB : Hid _ := hcb
      obtain ⟨xa, xc, rfl⟩ := hnx.shape
      obtain ⟨ya, yc, rfl⟩ := hny.shape
      have HNX : Hid (NodesAt wr (.slice xa d.1.length xc) d.1) := hnx
      have HNY : Hid (PairsAt ChV wr (.slice ya d.2.length yc) d.2) := hny
      have hdl2 := hok.2.1
      clear hnx hny hd hok hcb HCS HOK
      have hal := (Below.refl wr.heap.size wr).alloc (Nat.le_refl _) (.cells #[.slice xa d.1.length xc, .slice ya d.2.length yc] 83)
      have hb3 : Below w.heap.size w (wr.alloc (.cells #[.slice xa d.1.length xc, .slice ya d.2.length yc] 83)) := HB.out.alloc HB.out.size _
      have hbx3 : Below w1.heap.size w2 (wr.alloc (.cells #[.slice xa d.1.length xc, .slice ya d.2.length yc] 83)) := HBX.out.alloc (by omega) _
      have z3 := box2_alloc wr 83 (.slice xa d.1.length xc) (.slice ya d.2.length yc)
      obtain ⟨dw, dc⟩ := d
      simp only at *
      have HNX3 := HNX.out.below hal
      have HNY3 : Hid (∀ w4 : World, Below (wr.alloc (.cells #[.slice xa dw.length xc, .slice ya dc.length yc] 83)).heap.size (wr.alloc (.cells #[.slice xa dw.length xc, .slice ya dc.length yc] 83)) w4 → PairsAt ChV w4 (.slice ya dc.length yc) dc) := fun w4 hb4 => (HNY.out.below chV_frame hal).below chV_frame hb4
      have hq := HXP.out _ hbx3
      obtain ⟨a0, a1, a2, a3⟩ := hq.cells
      have ah := hq.heap
      have al := hq.lt
      have hss3 : (wr.alloc (.cells #[.slice xa dw.length xc, .slice ya dc.length yc] 83)).heap.size = wr.heap.size + 1 := World.size_alloc _ _
      have HBOX3 : Hid (Box4 (wr.alloc (.cells #[.slice xa dw.length xc, .slice ya dc.length yc] 83)) w1.heap.size 107 (.int .i64 pw) (.int .i64 pv) (ptr q) (.slice va j vcap)) := HBOX.out.below hal HBOX.out.lt
      have HOWN3 : Hid ((wr.alloc (.cells #[.slice xa dw.length xc, .slice ya dc.length yc] 83)).ownsRow (w1.heap.size + 1) 112 2 (.slice va j vcap) j (flatP ps)) := own_same HOWN.out (fun q hq => (own_block HOWN.out hq).2) (fun i _ hi => hal.block i hi)
      have HB3 : Hid _ := hb3
      have HBX3 : Hid _ := hbx3
      clear hal hb3 hbx3 hq HBOX HOWN HNX HNY HB HBX
      by_cases hk : kindL pw pv dw = 2
      case neg =>
        have g := GN.out _ _ dw HB3.out HNX3 hk
        have GCD : Hid (∀ (w1 : World) (u : Value), Below w.heap.size w w1 → PairsAt ChV w1 u dc → Calls Tryd.prog 61 #[.int .i64 pw, .int .i64 pv, u] w1 (CROut w1 (chsB pw pv 0 dc))) := fun w1 u hb hu => GC.out w1 u dc hb hu hdl2
        clear HNX3 GC hdl2
        generalize dw.length = xn at *
        generalize dc.length = yn at *
        go_wp2_with fail
        refine g.mono ?_
        generalize wr.alloc (.cells #[.slice xa xn xc, .slice ya yn yc] 83) = w3 at *
        rintro e w4 ⟨rfl, hs⟩
        have hs4 := hs.size
        have z4 := z3.below hs z3.lt
        have hbx4 : Below w1.heap.size w2 w4 := HBX3.out.trans (hs.mono (by omega))
        have hq := HXP.out _ hbx4
        have HBOX4 : Hid (Box4 w4 w1.heap.size 107 (.int .i64 pw) (.int .i64 pv) (ptr q) (.slice va j vcap)) := HBOX3.out.below hs HBOX3.out.lt
        have HOWN4 : Hid (w4.ownsRow (w1.heap.size + 1) 112 2 (.slice va j vcap) j (flatP ps)) := own_same HOWN3.out (fun q hq => (own_block HOWN3.out hq).2) (fun i _ hi => hs.block i hi)
        clear a0 a1 a2 a3 ah al
        obtain ⟨a0, a1, a2, a3⟩ := hq.cells
        have ah := hq.heap
        have al := hq.lt
        obtain ⟨c0, c1⟩ := z4.cells
        have ch := z4.heap
        have cl := z4.lt
        have HB4 : Hid (Below w.heap.size w w4) := HB3.out.trans (hs.mono HB3.out.size)
        have gc := GCD.out w4 (.slice ya yn yc) HB4.out (HNY3.out w4 hs)
        have HBX4 : Hid _ := hbx4
        clear g hs z3 hq HBOX3 HOWN3 HB3 HBX3 HNY3 hbx4 GN GY GCD
        go_wp2_with fail
        refine gc.mono ?_
        rintro e w5 hcr
        unfold CROut at hcr
        obtain ⟨ra, rn, rc, rfl, hs⟩ := hcr
        have hs5 := hs.size
        have HB5 : Hid (Below w.heap.size w w5) := HB4.out.trans (hs.mono HB4.out.size)
        have hkb : (kindL pw pv dw == 2) = false := beq_eq_false_iff_ne.2 hk
        have HN : Hid (GP = false) := HR2.out.trans (allNot HD.out (by rw [HCB.out, hkb, Bool.false_and]))
        clear hs gc z4 hkb hk HCB HD HA HR2 HBOX4 HOWN4
        go_wp2_with fail
        exact HNO.out _ HN.out HB5.out
      have g := GY.out _ _ dw HB3.out HNX3 hk
      have GCD : Hid (∀ (w1 : World) (u : Value), Below w.heap.size w w1 → PairsAt ChV w1 u dc → Calls Tryd.prog 61 #[.int .i64 pw, .int .i64 pv, u] w1 (CROut w1 (chsB pw pv 0 dc))) := fun w1 u hb hu => GC.out w1 u dc hb hu hdl2
      clear HNX3 GC hdl2
      generalize dw.length = xn at *
      generalize dc.length = yn at *
      go_wp2_with fail
      refine g.mono ?_
      generalize wr.alloc (.cells #[.slice xa xn xc, .slice ya yn yc] 83) = w3 at *
      rintro e w4 ⟨qb, rfl, hs⟩
      have hs4 := hs.size
      have z4 := z3.below hs z3.lt
      have hbx4 : Below w1.heap.size w2 w4 := HBX3.out.trans (hs.mono (by omega))
      have hq := HXP.out _ hbx4
      have HBOX4 : Hid (Box4 w4 w1.heap.size 107 (.int .i64 pw) (.int .i64 pv) (ptr q) (.slice va j vcap)) := HBOX3.out.below hs HBOX3.out.lt
      have HOWN4 : Hid (w4.ownsRow (w1.heap.size + 1) 112 2 (.slice va j vcap) j (flatP ps)) := own_same HOWN3.out (fun q hq => (own_block HOWN3.out hq).2) (fun i _ hi => hs.block i hi)
      clear a0 a1 a2 a3 ah al
      obtain ⟨a0, a1, a2, a3⟩ := hq.cells
      have ah := hq.heap
      have al := hq.lt
      obtain ⟨c0, c1⟩ := z4.cells
      have ch := z4.heap
      have cl := z4.lt
      have HB4 : Hid (Below w.heap.size w w4) := HB3.out.trans (hs.mono HB3.out.size)
      have gc := GCD.out w4 (.slice ya yn yc) HB4.out (HNY3.out w4 hs)
      have HBX4 : Hid _ := hbx4
      clear g hs z3 hq HBOX3 HOWN3 HB3 HBX3 HNY3 hbx4 GN GY GCD
      go_wp2_with fail
      refine gc.mono ?_
      rintro e w5 hcr
      unfold CROut at hcr
      obtain ⟨ra, rn, rc, rfl, hs⟩ := hcr
      have hs5 := hs.size
      have HB5 : Hid (Below w.heap.size w w5) := HB4.out.trans (hs.mono HB4.out.size)
      have hkb : (kindL pw pv dw == 2) = true := beq_iff_eq.2 hk
      cases hch : chsB pw pv 0 dc with
      | false =>
        have HN : Hid (GP = false) := HR2.out.trans (allNot HD.out (by rw [HCB.out, hch, Bool.and_false]))
        clear hs gc z4 hkb hk HCB HD HA HR2 HBOX4 HOWN4 hch
        go_wp2_with fail
        exact HNO.out _ HN.out HB5.out
      | true =>
        have HN : Hid ((cs.take (j + 1)).all (cmB pw pv) = true) := allTake HD.out HA.out (by rw [HCB.out, hkb, hch]; rfl)
        have hbx5 : Below w1.heap.size w2 w5 := HBX4.out.trans (hs.mono (by have := HBX4.out.size; omega))
        have hy5 := HBOX4.out.below hs HBOX4.out.lt
        have own5 := own_same HOWN4.out (fun q hq => (own_block HOWN4.out hq).2) (fun i _ hi => hs.block i hi)
        have own6 := World.ownsRow.alloc own5 (.cells #[ptr qb, .slice ra rn rc] 112)
        have hb6 : Below w.heap.size w (w5.alloc (.cells #[ptr qb, .slice ra rn rc] 112)) := HB5.out.alloc HB5.out.size _
        have hbx6 : Below w1.heap.size w2 (w5.alloc (.cells #[ptr qb, .slice ra rn rc] 112)) := hbx5.alloc (by have := hbx5.size; omega) _
        have hy6 := hy5.alloc (.cells #[ptr qb, .slice ra rn rc] 112)
        obtain ⟨r0, r1, r2, r3⟩ := hy5.cells
        have rh := hy5.heap
        have rl := hy5.lt
        have cells6 := cr_cells w5 (ptr qb) (.slice ra rn rc) 112
        have hlen6 := own6.1
        have hss6 : (w5.alloc (.cells #[ptr qb, .slice ra rn rc] 112)).heap.size = w5.heap.size + 1 := World.size_alloc _ _
        have hbs6 := hbx5.size
        have hs6 : w1.heap.size + 1 ≤ (w5.alloc (.cells #[ptr qb, .slice ra rn rc] 112)).heap.size := by omega
        clear hs gc z4 hkb hk HCB HD HA HBOX4 HOWN4 hch own5 hy5 HB4 HBX4 a0 a1 a2 a3 ah al c0 c1 ch cl
        go_wp2_with (at_builtin; refine wpList_append_own _ rfl _ _ 105 rfl (w1.heap.size + 1) 112 i0 (.agg #[.pointer none, .slice none 0 0]) 2 32 Tryd.underlying105 hi hz0 hz1 hz2 rfl (by decide) _ _ _ rfl own6 ⟨w5.heap.size, 0, none⟩ 1 1 [ptr qb, .slice ra rn rc] rfl rfl cells6 (by simp [Value.oneCell']) (by unfold maxLen; omega) (by omega) hs6 ?_)
        intro v9 w9 own9 grow9 hnew9
        have hy9 : Box4 w9 w1.heap.size 107 (.int .i64 pw) (.int .i64 pv) (ptr q) (.slice va j vcap) := by
          refine ⟨?_⟩
          rw [grow9.block _ hy6.lt ?_]
          · exact hy6.heap
          · intro e
            have := own_block own6 e.symm
            omega
        have hb9 : Below w.heap.size w w9 := hb6.grown grow9 (by omega) (fun k hk => by have := (own_block own6 hk).1; omega)
        have hbx9 : Below w1.heap.size w2 w9 := hbx6.grown grow9 (by omega) (fun k hk => by have := (own_block own6 hk).1; omega)
        obtain ⟨v9a, v9c, rfl⟩ := own_shape own9
        obtain ⟨m0, m1, m2, m3⟩ := hy9.cells
        have mh := hy9.heap
        have ml := hy9.lt
        have mf := hy9.frozen 3
        have HY10 : Hid _ := hy9.set3 (.slice v9a (j + 1) v9c)
        have HB10 : Hid (Below w.heap.size w (w9.setCell ⟨w1.heap.size, 3, none⟩ (.slice v9a (j + 1) v9c))) := hb9.setCell (by show w.heap.size ≤ w1.heap.size; omega) _
        have HBX10 : Hid (Below w1.heap.size w2 (w9.setCell ⟨w1.heap.size, 3, none⟩ (.slice v9a (j + 1) v9c))) := hbx9.setCell (Nat.le_refl _) _
        have HO10 : Hid ((w9.setCell ⟨w1.heap.size, 3, none⟩ (.slice v9a (j + 1) v9c)).ownsRow (w1.heap.size + 1) 112 2 (.slice v9a (j + 1) v9c) (j + 1) (flatP (ps ++ [(ptr qb, .slice ra rn rc)]))) := by
          show World.ownsRow _ _ _ _ _ _ _
          rw [flatP_append]
          exact own_same (lo := w1.heap.size + 1) own9 (fun q hq => (own_block own9 hq).2) (same_set (Nat.lt_succ_self _))
        clear own6 own9 grow9 hb6 hbx6 hy6 hb9 hbx9 hy9 cells6 r0 r1 r2 r3 rh rl hnew9
        go_wp2_with fail
        go_roundw
        case rel => exact ⟨j + 1, by omega, by go_num, HN, ⟨_, _, HY10.out, HO10.out⟩, HB10, HBX10⟩
        case measure => simp [intOf]; omega
    · obtain rfl : j = cs.length := by omega
      have HN : Hid (GP = true) := by
        have h1 := HA.out
        rw [List.take_length] at h1
        exact HR2.out.trans h1
      clear HCS GN GY GC HA HOWN HR2
      go_wp2_with fail
      exact HPE.out _ _ _ _ HN.out (by omega) HBOX.out HB.out
end Go.Proofs.YtpgojamabmpjnaaDoor

namespace Go.Proofs.YtpgojamabmpjnaaDoor
open Go Go.RowKit
open M
set_option linter.unusedVariables false

/-- a term of a kind, as its tree lies: blocks that S takes -/
def RtAt (w : World) (S : Nat → Prop) (wide vars kind : Int) (t : List Nd) (z : Value) : Prop := ∃ (r : Tr) (b : Nat), z = ptr b ∧ r.flat = t ∧ r.Ok wide vars ∧ r.kind = kind ∧ r.size ≤ 48 ∧ TrAt w S r b
theorem RtAt.frame {w w' : World} {S S' : Nat → Prop} {wide vars kind : Int} {t : List Nd} {z : Value} (h : RtAt w S wide vars kind t z) (hs : ∀ k, S k → S' k) (hk : ∀ k, S k → w'.heap[k]? = w.heap[k]?) : RtAt w' S' wide vars kind t z := by
  obtain ⟨r, b, h1, h2, h3, h4, h5, h6⟩ := h
  exact ⟨r, b, h1, h2, h3, h4, h5, TrAt.frame hs hk h6⟩
def CrEl (w : World) (S : Nat → Prop) (wide vars : Int) (c : Ch) (x y : Value) : Prop := x = .int .i64 c.1 ∧ RtAt w S wide vars 1 c.2 y
/-- a row of changes with their trees, to be read: blocks that S takes -/
def CrAt (w : World) (S : Nat → Prop) (wide vars : Int) (v : Value) (cs : List Ch) : Prop :=
  (cs = [] ∧ v = .slice none 0 0) ∨ ∃ g cap : Nat, v = .slice (some ⟨g, 0, none⟩) cs.length cap ∧ S g ∧ g < w.heap.size ∧ ∀ (i : Nat) (c : Ch), cs[i]? = some c → ∃ x y : Value, w.cell? ⟨g, i * 2, none⟩ = some x ∧ w.cell? ⟨g, i * 2 + 1, none⟩ = some y ∧ CrEl w S wide vars c x y
theorem CrEl.frame {w w' : World} {S S' : Nat → Prop} {wide vars : Int} {c : Ch} {x y : Value} (h : CrEl w S wide vars c x y) (hs : ∀ k, S k → S' k) (hk : ∀ k, S k → w'.heap[k]? = w.heap[k]?) : CrEl w' S' wide vars c x y := ⟨h.1, h.2.frame hs hk⟩
theorem CrAt.frame {w w' : World} {S S' : Nat → Prop} {wide vars : Int} {v : Value} {cs : List Ch} (h : CrAt w S wide vars v cs) (hz : w.heap.size ≤ w'.heap.size) (hs : ∀ k, S k → S' k) (hk : ∀ k, S k → w'.heap[k]? = w.heap[k]?) : CrAt w' S' wide vars v cs := by
  rcases h with h | ⟨g, cap, h1, h2, h3, h4⟩
  · exact Or.inl h
  · refine Or.inr ⟨g, cap, h1, hs g h2, Nat.lt_of_lt_of_le h3 hz, fun i c hi => ?_⟩
    obtain ⟨x, y, k1, k2, k3⟩ := h4 i c hi
    refine ⟨x, y, ?_, ?_, k3.frame hs hk⟩
    · rw [World.cell?_of_block (w := w) (a := ⟨g, i * 2, none⟩) (hk g h2)]; exact k1
    · rw [World.cell?_of_block (w := w) (a := ⟨g, i * 2 + 1, none⟩) (hk g h2)]; exact k2
theorem crAt_of {w : World} {base : Nat} {S : Nat → Prop} {wide vars : Int} {v : Value} {cs : List Ch} {T : TypeId} {ps : List (Value × Value)} (hl : ps.length = cs.length) (h : w.ownsRow base T 2 v cs.length (flatP ps)) (hS : ∀ k, base ≤ k → k < w.heap.size → S k)
    (he : ∀ (i : Nat) (c : Ch) (p : Value × Value), cs[i]? = some c → ps[i]? = some p → CrEl w S wide vars c p.1 p.2) : CrAt w S wide vars v cs := by
  rcases h.2 with ⟨h1, h2⟩ | ⟨g, cap, cur, rfl, hg, hh, _⟩
  · exact Or.inl ⟨List.length_eq_zero_iff.1 h2, h1⟩
  · have hlt := (Array.getElem?_eq_some_iff.1 hh).1
    refine Or.inr ⟨g, cap, rfl, hS g hg hlt, hlt, fun i c hi => ?_⟩
    have hic := (List.getElem?_eq_some_iff.1 hi).1
    obtain ⟨p, hq⟩ : ∃ p, ps[i]? = some p := ⟨ps[i]'(by omega), List.getElem?_eq_getElem (by omega)⟩
    obtain ⟨f0, f1⟩ := flatP_at ps i p hq
    have hfl := flatP_len ps
    refine ⟨p.1, p.2, ?_, ?_, he i c p hi hq⟩
    · rw [h.cellAt (i * 2) (by omega)]; exact f0
    · rw [h.cellAt (i * 2 + 1) (by omega)]; exact f1
theorem rootK_full (wide vars kind : Int) (v : Value) (t : List Nd) (w : World) (hT : Tab w) (h : NodesAt w v t) (hk0 : kind = 1 ∨ kind = 2) (hk : kindL wide vars t = kind) :
    Calls Tryd.prog 35 #[.int .i64 wide, .int .i64 vars, v, .int .i64 kind] w fun e w' => ∃ p, e = .returned (ptr p) ∧ Below w.heap.size w w' ∧ RtAt w' (fun k => w.heap.size ≤ k ∧ k < w'.heap.size) wide vars kind t (ptr p) := by
  obtain ⟨_, _, _, _, hl48, r, hr, k1, k2, k3⟩ := root_tree (show 0 < kindL wide vars t by omega)
  have hsz := r.flat_len
  rw [k2] at hsz
  exact (rootK_yes wide vars kind v t w hT h r hk hk0 hr (by rw [k3]; exact hk)).mono fun e w' ⟨p, he, ht, hb⟩ => ⟨p, he, hb, r, p, rfl, k2, k1, by rw [k3]; exact hk, by omega, TrAt.frame (fun k hk => Or.elim hk (fun q => False.elim q) id) (fun _ _ => rfl) ht⟩
/-- what changeRoots answers -/
def CRFull (w : World) (wide vars : Int) (cs : List Ch) (R : Bool) (e : Ending) (w' : World) : Prop := ∃ a n cap, e = .returned (.tuple #[.slice a n cap, .bool R]) ∧ Below w.heap.size w w' ∧ (R = true → CrAt w' (fun k => w.heap.size ≤ k ∧ k < w'.heap.size) wide vars (.slice a n cap) cs)
theorem crFull_no {w w' : World} {wide vars : Int} {cs : List Ch} {R : Bool} (a : Option Addr) (n cap : Nat) (h : R = false) (hb : Below w.heap.size w w') : CRFull w wide vars cs R (.returned (.tuple #[.slice a n cap, .bool false])) w' := ⟨a, n, cap, by rw [h], hb, fun h' => by rw [h] at h'; cases h'⟩
theorem crFull_yes {w w' : World} {wide vars : Int} {cs : List Ch} {R : Bool} (a : Option Addr) (n cap : Nat) (h : R = true) (hb : Below w.heap.size w w') (hc : CrAt w' (fun k => w.heap.size ≤ k ∧ k < w'.heap.size) wide vars (.slice a n cap) cs) : CRFull w wide vars cs R (.returned (.tuple #[.slice a n cap, .bool true])) w' := ⟨a, n, cap, by rw [h], hb, fun _ => hc⟩
set_option maxRecDepth 100000 in
set_option maxHeartbeats 8000000 in
theorem changeRoots_full (wide vars : Int) (v : Value) (cs : List Ch) (hfv : Fit vars) (hn : cs.length ≤ 1048576) (w : World) (hT : Tab w) (h : PairsAt ChV w v cs) :
    Calls Tryd.prog 61 #[.int .i64 wide, .int .i64 vars, v] w (CRFull w wide vars cs (chsB wide vars 0 cs)) := by
  obtain ⟨cha, chc, rfl, hcc⟩ := h.opened
  have HCS : Hid (∀ w1 : World, Below w.heap.size w w1 → ∀ (i : Nat) (d : Ch), cs[i]? = some d → ∃ b off : Nat, cha = some ⟨b, off, none⟩ ∧ ∃ y : Value, w1.cell? ⟨b, off + i * 2, none⟩ = some (.int .i64 d.1) ∧ w1.cell? ⟨b, off + i * 2 + 1, none⟩ = some y ∧ Fit d.1 ∧ NodesAt w1 y d.2) := fun w1 hb i d hi => by
    obtain ⟨b, off, e, hlt, x, y, h3, h4, h5⟩ := hcc i d hi
    obtain ⟨k0, rfl, k2⟩ := h5
    exact ⟨b, off, e, y, by rw [hb.cell (p := ⟨b, off + i * 2, none⟩) hlt]; exact h3, by rw [hb.cell (p := ⟨b, off + i * 2 + 1, none⟩) hlt]; exact h4, k0, k2.below hb⟩
  have GN : Hid (∀ (w1 : World) (u : Value) (t : List Nd), Below w.heap.size w w1 → NodesAt w1 u t → ¬ kindL wide vars t = 1 → Calls Tryd.prog 35 #[.int .i64 wide, .int .i64 vars, u, .int .i64 1] w1 fun e w' => e = .returned (.pointer none) ∧ Below w1.heap.size w1 w') := fun w1 u t hb hu hk => rootK_no wide vars 1 u t w1 (hT.below hb hT.some) hu (Or.inl rfl) hk
  have GY : Hid (∀ (w1 : World) (u : Value) (t : List Nd), Below w.heap.size w w1 → NodesAt w1 u t → kindL wide vars t = 1 → Calls Tryd.prog 35 #[.int .i64 wide, .int .i64 vars, u, .int .i64 1] w1 fun e w' => ∃ p, e = .returned (ptr p) ∧ Below w1.heap.size w1 w' ∧ RtAt w' (fun k => w1.heap.size ≤ k ∧ k < w'.heap.size) wide vars 1 t (ptr p)) := fun w1 u t hb hu hk => rootK_full wide vars 1 u t w1 (hT.below hb hT.some) hu (Or.inl rfl) hk
  clear h hcc hT
  generalize hR : chsB wide vars 0 cs = R at *
  have HR : Hid _ := hR
  clear hR
  obtain ⟨hf0, hf1⟩ := hfv
  obtain ⟨i0, hi, hz0, hz1, hz2⟩ := info_parts infoCR
  have HO0 : Hid (∃ ps : List (Value × Value), ps.length = 0 ∧ w.ownsRow w.heap.size 130 2 (.slice none 0 0) 0 (flatP ps) ∧ ∀ (i : Nat) (c : Ch) (p : Value × Value), cs[i]? = some c → ps[i]? = some p → CrEl w (fun k => w.heap.size ≤ k ∧ k < w.heap.size ∧ (Value.slice none 0 0).ownBlock ≠ some k) wide vars c p.1 p.2) := ⟨[], rfl, World.ownsRow_nil _ _ _ _, fun i c p _ hp => by simp at hp⟩
  have HB00 : Hid (Below w.heap.size w w) := Below.refl _ _
  go_enter Tryd.func61, Tryd.ntmps61
  go_wp2_with fail
  go_loopw [8, 9, 15] (fun v l i wr => ∃ j : Nat, j ≤ cs.length ∧ i = .int .i64 j ∧ l = .int .i64 (nextL 0 (cs.take j)) ∧ Hid (chsB wide vars 0 (cs.take j) = true) ∧ Hid (∃ ps : List (Value × Value), ps.length = j ∧ wr.ownsRow w.heap.size 130 2 v j (flatP ps) ∧ ∀ (i : Nat) (c : Ch) (p : Value × Value), cs[i]? = some c → ps[i]? = some p → CrEl wr (fun k => w.heap.size ≤ k ∧ k < wr.heap.size ∧ v.ownBlock ≠ some k) wide vars c p.1 p.2) ∧ Hid (Below w.heap.size w wr)) (fun _ _ i _ => cs.length - (intOf i).toNat)
  case atStart => exact ⟨0, by omega, rfl, rfl, rfl, HO0, HB00⟩
  case round =>
    obtain ⟨j, hj, rfl, rfl, HA, HO, HB⟩ := hrel
    clear HO0 HB00
    obtain ⟨ps, hpl, hown, hel⟩ := HO.out
    obtain ⟨va, vcap, rfl⟩ := own_shape hown
    clear HO
    have HOW : Hid _ := hown
    have HEL : Hid _ := hel
    have HPL : Hid (ps.length = j) := hpl
    clear hown hel hpl
    have hnx := nextL_in wide vars _ HA.out
    by_cases hlt : j < cs.length
    · obtain ⟨d, hd⟩ : ∃ d, cs[j]? = some d := ⟨cs[j], List.getElem?_eq_getElem hlt⟩
      obtain ⟨b, off, rfl, y, cx, cy, hfd, hny⟩ := HCS.out wr HB.out j d hd
      have hTk := chsB_take wide vars cs 0 j d hd HA.out
      have hnt := nextL_take cs 0 j d hd
      have HNT : Hid _ := hnt
      have HNK : Hid (NodesAt wr y d.2) := hny
      have HDJ : Hid (cs[j]? = some d) := hd
      obtain ⟨ya, yc, rfl⟩ := hny.shape
      obtain ⟨x1, dt⟩ := d
      obtain ⟨hx0, hx1⟩ := hfd
      simp only at *
      generalize hnl : nextL 0 (cs.take j) = nx at *
      generalize dt.length = yn at *
      have hal := (Below.refl wr.heap.size wr).alloc (Nat.le_refl _) (.cells #[.int .i64 x1, .slice ya yn yc] 117)
      have hb2 : Below w.heap.size w (wr.alloc (.cells #[.int .i64 x1, .slice ya yn yc] 117)) := HB.out.alloc HB.out.size _
      have hny2 := HNK.out.below hal
      have z2 := box2_alloc wr 117 (.int .i64 x1) (.slice ya yn yc)
      have hown2 := World.ownsRow.alloc HOW.out (.cells #[.int .i64 x1, .slice ya yn yc] 117)
      have HOW2 : Hid _ := hown2
      have HB2 : Hid _ := hb2
      have HNY : Hid _ := hny2
      have hss : (wr.alloc (.cells #[.int .i64 x1, .slice ya yn yc] 117)).heap.size = wr.heap.size + 1 := World.size_alloc _ _
      have hbs := HB.out.size
      clear hny hal hb2 hny2 hown2 HCS HNK hd hnt
      by_cases hlo : x1 < nx
      · have HN : Hid (R = false) := HR.out.symm.trans (chsB_not wide vars cs 0 (j + 1) (by rw [hTk, decide_eq_false (by omega), Bool.false_and]))
        clear hTk GN GY HOW HOW2 z2 HNY
        go_wp2_with fail
        go_ret2
        exact crFull_no _ _ _ HN.out HB2.out
      by_cases hhi : vars ≤ x1
      · have HN : Hid (R = false) := HR.out.symm.trans (chsB_not wide vars cs 0 (j + 1) (by rw [hTk, decide_eq_false (by omega), Bool.false_and]))
        clear hTk GN GY HOW HOW2 z2 HNY
        go_wp2_with fail
        go_ret2
        exact crFull_no _ _ _ HN.out HB2.out
      by_cases hk : kindL wide vars dt = 1
      case neg =>
        have hkb : (kindL wide vars dt == 1) = false := beq_eq_false_iff_ne.2 hk
        have HN : Hid (R = false) := HR.out.symm.trans (chsB_not wide vars cs 0 (j + 1) (by rw [hTk, hkb, Bool.and_false]))
        have g := GN.out _ _ dt HB2.out HNY.out hk
        clear hTk GN GY HOW HOW2 z2 HNY hkb hk
        go_wp2_with fail
        refine g.mono ?_
        rintro e w3 ⟨rfl, hs⟩
        have HB3 : Hid (Below w.heap.size w w3) := HB2.out.trans (hs.mono HB2.out.size)
        clear g hs
        go_wp2_with fail
        go_ret2
        exact crFull_no _ _ _ HN.out HB3.out
      have hkb : (kindL wide vars dt == 1) = true := beq_iff_eq.2 hk
      have HN : Hid (chsB wide vars 0 (cs.take (j + 1)) = true) := by
        show chsB wide vars 0 (cs.take (j + 1)) = true
        rw [hTk, decide_eq_true (by omega), hkb]
        rfl
      have g := GY.out _ _ dt HB2.out HNY.out hk
      clear hTk GN GY HNY hkb hk
      go_wp2_with fail
      refine g.mono ?_
      have hbw : ∀ k, k < wr.heap.size → (wr.alloc (.cells #[.int .i64 x1, .slice ya yn yc] 117)).heap[k]? = wr.heap[k]? := fun k hk => by
        show (wr.heap.push _)[k]? = _
        rw [Array.getElem?_push_lt hk]
        simp [hk]
      have HOW3 : Hid _ := HOW.out
      generalize wr.alloc (.cells #[.int .i64 x1, .slice ya yn yc] 117) = w2 at *
      rintro e w3 ⟨pb, rfl, hs, hrt⟩
      have hs3 := hs.size
      have z3 := z2.below hs z2.lt
      obtain ⟨c0, c1⟩ := z3.cells
      have ch := z3.heap
      have cl := z3.lt
      have own3 := own_same HOW2.out (fun q hq => (own_block HOW2.out hq).2) (fun i _ hi => hs.block i hi)
      have own6 := World.ownsRow.alloc own3 (.cells #[.int .i64 x1, ptr pb] 130)
      have hb6 : Below w.heap.size w (w3.alloc (.cells #[.int .i64 x1, ptr pb] 130)) := (HB2.out.trans (hs.mono HB2.out.size)).alloc (by omega) _
      have hs6 := hb6.size
      have z6 := z3.alloc (.cells #[.int .i64 x1, ptr pb] 130)
      have cells6 := cr_cells w3 (.int .i64 x1) (ptr pb) 130
      have hlen6 := own6.1
      have HS3 : Hid _ := hs
      have HRT : Hid (RtAt w3 (fun k => w2.heap.size ≤ k ∧ k < w3.heap.size) wide vars 1 dt (ptr pb)) := hrt
      have hss2 : w2.heap.size = wr.heap.size + 1 := hss
      clear hs g z2 own3 HOW2 hrt
      go_wp2_with (at_builtin; refine wpList_append_own_at _ rfl _ _ 108 rfl w.heap.size 130 i0 (.agg #[.int .i64 0, .pointer none]) 2 16 Tryd.underlying108 hi hz0 hz1 hz2 rfl (by decide) _ _ _ rfl own6 ⟨w3.heap.size, 0, none⟩ 1 1 [.int .i64 x1, ptr pb] rfl rfl cells6 (by simp [Value.oneCell']) (by unfold maxLen; omega) (by omega) hs6 ?_)
      intro v9 w9 own9 grow9 hnew9 hat9
      have HB9 : Hid (Below w.heap.size w w9) := hb6.grown grow9 hs6 (fun k hk => (own_block own6 hk).1)
      have hq9 : ∀ k, k < wr.heap.size + 1 ∨ (k < w3.heap.size) → (Value.slice va j vcap).ownBlock ≠ some k → w9.heap[k]? = w3.heap[k]? := fun k hk hne => by
        have hk3 : k < w3.heap.size := by have := HS3.out.size; omega
        rw [grow9.block k (by rw [World.size_alloc]; omega) (fun e => hne e.symm)]
        show (w3.heap.push _)[k]? = _
        rw [Array.getElem?_push_lt hk3]
        simp [hk3]
      have hs9 := grow9.size
      rw [World.size_alloc] at hs9
      have hv9 : ∀ k, k < w3.heap.size → (Value.slice va j vcap).ownBlock ≠ some k → v9.ownBlock ≠ some k := fun k hk hne e => by
        rcases hat9 with h | h
        · exact hne (h.symm.trans e)
        · rw [h] at e
          have := Option.some.inj e
          omega
      have HO9 : Hid (∃ ps : List (Value × Value), ps.length = j + 1 ∧ w9.ownsRow w.heap.size 130 2 v9 (j + 1) (flatP ps) ∧ ∀ (i : Nat) (c : Ch) (p : Value × Value), cs[i]? = some c → ps[i]? = some p → CrEl w9 (fun k => w.heap.size ≤ k ∧ k < w9.heap.size ∧ v9.ownBlock ≠ some k) wide vars c p.1 p.2) := by
        refine ⟨ps ++ [((.int .i64 x1 : Value), ptr pb)], by rw [List.length_append, HPL.out]; rfl, by rw [flatP_append]; exact own9, fun i c p hc hp => ?_⟩
        by_cases hij : i < ps.length
        · rw [List.getElem?_append_left hij] at hp
          refine (HEL.out i c p hc hp).frame (fun k hk => ⟨hk.1, by omega, hv9 k (by omega) hk.2.2⟩) (fun k hk => ?_)
          rw [hq9 k (Or.inl (by omega)) hk.2.2, HS3.out.block k (by omega)]
          exact hbw k hk.2.1
        · have hlt9 := (List.getElem?_eq_some_iff.1 hp).1
          have hpl := HPL.out
          rw [List.length_append, List.length_singleton] at hlt9
          have hi9 : i = j := by omega
          subst hi9
          rw [List.getElem?_append_right (by omega), hpl, Nat.sub_self] at hp
          simp only [List.getElem?_cons_zero, Option.some.injEq] at hp
          subst hp
          rw [HDJ.out] at hc
          simp only [Option.some.injEq] at hc
          subst hc
          refine ⟨rfl, HRT.out.frame (fun k hk => ?_) (fun k hk => ?_)⟩
          · have hne : (Value.slice va i vcap).ownBlock ≠ some k := fun e => by have := own_block HOW3.out e; omega
            exact ⟨by omega, by omega, hv9 k hk.2 hne⟩
          · have hne : (Value.slice va i vcap).ownBlock ≠ some k := fun e => by have := own_block HOW3.out e; omega
            exact hq9 k (Or.inr hk.2) hne
      have z9 : Box2 w9 wr.heap.size 117 (.int .i64 x1) (.slice ya yn yc) := by
        refine ⟨?_⟩
        rw [grow9.block _ z6.lt ?_]
        · exact z6.heap
        · intro e
          rcases own6.2 with ⟨h1, _⟩ | ⟨g, cap, cur, h1, h2, h3, _⟩
          · rw [h1] at e
            cases e
          · rw [h1] at e
            have e2 : g = wr.heap.size := (Option.some.inj e).symm
            subst e2
            rw [z6.heap] at h3
            simp only [Option.some.injEq] at h3
            injection h3 with _ h8
            exact absurd h8 (by decide)
      obtain ⟨m0, m1⟩ := z9.cells
      have mh := z9.heap
      have ml := z9.lt
      clear own6 own9 grow9 hb6 z3 z6 z9 cells6 c0 c1 ch cl hnew9 hat9 hq9 hv9 hbw HRT HS3 HOW3 HOW
      go_wp2_with fail
      go_roundw
      case rel => exact ⟨j + 1, by omega, by go_num, by rw [HNT.out], HN, HO9, HB9⟩
      case measure => simp [intOf]; omega
    · obtain rfl : j = cs.length := by omega
      have HN : Hid (R = true) := by
        have h1 := HA.out
        rw [List.take_length] at h1
        exact HR.out.symm.trans h1
      have HCR : Hid (CrAt wr (fun k => w.heap.size ≤ k ∧ k < wr.heap.size) wide vars (.slice va cs.length vcap) cs) := crAt_of HPL.out HOW.out (fun k h1 h2 => ⟨h1, h2⟩) (fun i c p hc hp => (HEL.out i c p hc hp).frame (fun k hk => ⟨hk.1, hk.2.1⟩) (fun _ _ => rfl))
      clear HCS GN GY HOW HA HEL
      go_wp2_with fail
      go_ret2
      exact crFull_yes _ _ _ HN.out HB.out HCR.out
end Go.Proofs.YtpgojamabmpjnaaDoor
