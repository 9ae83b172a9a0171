/-
  How long signs are: the program's signSize, bracketSize.
  Names: the program's NameOf, and the walk of its exact law.
  Numbers as texts: the program's NumText, over the library's FormatUint.
  Numbers as texts: the program's ReadNum, over the library's ParseUint; the walk of its exact law.
  Plain mathematics: how long the token at the front of a text is, by its sorts. No program stands in it.
  Tokens of a text: the program's tokenSize and TokensOf.
  A folded tree whole: the model's l2Fold.
  A folded tree whole, and a folded term: the model's l2Fold, FoldTerm.
  A folded term: the model's FoldTerm.
  What is put for variables: the model's PutAll.
  What is put for variables: the model's PutAll whole.
  Plain mathematics for trees: what a tree comes to, the tree that is folded, the tree with trees put for its variables, and the variables of a term in their order.
  The walk of the exact law of VarsIn, out of what the program's own function does.
  The variables of a tree: the program's nameVars, hasVars and VarsIn.
  What an op makes of its parts' values: the program's numberOf, holdsOf and bitOf.
  Lists of words in memory: the laws' own copies and comparisons of them, and a slice of words that came in.
  The walk of the exact law of ValueOf, out of what the program's own function does.
  What a tree comes to in a state: the program's value and ValueOf.
  The walk of the exact law of FoldTerm, out of what the program's own function does.
  A tree that is folded: the program's hasVars, leafOf, fold and FoldTerm.
  Plain mathematics for trees: the tree that is folded is good, no longer, of the same kind, comes to the same, has the same variables and is folded already; what is put for variables does as their values do.
  The program's leafOf, fold and FoldTerm.
  The program's reader of terms: its fields in memory, its small methods, the op of a sign.
  The program's reader of terms: a fault, a token, the op of a sign, a node over parts.
  The program's reader of terms: a number, a name, a node over parts.
  The program's reader of terms: a node over parts that were read.
  Plain mathematics: how a term in brackets is read, case by case; the op of a sign found by a loop.
  The program's reader of terms: a sign ahead of a term.
  The program's reader of terms: two terms in brackets.
  The program's reader of terms: a term.
  The model's reader of terms: a term.
  The model's reader of terms: a sign ahead of a term, and what begins none.
  The model's reader of terms: two terms in brackets.
  The depth of a term: the model's l3Depth and DepthOf.
  The text of a term: the model's l3Text and TermText.
  The text of a term: the model's l3Text whole, TermText.
  Plain mathematics for trees: a list of nodes is the row of one good tree alone; what folded, joined, turned and put terms come to.
-/
import Derived.Test.YtkfplichekebdaaDoorIRun
import Derived.Test.YtkfplichekebdaaDoorTables
import Derived.Test.YtkfplichekebdaaDoorShelf
import Derived.Laws.Rows
import Derived.Test.YtkfplichekebdaaDoorReadN
import Derived.Test.YtkfplichekebdaaDoorNumC
import Derived.Lib.ItoaMem
import Derived.BigCall
import Derived.BigGuard
import Derived.Lib.AtoiErrMem
import Derived.Test.YtkfplichekebdaaDoorToks
import Derived.WalkMore
import Derived.Test.YtkfplichekebdaaDoorFold2
import Derived.Test.YtkfplichekebdaaDoorTree
import Derived.Test.YtkfplichekebdaaDoorVars
import Derived.Test.YtkfplichekebdaaDoorLTurn
import Derived.Test.YtkfplichekebdaaDoorILay2
import Derived.Test.YtkfplichekebdaaDoorVal2
import Derived.Test.YtkfplichekebdaaDoorValueOf
import Derived.OpenShut
import Derived.ProofKit
import Derived.Test.YtkfplichekebdaaDoorLGood
import Derived.Test.YtkfplichekebdaaDoorRd3
import Derived.Test.YtkfplichekebdaaDoorFrontM
import Derived.Test.YtkfplichekebdaaDoorTextB
import Derived.Deep.QuietTactic
import Derived.Test.YtkfplichekebdaaDoorFrom
import Derived.Test.YtkfplichekebdaaDoorText
import Derived.Test.YtkfplichekebdaaDoorSign
import Derived.Outline
namespace Go.Proofs.YtkfplichekebdaaDoor
open Go Go.RowKit
open M
set_option linter.unusedVariables false

theorem hasPrefix_any (s p : Tx) (w : World) : Calls Tryd.prog 89 #[tx s, tx p] w fun e w' => e = .returned (.bool (p.isPrefixOf s)) ∧ w' = w :=
  Any.strings_HasPrefix Tryd.lays99 ⟨s.toArray⟩ ⟨p.toArray⟩ w
/-- the signs as one value -/
abbrev signsV : Value := .agg signsA
/-- the longest of the first signs that begin a text -/
def signMax (s : Tx) : Nat → Nat
  | 0 => 0
  | j + 1 => if (signN j).isPrefixOf s = true then max (signMax s j) (signN j).length else signMax s j
theorem signMax_le (s : Tx) : ∀ j, signMax s j ≤ 2
  | 0 => by simp [signMax]
  | j + 1 => by
    have := signMax_le s j
    have := signN_len j
    simp only [signMax]
    split <;> omega
theorem index_sign0 (W : World) : (Instr.index 90 signsV (.int .i64 0)).run Tryd.prog W = .ok (tx (signN 0)) W := by kernel_rfl
theorem index_sign1 (W : World) : (Instr.index 90 signsV (.int .i64 1)).run Tryd.prog W = .ok (tx (signN 1)) W := by kernel_rfl
theorem index_sign2 (W : World) : (Instr.index 90 signsV (.int .i64 2)).run Tryd.prog W = .ok (tx (signN 2)) W := by kernel_rfl
theorem index_sign3 (W : World) : (Instr.index 90 signsV (.int .i64 3)).run Tryd.prog W = .ok (tx (signN 3)) W := by kernel_rfl
theorem index_sign4 (W : World) : (Instr.index 90 signsV (.int .i64 4)).run Tryd.prog W = .ok (tx (signN 4)) W := by kernel_rfl
theorem index_sign5 (W : World) : (Instr.index 90 signsV (.int .i64 5)).run Tryd.prog W = .ok (tx (signN 5)) W := by kernel_rfl
theorem index_sign6 (W : World) : (Instr.index 90 signsV (.int .i64 6)).run Tryd.prog W = .ok (tx (signN 6)) W := by kernel_rfl
theorem index_sign7 (W : World) : (Instr.index 90 signsV (.int .i64 7)).run Tryd.prog W = .ok (tx (signN 7)) W := by kernel_rfl
theorem index_sign8 (W : World) : (Instr.index 90 signsV (.int .i64 8)).run Tryd.prog W = .ok (tx (signN 8)) W := by kernel_rfl
theorem index_sign9 (W : World) : (Instr.index 90 signsV (.int .i64 9)).run Tryd.prog W = .ok (tx (signN 9)) W := by kernel_rfl
theorem index_sign10 (W : World) : (Instr.index 90 signsV (.int .i64 10)).run Tryd.prog W = .ok (tx (signN 10)) W := by kernel_rfl
theorem index_sign11 (W : World) : (Instr.index 90 signsV (.int .i64 11)).run Tryd.prog W = .ok (tx (signN 11)) W := by kernel_rfl
theorem index_sign12 (W : World) : (Instr.index 90 signsV (.int .i64 12)).run Tryd.prog W = .ok (tx (signN 12)) W := by kernel_rfl
theorem index_sign13 (W : World) : (Instr.index 90 signsV (.int .i64 13)).run Tryd.prog W = .ok (tx (signN 13)) W := by kernel_rfl
theorem index_sign14 (W : World) : (Instr.index 90 signsV (.int .i64 14)).run Tryd.prog W = .ok (tx (signN 14)) W := by kernel_rfl
theorem index_sign15 (W : World) : (Instr.index 90 signsV (.int .i64 15)).run Tryd.prog W = .ok (tx (signN 15)) W := by kernel_rfl
theorem index_sign16 (W : World) : (Instr.index 90 signsV (.int .i64 16)).run Tryd.prog W = .ok (tx (signN 16)) W := by kernel_rfl
theorem index_sign17 (W : World) : (Instr.index 90 signsV (.int .i64 17)).run Tryd.prog W = .ok (tx (signN 17)) W := by kernel_rfl
theorem index_sign18 (W : World) : (Instr.index 90 signsV (.int .i64 18)).run Tryd.prog W = .ok (tx (signN 18)) W := by kernel_rfl
theorem index_sign19 (W : World) : (Instr.index 90 signsV (.int .i64 19)).run Tryd.prog W = .ok (tx (signN 19)) W := by kernel_rfl
theorem index_sign20 (W : World) : (Instr.index 90 signsV (.int .i64 20)).run Tryd.prog W = .ok (tx (signN 20)) W := by kernel_rfl
theorem index_sign (j : Nat) (hj : j < 21) (W : World) : (Instr.index 90 signsV (.int .i64 (j : Int))).run Tryd.prog W = .ok (tx (signN j)) W :=
  match j, hj with
  | 0, _ => index_sign0 W
  | 1, _ => index_sign1 W
  | 2, _ => index_sign2 W
  | 3, _ => index_sign3 W
  | 4, _ => index_sign4 W
  | 5, _ => index_sign5 W
  | 6, _ => index_sign6 W
  | 7, _ => index_sign7 W
  | 8, _ => index_sign8 W
  | 9, _ => index_sign9 W
  | 10, _ => index_sign10 W
  | 11, _ => index_sign11 W
  | 12, _ => index_sign12 W
  | 13, _ => index_sign13 W
  | 14, _ => index_sign14 W
  | 15, _ => index_sign15 W
  | 16, _ => index_sign16 W
  | 17, _ => index_sign17 W
  | 18, _ => index_sign18 W
  | 19, _ => index_sign19 W
  | 20, _ => index_sign20 W
  | n + 21, h => by omega
set_option maxHeartbeats 6400000 in
set_option maxRecDepth 1000000 in
theorem signSize_any (s : Tx) (w : World) (hS : Signs w) : Calls Tryd.prog 61 #[tx s] w fun e w' => e = .returned (.int .i64 (signMax s 21 : Int)) ∧ w' = w := by
  obtain ⟨tt, fr, hg1⟩ := hS
  have HX : Hid (∀ (j : Nat), j < 21 → ∀ W : World, (Instr.index 90 signsV (.int .i64 (j : Int))).run Tryd.prog W = .ok (tx (signN j)) W) := index_sign
  go_enter Tryd.func61, Tryd.ntmps61
  go_wp2_with (refine wpList_load_row rfl 90 _ rfl 0 rfl tt _ fr _ hg1 Tryd.underlying90 rfl (by kernel_rfl) ?_)
  go_loop [3, 7] (fun v i => ∃ j : Nat, j ≤ 21 ∧ i = .int .i64 j ∧ v = .int .i64 (signMax s j : Int)) (fun _ i => 21 - (intOf i).toNat)
  case atStart => exact ⟨0, by omega, rfl, rfl⟩
  case round =>
    obtain ⟨j, hj, rfl, rfl⟩ := hrel
    by_cases hlt' : j < 21
    · have hix := fun W : World => HX.out j hlt' W
      have g := hasPrefix_any s (signN j) w
      have HM : Hid (signMax s (j + 1) = if (signN j).isPrefixOf s = true then max (signMax s j) (signN j).length else signMax s j) := rfl
      have hle := signMax_le s j
      have hlen := signN_len j
      cases hpre : (signN j).isPrefixOf s with
      | true =>
        rw [hpre] at g
        have HM2 : Hid (signMax s (j + 1) = max (signMax s j) (signN j).length) := by
          have h := HM.out
          rw [if_pos hpre] at h
          exact h
        clear hpre HM
        generalize signN j = sg at *
        generalize signMax s j = mj at *
        go_wp2_with fail
        refine g.mono ?_
        rintro e w' ⟨rfl, rfl⟩
        clear g
        go_wp2_with fail
        go_round
        case rel => exact ⟨j + 1, by omega, by go_num, by rw [HM2.out]; congr 1; first | omega | (split <;> omega)⟩
        case measure => simp [intOf]; omega
      | false =>
        rw [hpre] at g
        have HM2 : Hid (signMax s (j + 1) = signMax s j) := by
          have h := HM.out
          rw [if_neg (by rw [hpre]; decide)] at h
          exact h
        clear hpre HM
        generalize signN j = sg at *
        generalize signMax s j = mj at *
        go_wp2_with fail
        refine g.mono ?_
        rintro e w' ⟨rfl, rfl⟩
        clear g
        go_wp2_with fail
        go_round
        case rel => exact ⟨j + 1, by omega, by go_num, by rw [HM2.out]⟩
        case measure => simp [intOf]; omega
    · obtain rfl : j = 21 := by omega
      go_wp2_with fail
      go_ret
      exact ⟨rfl, rfl⟩
theorem bracketSize_any (s : Tx) (w : World) : Calls Tryd.prog 62 #[tx s] w fun e w' => e = .returned (.int .i64 (if [40].isPrefixOf s || [41].isPrefixOf s then 1 else 0)) ∧ w' = w := by
  have g1 := hasPrefix_any s [40] w
  have g2 := hasPrefix_any s [41] w
  cases h1 : [40].isPrefixOf s with
  | true =>
    rw [h1] at g1
    clear g2 h1
    simp only [Bool.true_or, if_true]
    go_enter Tryd.func62, Tryd.ntmps62
    go_wp2_with (go_at_call 89; refine g1.mono ?_; rintro e w' ⟨rfl, rfl⟩)
    go_ret
    exact ⟨rfl, rfl⟩
  | false =>
    rw [h1] at g1
    cases h2 : [41].isPrefixOf s with
    | true =>
      rw [h2] at g2
      clear h1 h2
      simp only [Bool.or_true, if_true]
      go_enter Tryd.func62, Tryd.ntmps62
      go_wp2_with fail
      refine g1.mono ?_
      rintro e w1 ⟨rfl, rfl⟩
      go_wp2_with fail
      refine g2.mono ?_
      rintro e w1 ⟨rfl, rfl⟩
      go_wp2_with fail
      go_ret
      exact ⟨rfl, rfl⟩
    | false =>
      rw [h2] at g2
      clear h1 h2
      simp only [Bool.or_false]
      go_enter Tryd.func62, Tryd.ntmps62
      go_wp2_with fail
      refine g1.mono ?_
      rintro e w1 ⟨rfl, rfl⟩
      go_wp2_with fail
      refine g2.mono ?_
      rintro e w1 ⟨rfl, rfl⟩
      go_wp2_with fail
      go_ret
      exact ⟨rfl, rfl⟩
end Go.Proofs.YtkfplichekebdaaDoor

namespace Go.Proofs.YtkfplichekebdaaDoor
open Go Go.RowKit
open M
set_option linter.unusedVariables false

theorem iNameOf_any (k : Int) (w : World) : Calls Tryd.prog 92 #[.int .i64 k] w fun e w' => e = .returned (.tuple #[tx (nameT k), .bool (decide (0 ≤ k ∧ k ≤ 3))]) ∧ w' = w := by
  unfold nameT
  by_cases h : 0 ≤ k ∧ k ≤ 3
  · rw [if_pos h, decide_eq_true h]
    have hk : k = 0 ∨ k = 1 ∨ k = 2 ∨ k = 3 := by omega
    clear h
    rcases hk with rfl | rfl | rfl | rfl
    all_goals
      go_enter Tryd.func92, Tryd.ntmps92
      go_wp2_with fail
      go_ret2
      exact ⟨rfl, rfl⟩
  · rw [if_neg h, decide_eq_false h]
    by_cases h0 : k < 0
    · clear h
      go_enter Tryd.func92, Tryd.ntmps92
      go_wp2_with fail
      go_ret2
      exact ⟨rfl, rfl⟩
    · have h1 : ¬ k < 0 := h0
      have h2 : 4 ≤ k := by omega
      clear h
      go_enter Tryd.func92, Tryd.ntmps92
      go_wp2_with fail
      go_ret2
      exact ⟨rfl, rfl⟩
end Go.Proofs.YtkfplichekebdaaDoor

namespace Go.Proofs.YtkfplichekebdaaDoor
open Go Go.RowKit Go.Sort Go.Lib
open M
set_option linter.unusedVariables false

theorem dec_num (n : Nat) : Lib.decDigits n = numL n := by
  refine numL_ind (P := fun n => Lib.decDigits n = numL n) ?_ ?_ n
  · intro n h
    rw [Lib.decDigits, dif_pos h, numL_small h]
    rfl
  · intro n h ih
    rw [Lib.decDigits, dif_neg (by omega), numL_big h, ih]
    rfl
theorem pow_tab {w : World} (h : Pow w) : Lib.TabIs Tryd.prog w nmPow .u64 Lib.pow10Tab := h
theorem small_at (i : Nat) (h : i < 100) (w : World) : Calls Tryd.prog 78 #[.int .i64 i] w fun e w' => e = .returned (tx (numL i)) ∧ w' = w := by
  rw [← dec_num]
  exact Any.internal_strconv_small Tryd.lays283 i h w
theorem numDigits_at (u : Nat) (h1 : 1 ≤ u) (h2 : u < 18446744073709551616) (w : World) (hP : Pow w) : Calls Tryd.prog 79 #[.int .u64 u] w fun e w' => e = .returned (.int .i64 (Lib.nDigits u)) ∧ w' = w :=
  Any.internal_strconv_numDigits Tryd.laysM284 u h1 h2 w (pow_tab hP)
theorem base10_at (blk off cap : Nat) (u : Nat) (d : Array UInt8) (w : World) (hH : Holds (fun (b : UInt8) => Value.int .u8 (b.toNat : Int)) w blk off d) (hu : u < 10 ^ d.size) (hu64 : u < 18446744073709551616) (hsz : d.size < 4611686018427387904) :
    Calls Tryd.prog 80 #[.slice (some ⟨blk, off, none⟩) d.size cap, .int .u64 u] w fun e w' =>
      e = .returned (.tuple #[]) ∧ ∃ (n v' : Nat) (dk : Array UInt8), w' = (putRow (fun (b : UInt8) => Value.int .u8 (b.toNat : Int)) w blk off dk).drewN n ∧ FmtInv d.size u 0 v' dk :=
  Any.internal_strconv_formatBase10 Tryd.lays285 blk off cap u d w hH hu hu64 hsz
/-- the new block's bytes are a row of zeros -/
theorem holds_zero0 (w : World) (T : TypeId) (nd : Nat) (hs : nd ≤ 24) : Holds (fun (b : UInt8) => Value.int .u8 (b.toNat : Int)) (w.alloc (.cells zeros24 T)) w.heap.size 0 (Array.replicate nd (0 : UInt8)) := fun j hj => by
  have hj' : j < nd := by simpa using hj
  refine ⟨?_, World.frozen?_alloc_new _ _ _ _⟩
  rw [World.cell?_alloc_new, zeros24_at _ (by omega), getElem!_pos _ j hj]
  simp
theorem fin_zero (w : World) (o : Obj) (dk : Array UInt8) (k : Nat) : Below w.heap.size w ((putRow (fun (b : UInt8) => Value.int .u8 (b.toNat : Int)) (w.alloc o) w.heap.size 0 dk).drewN k) := by
  rw [alloc_eq_grow]
  obtain ⟨os', _, e⟩ := putRow_grow_new (fun (b : UInt8) => Value.int .u8 (b.toNat : Int)) w #[o] w.heap.size 0 dk (Nat.le_refl _)
  rw [e]
  show Below w.heap.size w (grow (w.drewN k) os')
  refine ⟨rfl, rfl, rfl, by simp [grow, World.drewN], fun i hi => ?_⟩
  simp [grow, World.drewN, Array.getElem?_append, hi]
set_option maxHeartbeats 6400000 in
set_option maxRecDepth 100000 in
theorem format_big (u : Nat) (h100 : 100 ≤ u) (hu64 : u < 18446744073709551616) (w : World) (hP : Pow w) :
    Calls Tryd.prog 53 #[.int .u64 u, .int .i64 10] w fun e w' => e = .returned (tx (numL u)) ∧ Below w.heap.size w w' := by
  have hnd20 : Lib.nDigits u ≤ 20 := by rw [← Lib.decDigits_length, dec_num]; exact numL_len20 hu64
  have hal : Tryd.prog.arrayLen 98 = 24 := by kernel_rfl
  have hsl1 : ∀ W, (Instr.sliceAt 98 (.pointer (some ⟨w.heap.size, 0, none⟩)) none (some (.int .i64 (Lib.nDigits u : Int))) none).run Tryd.prog W = .ok (.slice (some ⟨w.heap.size, 0, none⟩) (Lib.nDigits u) 24) W := fun W => by
    rw [run_sliceAt_array_h W 98 ⟨w.heap.size, 0, none⟩ (by simp [Program.arrayLen, Program.elem, Tryd.underlying98]) .i64 (Lib.nDigits u : Int) (by omega) (by rw [hal]; omega)]
    go_simp
  have hH0 := holds_zero0 w 98 (Lib.nDigits u) (by omega)
  have hfmt := base10_at w.heap.size 0 24 u (Array.replicate (Lib.nDigits u) 0) (w.alloc (.cells Lib.zeros24 98)) hH0 (by rw [Array.size_replicate]; exact Lib.lt_pow_nDigits u) hu64 (by rw [Array.size_replicate]; omega)
  rw [Array.size_replicate] at hfmt
  have HH0 := Lib.hid hH0
  have gN := numDigits_at u (by omega) hu64 (w.alloc (.cells Lib.zeros24 98)) (Lib.tabIs_alloc hP _)
  rw [← dec_num]
  have HL : Hid ((Lib.decDigits u).length = Lib.nDigits u) := Lib.decDigits_length u
  have HR : Hid (∀ {v' : Nat} {dk : Array UInt8}, FmtInv (Lib.nDigits u) u 0 v' dk → ∀ (j : Nat) (hj : j < (Lib.decDigits u).length), (Lib.decDigits u)[j] = dk[j]!) := fun h j hj => Lib.row_is_numeral h j hj
  clear hH0 hal hP
  generalize Lib.decDigits u = l at *
  generalize Lib.nDigits u = nd at *
  go_enter Tryd.func53, Tryd.ntmps53
  go_wp2_with fail
  refine gN.mono ?_
  rintro e w1 ⟨rfl, rfl⟩
  clear gN
  go_wp2_with fail
  refine hfmt.mono ?_
  rintro e w2 ⟨rfl, k, v', dk, rfl, hF⟩
  clear hfmt
  have HB : Hid _ := fin_zero w (.cells Lib.zeros24 98) dk k
  have hcv : (convert 80 9 (.slice (some ⟨w.heap.size, 0, none⟩) nd 24)).run Tryd.prog ((putRow (fun (b : UInt8) => Value.int .u8 (b.toNat : Int)) (w.alloc (.cells Lib.zeros24 98)) w.heap.size 0 dk).drewN k) = .ok (tx l) ((putRow (fun (b : UInt8) => Value.int .u8 (b.toNat : Int)) (w.alloc (.cells Lib.zeros24 98)) w.heap.size 0 dk).drewN k) := by
    have h := run_convert_bytes_back (P := Tryd.prog) ((putRow (fun (b : UInt8) => Value.int .u8 (b.toNat : Int)) (w.alloc (.cells Lib.zeros24 98)) w.heap.size 0 dk).drewN k) 80 9 5 ⟨w.heap.size, 0, none⟩ 24 l Tryd.underlying80 Tryd.underlying5 Tryd.underlying9 (fun j hj => by
      rw [HR.out hF j hj, Lib.add_plain, World.cell?_drewN]
      exact cell?_putRow (fun (b : UInt8) => Value.int .u8 (b.toNat : Int)) _ w.heap.size 0 _ dk HH0.out (by rw [hF.size, Array.size_replicate]) j (by rw [hF.size, ← HL.out]; exact hj))
    rw [HL.out] at h
    exact h
  generalize (putRow (fun (b : UInt8) => Value.int .u8 (b.toNat : Int)) (w.alloc (.cells Lib.zeros24 98)) w.heap.size 0 dk).drewN k = w2 at *
  go_wp2_with fail
  go_ret
  exact ⟨rfl, HB.out⟩
theorem format_small (u : Nat) (h100 : u < 100) (w : World) :
    Calls Tryd.prog 53 #[.int .u64 u, .int .i64 10] w fun e w' => e = .returned (tx (numL u)) ∧ Below w.heap.size w w' := by
  have g := small_at u h100 w
  generalize numL u = l at *
  go_enter Tryd.func53, Tryd.ntmps53
  go_wp2_with fail
  refine g.mono ?_
  rintro e w1 ⟨rfl, rfl⟩
  clear g
  go_wp2_with fail
  go_ret
  exact ⟨rfl, Below.refl _ _⟩
theorem format_any (u : Nat) (hu64 : u < 18446744073709551616) (w : World) (hP : Pow w) :
    Calls Tryd.prog 53 #[.int .u64 u, .int .i64 10] w fun e w' => e = .returned (tx (numL u)) ∧ Below w.heap.size w w' := by
  by_cases h : u < 100
  · exact format_small u h w
  · exact format_big u (by omega) hu64 w hP
theorem formatUint_any (u : Nat) (hu64 : u < 18446744073709551616) (w : World) (hP : Pow w) :
    Calls Tryd.prog 30 #[.int .u64 u, .int .i64 10] w fun e w' => e = .returned (tx (numL u)) ∧ Below w.heap.size w w' := by
  have g := format_any u hu64 w hP
  clear hP
  generalize numL u = l at *
  go_enter Tryd.func30, Tryd.ntmps30
  go_wp2_with fail
  refine g.mono ?_
  rintro e w1 ⟨rfl, hb⟩
  have HB : Hid _ := hb
  clear g hb
  go_wp2_with fail
  go_ret
  exact ⟨rfl, HB.out⟩
theorem iNumText_any (u : Nat) (hu64 : u < 18446744073709551616) (w : World) (hP : Pow w) :
    Calls Tryd.prog 10 #[.int .u64 u] w fun e w' => e = .returned (tx (numL u)) ∧ Below w.heap.size w w' := by
  have g := formatUint_any u hu64 w hP
  clear hP
  generalize numL u = l at *
  go_enter Tryd.func10, Tryd.ntmps10
  go_wp2_with fail
  refine g.mono ?_
  rintro e w1 ⟨rfl, hb⟩
  have HB : Hid _ := hb
  clear g hb
  go_wp2_with fail
  go_ret
  exact ⟨rfl, HB.out⟩
end Go.Proofs.YtkfplichekebdaaDoor

namespace Go.Proofs.YtkfplichekebdaaDoor
open Go Go.RowKit
open M
set_option linter.unusedVariables false

theorem parse_num_rest (n : Nat) : n ≤ 18446744073709551615 → ∀ r : Tx, Lib.parseUintM 18446744073709551615 0 (numL n ++ r) = Lib.parseUintM 18446744073709551615 n r := by
  refine numL_ind (P := fun n => n ≤ 18446744073709551615 → ∀ r : Tx, Lib.parseUintM 18446744073709551615 0 (numL n ++ r) = Lib.parseUintM 18446744073709551615 n r) ?_ ?_ n
  · intro n h hn r
    have hd := dig_nat h
    rw [numL_small h, List.singleton_append]
    simp only [Lib.parseUintM]
    rw [if_pos ⟨by omega, by omega⟩, if_neg (by omega), if_neg (by omega), show 0 * 10 + ((dig n).toNat - 48) = n from by omega]
  · intro n h ih hn r
    have hd := dig_nat (n := n % 10) (by omega)
    rw [numL_big h, List.append_assoc, ih (by omega), List.singleton_append]
    simp only [Lib.parseUintM]
    rw [if_pos ⟨by omega, by omega⟩, if_neg (by omega), if_neg (by omega), show n / 10 * 10 + ((dig (n % 10)).toNat - 48) = n from by omega]
theorem parse_num (n : Nat) (hn : n < 18446744073709551616) : Lib.parseUintB 64 (numL n) = .ok n := by
  unfold Lib.parseUintB
  rw [if_neg (by intro e; have := numL_pos n; rw [e] at this; simp at this)]
  have h := parse_num_rest n (by omega) []
  rw [List.append_nil] at h
  exact h
theorem parse_lt {l : Tx} {u : Nat} (h : Lib.parseUintB 64 l = .ok u) : u < 18446744073709551616 := by
  have key : ∀ (l : Tx) (acc u : Nat), acc ≤ 18446744073709551615 → Lib.parseUintM 18446744073709551615 acc l = .ok u → u ≤ 18446744073709551615 := by
    intro l
    induction l with
    | nil =>
      intro acc u ha h
      simp only [Lib.parseUintM] at h
      injection h with h
      omega
    | cons c r ih =>
      intro acc u ha h
      simp only [Lib.parseUintM] at h
      split at h
      · split at h
        · cases h
        · split at h
          · cases h
          · exact ih _ _ (by omega) h
      · cases h
  unfold Lib.parseUintB at h
  split at h
  · cases h
  · have := key l 0 u (by omega) h
    omega
/-- what ParseUint does with a text of which it is the number, and with another one -/
theorem parse_ok (l : Tx) (hl : l.length ≤ 20) (u : Nat) (h : Lib.parseUintB 64 l = .ok u) (w : World) : Calls Tryd.prog 32 #[tx l, .int .i64 10, .int .i64 64] w fun e w' => e = .returned (.tuple #[.int .u64 u, .nilIface]) ∧ Below w.heap.size w w' := by
  have g : Calls Tryd.prog 32 #[tx l, .int .i64 10, .int .i64 64] w fun e w' => e = .returned (.tuple #[.int .u64 u, .nilIface]) ∧ (w' = w ∨ w' = Lib.bytesWorld w 5 ⟨l.toArray⟩) := Any.strconv_ParseUint_10_at64_ok Tryd.laysPu14 ⟨l.toArray⟩ (by rw [tx_size]; omega) u h w
  refine g.mono ?_
  rintro e w' ⟨he, rfl | rfl⟩
  · exact ⟨he, Below.refl _ _⟩
  · exact ⟨he, Lib.bytesWorld_below _ _ _⟩
theorem parse_no (l : Tx) (hl : l.length ≤ 20) (h : ∀ u, Lib.parseUintB 64 l ≠ .ok u) (w : World) (hR : ErrAt 3 w) (hS : ErrAt 2 w) :
    Calls Tryd.prog 32 #[tx l, .int .i64 10, .int .i64 64] w fun e w' => ∃ (n : Int) (tp : TypeId) (p : Value), e = .returned (.tuple #[.int .u64 n, .iface tp p]) ∧ Below w.heap.size w w' := by
  cases hp : Lib.parseUintB 64 l with
  | ok u => exact absurd hp (h u)
  | «syntax» =>
    obtain ⟨_, tp, p, hc⟩ := hS
    have g := Any.strconv_ParseUint_10_at64_syntax Tryd.laysPu14 ⟨l.toArray⟩ (by rw [tx_size]; omega) hp _ w hc (Or.inr ⟨_, _, rfl⟩)
    refine Calls.mono g ?_
    rintro e w' ⟨N, he, _, _, hb⟩
    exact ⟨_, _, _, he, hb⟩
  | range =>
    obtain ⟨_, tp, p, hc⟩ := hR
    have g := Any.strconv_ParseUint_10_at64_range Tryd.laysPu14 ⟨l.toArray⟩ (by rw [tx_size]; omega) hp _ w hc (Or.inr ⟨_, _, rfl⟩)
    refine Calls.mono g ?_
    rintro e w' ⟨N, he, _, _, hb⟩
    exact ⟨_, _, _, he, hb⟩
set_option maxRecDepth 100000 in
theorem iReadNum_any (l : Tx) (hl : l.length ≤ 9223372036854775807) (w : World) (hP : Pow w) (hR : ErrAt 3 w) (hS : ErrAt 2 w) :
    Calls Tryd.prog 12 #[tx l] w fun e w' => e = .returned (.tuple #[.int .u64 (readN l : Int), .bool (isNum l)]) ∧ Below w.heap.size w w' := by
  by_cases h20 : l.length ≤ 20
  · by_cases hok : ∃ u, Lib.parseUintB 64 l = .ok u
    · obtain ⟨u, hu⟩ := hok
      have g1 := parse_ok l h20 u hu w
      have hlt := parse_lt hu
      have GN : Hid (∀ w1 : World, Below w.heap.size w w1 → Calls Tryd.prog 10 #[.int .u64 u] w1 fun e w' => e = .returned (tx (numL u)) ∧ Below w1.heap.size w1 w') := fun w1 hb => iNumText_any u hlt w1 (hP.below hb)
      by_cases hq : numL u = l
      · have e1 : isNum l = true := isNum_iff.2 ⟨u, hlt, hq⟩
        have e2 : readN l = u := by rw [← hq]; exact readN_num hlt
        rw [e1, e2]
        rw [hq] at GN
        clear hq hu e1 e2 hP hR hS
        go_enter Tryd.func12, Tryd.ntmps12
        go_wp2_with fail
        refine g1.mono ?_
        rintro e w1 ⟨rfl, hb1⟩
        have g2 := GN.out w1 hb1
        have HB1 : Hid _ := hb1
        clear g1 hb1 GN
        go_wp2_with fail
        refine g2.mono ?_
        rintro e w2 ⟨rfl, hb2⟩
        have HB2 : Hid (Below w.heap.size w w2) := HB1.out.trans (hb2.mono HB1.out.size)
        clear g2 hb2
        go_wp2_with fail
        go_ret2
        exact ⟨rfl, HB2.out⟩
      · have e1 : isNum l = false := by
          cases e : isNum l with
          | false => rfl
          | true =>
            obtain ⟨n, hn, he⟩ := isNum_iff.1 e
            have h2 := parse_num n hn
            rw [he, hu] at h2
            injection h2 with h2
            subst h2
            exact absurd he hq
        have e2 : readN l = 0 := by unfold readN; rw [e1]; rfl
        rw [e1, e2]
        have hne : (numL u == l) = false := beq_eq_false_iff_ne.2 hq
        generalize numL u = m at *
        clear hq hu e1 e2 hP hR hS
        go_enter Tryd.func12, Tryd.ntmps12
        go_wp2_with fail
        refine g1.mono ?_
        rintro e w1 ⟨rfl, hb1⟩
        have g2 := GN.out w1 hb1
        have HB1 : Hid _ := hb1
        clear g1 hb1 GN
        go_wp2_with fail
        refine g2.mono ?_
        rintro e w2 ⟨rfl, hb2⟩
        have HB2 : Hid (Below w.heap.size w w2) := HB1.out.trans (hb2.mono HB1.out.size)
        clear g2 hb2
        go_wp2_with fail
        go_ret2
        exact ⟨rfl, HB2.out⟩
    · have g1 := parse_no l h20 (fun u hu => hok ⟨u, hu⟩) w hR hS
      have e1 : isNum l = false := by
        cases e : isNum l with
        | false => rfl
        | true =>
          obtain ⟨n, hn, he⟩ := isNum_iff.1 e
          have h2 := parse_num n hn
          rw [he] at h2
          exact absurd ⟨n, h2⟩ hok
      have e2 : readN l = 0 := by unfold readN; rw [e1]; rfl
      rw [e1, e2]
      clear hok e1 e2 hP hR hS
      go_enter Tryd.func12, Tryd.ntmps12
      go_wp2_with fail
      refine g1.mono ?_
      rintro e w1 ⟨n, tp, p, rfl, hb1⟩
      have HB1 : Hid _ := hb1
      clear g1 hb1
      go_wp2_with fail
      go_ret2
      exact ⟨rfl, HB1.out⟩
  · obtain ⟨e1, e2⟩ := isNum_other (l := l) (fun h => h20 h.2)
    rw [e1, e2]
    clear e1 e2 hP hR hS
    go_enter Tryd.func12, Tryd.ntmps12
    go_wp2_with fail
    go_ret2
    exact ⟨rfl, Below.refl _ _⟩
theorem readNum_big (s : Tx) (hb : 1048576 < s.length) (hl : s.length ≤ 9223372036854775807) (w : World) : Calls Tryd.prog 4 #[tx s] w fun e w' => e = .returned (.bool true) ∧ Below w.heap.size w w' := by
  go_enter Tryd.func4, Tryd.ntmps4
  go_wp2_with fail
  go_ret
  exact ⟨rfl, Below.refl _ _⟩
theorem readNum_law (s : Tx) (hl : s.length ≤ 9223372036854775807) (w : World) (hP : Pow w) (hR : ErrAt 3 w) (hS : ErrAt 2 w) : Calls Tryd.prog 4 #[tx s] w fun e w' => e = .returned (.bool true) ∧ Below w.heap.size w w' := by
  by_cases hb : 1048576 < s.length
  · exact readNum_big s hb hl w
  · have g1 := sReadNum_any s hl w
    have GI : Hid (∀ w1 : World, Below w.heap.size w w1 → Calls Tryd.prog 12 #[tx s] w1 fun e w' => e = .returned (.tuple #[.int .u64 (readN s : Int), .bool (isNum s)]) ∧ Below w1.heap.size w1 w') := fun w1 hb => iReadNum_any s hl w1 (hP.below hb) (hR.below hb) (hS.below hb)
    clear hP hR hS
    generalize readN s = m at *
    generalize isNum s = z at *
    go_enter Tryd.func4, Tryd.ntmps4
    go_wp2_with fail
    refine g1.mono ?_
    rintro e w1 ⟨rfl, hb1⟩
    have g2 := GI.out w1 hb1
    have HB : Hid _ := hb1
    clear g1 hb1 GI
    go_wp2_with fail
    refine g2.mono ?_
    rintro e w2 ⟨rfl, hb2⟩
    have HB2 : Hid (Below w.heap.size w w2) := HB.out.trans (hb2.mono HB.out.size)
    clear g2 hb2
    go_wp2_with fail
    go_ret
    exact ⟨rfl, HB2.out⟩
end Go.Proofs.YtkfplichekebdaaDoor

namespace Go.Proofs.YtkfplichekebdaaDoor
open Go Go.RowKit
open M
set_option linter.unusedVariables false

theorem signMax_bound (s : Tx) (n : Nat) : ∀ j, (∀ k, k < j → (signN k).isPrefixOf s = true → (signN k).length ≤ n) → signMax s j ≤ n
  | 0, _ => by simp [signMax]
  | j + 1, h => by
    have ih := signMax_bound s n j (fun k hk hp => h k (by omega) hp)
    simp only [signMax]
    split
    · rename_i hp
      have := h j (by omega) hp
      omega
    · exact ih
theorem signMax_ge (s : Tx) : ∀ j k, k < j → (signN k).isPrefixOf s = true → (signN k).length ≤ signMax s j
  | 0, k, hk, _ => by omega
  | j + 1, k, hk, hp => by
    simp only [signMax]
    by_cases e : k = j
    · subst e
      rw [if_pos hp]
      omega
    · have ih := signMax_ge s j k (by omega) hp
      split <;> omega
theorem isSign_ex {l : Tx} (h : isSign l = true) : ∃ k, k < 21 ∧ signN k = l := by
  unfold isSign at h
  obtain ⟨i, hi, he⟩ := List.any_eq_true.1 h
  rw [List.mem_range] at hi
  exact ⟨i + 3, by omega, of_decide_eq_true he⟩
theorem isSign_of {l : Tx} {k : Nat} (hk : k < 21) (hl : 1 ≤ l.length) (h : signN k = l) : isSign l = true := by
  unfold isSign
  rw [List.any_eq_true]
  have h3 : 3 ≤ k ∧ k ≤ 19 := by
    subst h
    match k, hk, hl with
    | 0, _, hl => simp [signN] at hl
    | 1, _, hl => simp [signN] at hl
    | 2, _, hl => simp [signN] at hl
    | 20, _, hl => simp [signN] at hl
    | 3, _, _ | 4, _, _ | 5, _, _ | 6, _, _ | 7, _, _ | 8, _, _ | 9, _, _ | 10, _, _ | 11, _, _ | 12, _, _ | 13, _, _ | 14, _, _ | 15, _, _ | 16, _, _ | 17, _, _ | 18, _, _ | 19, _, _ => omega
    | n + 21, hk, _ => omega
  exact ⟨k - 3, List.mem_range.2 (by omega), decide_eq_true (by rw [show k - 3 + 3 = k from by omega]; exact h)⟩
theorem prefix_take {l s : Tx} (h : l.isPrefixOf s = true) : s.take l.length = l ∧ l.length ≤ s.length := by
  obtain ⟨t, rfl⟩ := List.isPrefixOf_iff_prefix.1 h
  simp
theorem take_prefix (s : Tx) (n : Nat) : (s.take n).isPrefixOf s = true := List.isPrefixOf_iff_prefix.2 (List.take_prefix n s)
/-- the longest sign at the front -/
theorem signMax_eq (s : Tx) : signMax s 21 = if 2 ≤ s.length ∧ isSign (s.take 2) = true then 2 else if 1 ≤ s.length ∧ isSign (s.take 1) = true then 1 else 0 := by
  have hle := signMax_le s 21
  split
  · rename_i h
    obtain ⟨k, hk, he⟩ := isSign_ex h.2
    have hp : (signN k).isPrefixOf s = true := by rw [he]; exact take_prefix s 2
    have := signMax_ge s 21 k hk hp
    rw [he, List.length_take] at this
    omega
  · rename_i h2
    have hno2 : ∀ k, k < 21 → (signN k).isPrefixOf s = true → (signN k).length ≤ 1 := by
      intro k hk hp
      have hl := signN_len k
      by_cases e : (signN k).length = 2
      · exfalso
        obtain ⟨t1, t2⟩ := prefix_take hp
        rw [e] at t1 t2
        exact h2 ⟨t2, by rw [t1]; exact isSign_of hk (by omega) rfl⟩
      · omega
    have hle1 := signMax_bound s 1 21 hno2
    split
    · rename_i h
      obtain ⟨k, hk, he⟩ := isSign_ex h.2
      have hp : (signN k).isPrefixOf s = true := by rw [he]; exact take_prefix s 1
      have := signMax_ge s 21 k hk hp
      rw [he, List.length_take] at this
      omega
    · rename_i h1
      have := signMax_bound s 0 21 (fun k hk hp => by
        have hl := hno2 k hk hp
        by_cases e : (signN k).length = 1
        · exfalso
          obtain ⟨t1, t2⟩ := prefix_take hp
          rw [e] at t1 t2
          exact h1 ⟨t2, by rw [t1]; exact isSign_of hk (by omega) rfl⟩
        · omega)
      omega
theorem sign_head {k : Nat} {a : UInt8} {l : Tx} (h : signN k = a :: l) : isDig a = false ∧ isLet a = false := by
  unfold signN at h
  split at h <;> first | (cases h; exact ⟨by decide, by decide⟩) | cases h
theorem isSign_head {a : UInt8} {l : Tx} (h : isSign (a :: l) = true) : isDig a = false ∧ isLet a = false := by
  obtain ⟨k, _, he⟩ := isSign_ex h
  exact sign_head he
theorem runs_zero {p : UInt8 → Bool} {c : UInt8} {r : Tx} (h : p c = false) : ((c :: r).takeWhile p).length = 0 := by simp [h]
theorem runs_pos {p : UInt8 → Bool} {c : UInt8} {r : Tx} (h : p c = true) : 0 < ((c :: r).takeWhile p).length := by simp [h]
def brack (s : Tx) : Nat := if [40].isPrefixOf s || [41].isPrefixOf s then 1 else 0
theorem brack_cons (c : UInt8) (r : Tx) : brack (c :: r) = if c = 40 ∨ c = 41 then 1 else 0 := by
  unfold brack
  by_cases h1 : c = 40
  · subst h1; simp [List.isPrefixOf]
  · by_cases h2 : c = 41
    · subst h2; simp [List.isPrefixOf]
    · simp [List.isPrefixOf, h1, h2]
      refine ⟨fun h => h1 h.symm, fun h => h2 h.symm⟩
theorem longL_sorts (s : Tx) : longL s = max (max (max (s.takeWhile isDig).length (s.takeWhile isLet).length) (signMax s 21)) (brack s) := by
  match s with
  | [] => decide
  | c :: r =>
    rw [signMax_eq, brack_cons]
    unfold longL
    have h2 : ∀ n, 1 ≤ n → (c :: r).take n = c :: r.take (n - 1) := by
      intro n hn
      obtain ⟨m, rfl⟩ : ∃ m, n = m + 1 := ⟨n - 1, by omega⟩
      rfl
    by_cases hd : isDig c = true
    · have hpos := runs_pos (r := r) hd
      have hb := isDig_nat hd
      have hl : isLet c = false := by
        cases h : isLet c with
        | false => rfl
        | true => have := isLet_nat h; omega
      have s2 : ¬ (2 ≤ (c :: r).length ∧ isSign ((c :: r).take 2) = true) := by
        rintro ⟨_, h⟩
        rw [h2 2 (by omega)] at h
        rw [(isSign_head h).1] at hd
        cases hd
      have s1 : ¬ (1 ≤ (c :: r).length ∧ isSign ((c :: r).take 1) = true) := by
        rintro ⟨_, h⟩
        rw [h2 1 (by omega)] at h
        rw [(isSign_head h).1] at hd
        cases hd
      have nb : ¬ (c = 40 ∨ c = 41) := by
        rintro (rfl | rfl) <;> simp at hb
      rw [if_pos hpos, if_neg s2, if_neg s1, if_neg nb, runs_zero hl]
      omega
    · have hd' : isDig c = false := by simpa using hd
      rw [if_neg (by rw [runs_zero hd']; omega), runs_zero hd']
      by_cases hl : isLet c = true
      · have hpos := runs_pos (r := r) hl
        have hb := isLet_nat hl
        have s2 : ¬ (2 ≤ (c :: r).length ∧ isSign ((c :: r).take 2) = true) := by
          rintro ⟨_, h⟩
          rw [h2 2 (by omega)] at h
          rw [(isSign_head h).2] at hl
          cases hl
        have s1 : ¬ (1 ≤ (c :: r).length ∧ isSign ((c :: r).take 1) = true) := by
          rintro ⟨_, h⟩
          rw [h2 1 (by omega)] at h
          rw [(isSign_head h).2] at hl
          cases hl
        have nb : ¬ (c = 40 ∨ c = 41) := by
          rintro (rfl | rfl) <;> simp at hb
        rw [if_pos hpos, if_neg s2, if_neg s1, if_neg nb]
        omega
      · have hl' : isLet c = false := by simpa using hl
        rw [if_neg (by rw [runs_zero hl']; omega), runs_zero hl']
        by_cases s2 : 2 ≤ (c :: r).length ∧ isSign ((c :: r).take 2) = true
        · rw [if_pos s2, if_pos s2]
          split <;> omega
        · rw [if_neg s2, if_neg s2]
          have e1 : (c :: r).take 1 = [c] := rfl
          have n1 : 1 ≤ (c :: r).length := by simp
          rw [e1]
          by_cases s1 : isSign [c] = true
          · rw [if_pos ⟨n1, Or.inr (Or.inr s1)⟩, if_pos ⟨n1, s1⟩]
            split <;> omega
          · rw [if_neg (c := 1 ≤ (c :: r).length ∧ isSign [c] = true) (fun h => s1 h.2)]
            by_cases nb : c = 40 ∨ c = 41
            · rw [if_pos (c := c = 40 ∨ c = 41) nb, if_pos ⟨n1, by rcases nb with rfl | rfl <;> simp⟩]
              omega
            · rw [if_neg (c := c = 40 ∨ c = 41) nb, if_neg (by
                rintro ⟨_, h | h | h⟩
                · exact nb (Or.inl (by simpa using h))
                · exact nb (Or.inr (by simpa using h))
                · exact s1 h)]
              omega
end Go.Proofs.YtkfplichekebdaaDoor

namespace Go.Proofs.YtkfplichekebdaaDoor
open Go Go.RowKit
open M
set_option linter.unusedVariables false

theorem clone_any (s : Tx) (hl : s.length ≤ 1048576) (w : World) : Calls Tryd.prog 35 #[tx s] w fun e w' => e = .returned (tx s) ∧ Below w.heap.size w w' := by
  have g : Calls Tryd.prog 63 #[tx s] w fun e w' => e = .returned (tx s) ∧ Below w.heap.size w w' := Any.stringslite_Clone Tryd.laysM316 ⟨s.toArray⟩ w (by rw [tx_size]; omega)
  go_enter Tryd.func35, Tryd.ntmps35
  go_wp2_with fail
  refine g.mono ?_
  rintro e w' ⟨rfl, hb⟩
  have HB : Hid _ := hb
  clear g hb
  go_wp2_with fail
  go_ret
  exact ⟨rfl, HB.out⟩
theorem run_max4 (a b c d : Nat) (ts : Array TypeId) (t : TypeId) (w : World) : (Builtin.max_ ts t #[.int .i64 (a : Int), .int .i64 (b : Int), .int .i64 (c : Int), .int .i64 (d : Int)]).run Tryd.prog w = .ok (.int .i64 ((max (max (max a b) c) d : Nat) : Int)) w := by
  simp [Builtin.max_, Builtin.max2]
  repeat' split
  all_goals omega
set_option maxHeartbeats 6400000 in
set_option maxRecDepth 1000000 in
theorem tokenSize_any (s : Tx) (hl : s.length ≤ 1048576) (w : World) (hS : Signs w) : Calls Tryd.prog 34 #[tx s] w fun e w' => e = .returned (.int .i64 (longL s : Int)) ∧ Below w.heap.size w w' := by
  have g1 := digitsSize_any s hl w
  have G2 : Hid (∀ w1 : World, Calls Tryd.prog 60 #[tx s] w1 fun e w' => e = .returned (.int .i64 ((s.takeWhile isLet).length : Int)) ∧ Below w1.heap.size w1 w') := fun w1 => lettersSize_any s hl w1
  have G3 : Hid (∀ w1 : World, Below w.heap.size w w1 → Calls Tryd.prog 61 #[tx s] w1 fun e w' => e = .returned (.int .i64 (signMax s 21 : Int)) ∧ w' = w1) := fun w1 hb => signSize_any s w1 (hS.below hb)
  have G4 : Hid (∀ w1 : World, Calls Tryd.prog 62 #[tx s] w1 fun e w' => e = .returned (.int .i64 (brack s : Int)) ∧ w' = w1) := fun w1 => by
    have h := bracketSize_any s w1
    rw [show (if [40].isPrefixOf s || [41].isPrefixOf s then (1 : Int) else 0) = (brack s : Int) from by unfold brack; split <;> rfl] at h
    exact h
  have HM : Hid (longL s = max (max (max (s.takeWhile isDig).length (s.takeWhile isLet).length) (signMax s 21)) (brack s)) := longL_sorts s
  generalize longL s = M at *
  clear hS
  generalize (s.takeWhile isDig).length = a at *
  generalize (s.takeWhile isLet).length = b at *
  generalize signMax s 21 = c at *
  generalize brack s = d at *
  go_enter Tryd.func34, Tryd.ntmps34
  go_wp2_with fail
  refine g1.mono ?_
  rintro e w1 ⟨rfl, hb1⟩
  have g2 := G2.out w1
  have HB1 : Hid _ := hb1
  clear g1 hb1 G2
  go_wp2_with fail
  refine g2.mono ?_
  rintro e w2 ⟨rfl, hb2⟩
  have HB2 : Hid (Below w.heap.size w w2) := HB1.out.trans (hb2.mono HB1.out.size)
  have g3 := G3.out w2 HB2.out
  clear g2 hb2 G3
  go_wp2_with fail
  refine g3.mono ?_
  rintro e w3 ⟨rfl, rfl⟩
  have g4 := G4.out w3
  clear g3 G4
  go_wp2_with fail
  refine g4.mono ?_
  rintro e w4 ⟨rfl, rfl⟩
  clear g4
  have hmx := fun W : World => run_max4 a b c d #[3, 3, 3, 3] 3 W
  rw [← HM.out] at hmx
  go_wp2_with fail
  go_ret
  exact ⟨rfl, HB2.out⟩
theorem iTokensOf_long (s : Tx) (h : 800 < s.length) (hl : s.length ≤ 9223372036854775807) (w : World) : Calls Tryd.prog 14 #[tx s] w fun e w' => e = .returned (.tuple #[.slice none 0 0, .int .i64 0, .bool false]) ∧ w' = w := by
  go_enter Tryd.func14, Tryd.ntmps14
  go_wp2_with fail
  go_step3
  go_wp2_with fail
  (try rw [Exit.noGoto_ret])
  go_ret3
  exact ⟨rfl, rfl⟩
set_option maxRecDepth 100000 in
set_option maxHeartbeats 4000000 in
theorem iTokensOf_in (s : Tx) (h : s.length ≤ 800) (w : World) (hS : Signs w) : Calls Tryd.prog 14 #[tx s] w fun e w' => ∃ v, e = .returned (.tuple #[v, .int .i64 (tokP s : Int), .bool (tokB s)]) ∧ OwnToks w' w.heap.size v (tokL s) ∧ Below w.heap.size w w' := by
  have HOK : Hid (∀ l, tokens s = .ok l → tokL s = l ∧ tokP s = 0 ∧ tokB s = true) := fun l e => by
    unfold tokL tokP tokB
    rw [if_pos h, if_pos h, if_pos h, e]
    exact ⟨rfl, rfl, rfl⟩
  have HER : Hid (∀ p, tokens s = .error p → tokL s = [] ∧ tokP s = p ∧ tokB s = false) := fun p e => by
    unfold tokL tokP tokB
    rw [if_pos h, if_pos h, if_pos h, e]
    exact ⟨rfl, rfl, rfl⟩
  have GT : Hid (∀ (l : Tx) (w1 : World), l.length ≤ 800 → Below w.heap.size w w1 → Calls Tryd.prog 34 #[tx l] w1 fun e w' => e = .returned (.int .i64 (longL l : Int)) ∧ Below w1.heap.size w1 w') := fun l w1 hl hb => tokenSize_any l (by omega) w1 (hS.below hb)
  clear hS
  generalize tokL s = TL at *
  generalize tokP s = TP at *
  generalize tokB s = TB at *
  obtain ⟨i0, hi, hz0, hz1, hz2⟩ := info_parts infoTok
  go_enter Tryd.func14, Tryd.ntmps14
  go_wp2_with fail
  go_step3
  go_wp2_with fail
  go_step3
  go_wp2_with fail
  go_loopw [5, 6] (fun v a wr => ∃ (p : Nat) (l : List M.Tok), p ≤ s.length ∧ a = .int .i64 p ∧ l.length ≤ p ∧ Hid (OwnToks wr w.heap.size v l) ∧ Hid (tokens s = appT l (toks p (s.drop p))) ∧ Hid (Below w.heap.size w wr)) (fun _ a _ => s.length - (intOf a).toNat)
  case atStart => exact ⟨0, [], by omega, rfl, by simp, World.ownsRow_nil _ _ _ _, (by rw [appT_nil]; rfl : tokens s = appT [] (toks 0 (s.drop 0))), Below.refl _ _⟩
  case round =>
    obtain ⟨p, l, hp, rfl, hlp, HO, HT, HB⟩ := hrel
    by_cases hlt' : p < s.length
    · obtain ⟨c, hcj⟩ : ∃ c, s[p]? = some c := ⟨s[p], List.getElem?_eq_getElem hlt'⟩
      have he := tx_at hcj (by rw [tx_size]; exact hlt')
      have HD : Hid (s.drop p = c :: s.drop (p + 1)) := by
        show s.drop p = c :: s.drop (p + 1)
        rw [List.drop_eq_getElem_cons hlt', (List.getElem?_eq_some_iff.1 hcj).2]
      clear hcj
      have hx : (ByteArray.mk s.toArray).extract p s.length = ⟨(s.drop p).toArray⟩ := by
        rw [tx_slice, List.take_of_length_le (by simp)]
      have g := GT.out (s.drop p) wr (by simp; omega) HB.out
      have hle := longL_le (s.drop p)
      rw [List.length_drop] at hle
      by_cases hc : c = 32
      · have HT2 : Hid (tokens s = appT l (toks (p + 1) (s.drop (p + 1)))) := by
          have h1 := HT.out
          rw [HD.out, hc, toks_blank] at h1
          exact h1
        subst hc
        clear HD HT
        generalize longL (s.drop p) = L at *
        go_wp2_with fail
        refine g.mono ?_
        rintro e w2 ⟨rfl, hb⟩
        have HB2 : Hid (Below w.heap.size w w2) := HB.out.trans (hb.mono HB.out.size)
        have HO2 : Hid (OwnToks w2 w.heap.size u5 l) := owns_below HO.out hb
        clear g hb
        go_wp2_with fail
        go_roundw
        case rel => exact ⟨p + 1, l, by omega, by go_num, by omega, HO2, HT2, HB2⟩
        case measure => simp [intOf]; omega
      · have n32 : ¬ (c.toNat : Int) = 32 := fun h => hc (byte_of (n := 32) (by omega))
        have d32 : ((c.toNat : Int) == 32) = false := beq_eq_false_iff_ne.2 n32
        by_cases h0 : longL (s.drop p) = 0
        · have HE := HER.out p (by
            have h1 := HT.out
            have h2 := h0
            rw [HD.out] at h1 h2
            rw [toks_bad hc h2] at h1
            exact h1)
          obtain ⟨rfl, rfl, rfl⟩ := HE
          rw [h0] at g
          clear hc n32 HD HT h0 hle
          go_wp2_with fail
          refine g.mono ?_
          rintro e w2 ⟨rfl, hb⟩
          have HB2 : Hid (Below w.heap.size w w2) := HB.out.trans (hb.mono HB.out.size)
          clear g hb
          go_wp2_with fail
          (try rw [Exit.noGoto_ret])
          go_ret3
          exact ⟨_, rfl, World.ownsRow_nil _ _ _ _, HB2.out⟩
        · have HT2 : Hid (tokens s = appT (l ++ [(p, (s.drop p).take (longL (s.drop p)))]) (toks (p + longL (s.drop p)) (s.drop (p + longL (s.drop p))))) := by
            have h1 := HT.out
            have h2 := h0
            rw [HD.out] at h2
            rw [HD.out, toks_one hc h2, appT_app, ← HD.out, List.drop_drop] at h1
            exact h1
          generalize hL : longL (s.drop p) = L at *
          have HLL : Hid _ := hL
          clear hL
          have hL0 : (0 : Int) < L := by omega
          have nL : ((L : Int) == 0) = false := beq_eq_false_iff_ne.2 (by omega)
          have hsl := fun W : World => slice_tx s p L ((p : Int) + L) rfl (by omega) W
          have hlT : ((s.drop p).take L).length = L := by rw [List.length_take, List.length_drop]; omega
          have GC : Hid (∀ w1 : World, Calls Tryd.prog 35 #[tx ((s.drop p).take L)] w1 fun e w' => e = .returned (tx ((s.drop p).take L)) ∧ Below w1.heap.size w1 w') := fun w1 => clone_any _ (by omega) w1
          clear hc n32 HD HT h0 hlT
          generalize (s.drop p).take L = tk at *
          go_wp2_with fail
          refine g.mono ?_
          rintro e w2 ⟨rfl, hb⟩
          have HB2 : Hid (Below w.heap.size w w2) := HB.out.trans (hb.mono HB.out.size)
          have HO2 : Hid (OwnToks w2 w.heap.size u5 l) := owns_below HO.out hb
          clear g hb
          have gc := GC.out w2
          go_wp2_with fail
          refine gc.mono ?_
          rintro e w3 ⟨rfl, hb3⟩
          have HB3 : Hid (Below w.heap.size w w3) := HB2.out.trans (hb3.mono HB2.out.size)
          have HO3 : Hid (OwnToks w3 w.heap.size u5 l) := owns_below HO2.out hb3
          clear gc hb3 GC
          have HBY : Hid (Below w.heap.size w (w3.alloc (.cells #[.int .i64 (p : Int), tx tk] 55))) := HB3.out.alloc HB3.out.size _
          have HSA : Hid (w.heap.size ≤ (w3.alloc (.cells #[.int .i64 (p : Int), tx tk] 55)).heap.size) := HBY.out.size
          have own2 : (w3.alloc (.cells #[.int .i64 (p : Int), tx tk] 55)).ownsRow w.heap.size 55 2 u5 l.length (flatK l) := owns_below HO3.out ((Below.refl _ _).alloc (Nat.le_refl _) _)
          have cellsA := tok_cells w3 p tk
          go_wp2_with (at_builtin; refine wpList_append_own _ rfl _ _ 28 rfl w.heap.size 55 i0 (.agg #[.int .i64 0, .string ⟨#[]⟩]) 2 24 Tryd.underlying28 hi hz0 hz1 hz2 rfl (by decide) _ _ _ rfl own2 ⟨w3.heap.size, 0, none⟩ 1 1 [.int .i64 (p : Int), tx tk] rfl rfl cellsA (tok_one p tk) (by unfold maxLen; omega) (by omega) HSA.out ?_)
          intro vb wb ownb growb _
          have HOB : Hid (OwnToks wb w.heap.size vb (l ++ [(p, tk)])) := by
            show wb.ownsRow w.heap.size 55 2 vb (l ++ [(p, tk)]).length (flatK (l ++ [(p, tk)]))
            rw [List.length_append, List.length_singleton, flatK_append]
            exact ownb
          have HBB : Hid (Below w.heap.size w wb) := Below.grown HBY.out growb HSA.out (fun k hk => (own_block own2 hk).1)
          clear own2 ownb growb cellsA
          go_wp2_with fail
          go_roundw
          case rel => exact ⟨p + L, _, by omega, by go_num, by simp; omega, HOB, HT2, HBB⟩
          case measure => simp [intOf]; omega
    · obtain rfl : p = s.length := by omega
      have HE := HOK.out l (by
        have h1 := HT.out
        rw [List.drop_length] at h1
        rw [toks_end] at h1
        simpa [appT] using h1)
      obtain ⟨rfl, rfl, rfl⟩ := HE
      clear HT
      go_wp2_with fail
      (try rw [Exit.noGoto_ret])
      go_ret3
      exact ⟨_, rfl, HO.out, HB.out⟩
end Go.Proofs.YtkfplichekebdaaDoor

namespace Go.Proofs.YtkfplichekebdaaDoor
open Go Go.RowKit
open M
set_option linter.unusedVariables false

theorem vars_foldl : ∀ (l : List Nd) (a : List Int), (l.foldl (fun l x => if x.1 = 2 then putL l x.2 else l) a).length ≤ a.length + l.length ∧ (l.foldl (fun l x => if x.1 = 2 then putL l x.2 else l) a = [] ↔ a = [] ∧ ∀ x ∈ l, x.1 ≠ 2)
  | [], a => by simp
  | x :: l, a => by
    rw [List.foldl_cons]
    have hp := putL_len a x.2
    by_cases h : x.1 = 2
    · rw [if_pos h]
      obtain ⟨h1, h2⟩ := vars_foldl l (putL a x.2)
      refine ⟨by rw [List.length_cons]; omega, ?_, ?_⟩
      · intro h3
        rw [(h2.1 h3).1] at hp
        simp at hp
      · intro h3
        exact absurd h (h3.2 x (by simp))
    · rw [if_neg h]
      obtain ⟨h1, h2⟩ := vars_foldl l a
      refine ⟨by rw [List.length_cons]; omega, ?_, ?_⟩
      · intro h3
        refine ⟨(h2.1 h3).1, ?_⟩
        intro y hy
        rcases List.mem_cons.1 hy with rfl | hy
        · exact h
        · exact (h2.1 h3).2 y hy
      · intro h3
        exact h2.2 ⟨h3.1, fun y hy => h3.2 y (List.mem_cons_of_mem _ hy)⟩
theorem varsL_both (l : List Nd) : (varsL l).length ≤ l.length ∧ (varsL l = [] ↔ ∀ x ∈ l, x.1 ≠ 2) := by
  obtain ⟨h1, h2⟩ := vars_foldl l []
  refine ⟨by unfold varsL; simpa using h1, ?_⟩
  unfold varsL
  rw [h2]
  simp
theorem litN_ok (op v : Int) (h0 : 0 ≤ v) (h1 : v ≤ 18446744073709551615) : NdOk (litN op v) := by
  unfold litN NdOk
  simp only
  split <;> omega
/-- a folded tree is no longer than the tree, and of nodes that can be -/
theorem fold_ok {k : Nat} (hk1 : 1 ≤ k) (hk : k ≤ 64) {vars : Int} {t : List Nd} (hok : ∀ x ∈ t, NdOk x) {N : Nat} {p : List (Ent Int)} (hp : pileE k vars (val0 []) (val1 k) (val2 k) t N = some p) :
    ∀ (n j : Nat), j ≤ n → j < N → ∀ (f : Ent FV), TreeAt k vars fold0 (fold1 k) (fold2 k) t j f →
      f.at0 ≤ j ∧ f.val.2.2.length ≤ j + 1 - f.at0 ∧ f.val.2.2 ≠ [] ∧ (∀ x ∈ f.val.2.2, NdOk x) ∧ (f.val.1 = false → 0 ≤ f.val.2.1 ∧ f.val.2.1 ≤ 18446744073709551615 ∧ ∀ x, t[j]? = some x → f.val.2.2 = [litN x.1 f.val.2.1])
  | n, j, hj, hjN, f, hf => by
    obtain ⟨e, he⟩ := tree_exists hp hjN
    obtain ⟨t1, t2, t3, t4⟩ := tree_two n j hj e f he hf
    have hpw := pw_le k hk
    have hval : f.val.1 = false → 0 ≤ f.val.2.1 ∧ f.val.2.1 ≤ 18446744073709551615 := by
      intro h
      have h4 := t4.1 h
      have hv := tree_ok hk1 hk (st := []) (fun x hx => (hok x hx).2.2.1) (by simp) j j (Nat.le_refl _) e he (fun i m h0 h1 h2 => absurd h2 (h4 i m (by omega) h1))
      have hw := hv.word hk1
      rw [t3 h]
      omega
    clear he t1 t2 t3 t4
    obtain ⟨⟨op, m⟩, hx, n1, n2, hcase⟩ := tree_cases hf
    have hmem := hok (op, m) (List.mem_of_getElem? hx)
    simp only at hcase n1 n2
    rcases hcase with ⟨m0, rfl⟩ | ⟨m1, hj1, d, hd, hdk, hdj, rfl⟩ | ⟨m2, hj1, d, c, hd, hdk, hd1, hdj, hcc, hck, hcd, rfl⟩
    · simp only [fold0] at hval ⊢
      by_cases h2 : op = 2
      · subst h2
        simp only [if_true]
        refine ⟨Nat.le_refl _, by simp, by simp, ?_, by simp⟩
        intro x hx'
        simp at hx'
        subst hx'
        exact hmem
      · simp only [if_neg h2] at hval ⊢
        refine ⟨Nat.le_refl _, by simp, by simp, ?_, ?_⟩
        · intro x hx'
          simp at hx'
          subst hx'
          exact litN_ok _ _ (hval trivial).1 (hval trivial).2
        · intro _
          refine ⟨(hval trivial).1, (hval trivial).2, ?_⟩
          intro x hx'
          rw [hx] at hx'
          obtain rfl := Option.some.inj hx'
          rfl
    · match n, hj with
      | 0, hj => omega
      | n' + 1, hj =>
        obtain ⟨i1, i2, i3, i4, i5⟩ := fold_ok hk1 hk hok hp n' (j - 1) (by omega) (by omega) d hd
        simp only [fold1] at hval ⊢
        by_cases hv : d.val.1 = true
        · simp only [if_pos hv]
          refine ⟨by omega, by rw [List.length_append]; simp; omega, by simp, ?_, by simp⟩
          intro x hx'
          rcases List.mem_append.1 hx' with h | h
          · exact i4 x h
          · simp at h
            subst h
            exact hmem
        · simp only [if_neg hv] at hval ⊢
          refine ⟨by omega, by simp; omega, by simp, ?_, ?_⟩
          · intro x hx'
            simp only [List.mem_singleton] at hx'
            subst hx'
            exact litN_ok _ _ (hval trivial).1 (hval trivial).2
          · intro _
            refine ⟨(hval trivial).1, (hval trivial).2, ?_⟩
            intro x hx'
            rw [hx] at hx'
            obtain rfl := Option.some.inj hx'
            rfl
    · match n, hj with
      | 0, hj => omega
      | n' + 1, hj =>
        obtain ⟨i1, i2, i3, i4, i5⟩ := fold_ok hk1 hk hok hp n' (j - 1) (by omega) (by omega) d hd
        obtain ⟨k1, k2, k3, k4, k5⟩ := fold_ok hk1 hk hok hp n' (d.at0 - 1) (by omega) (by omega) c hcc
        simp only [fold2] at hval ⊢
        by_cases hv : (c.val.1 || d.val.1) = true
        · simp only [if_pos hv]
          refine ⟨by omega, by rw [List.length_append, List.length_append]; simp; omega, by simp, ?_, by simp⟩
          intro x hx'
          rcases List.mem_append.1 hx' with h | h
          · rcases List.mem_append.1 h with h | h
            · exact k4 x h
            · exact i4 x h
          · simp at h
            subst h
            exact hmem
        · simp only [if_neg hv] at hval ⊢
          refine ⟨by omega, by simp; omega, by simp, ?_, ?_⟩
          · intro x hx'
            simp only [List.mem_singleton] at hx'
            subst hx'
            exact litN_ok _ _ (hval trivial).1 (hval trivial).2
          · intro _
            refine ⟨(hval trivial).1, (hval trivial).2, ?_⟩
            intro x hx'
            rw [hx] at hx'
            obtain rfl := Option.some.inj hx'
            rfl
theorem sub_get (t : List Nd) (a j i : Nat) (x : Nd) (h : ((t.drop a).take (j + 1 - a))[i]? = some x) : t[a + i]? = some x ∧ i < j + 1 - a := by
  rw [List.getElem?_take] at h
  split at h
  · rw [List.getElem?_drop] at h
    exact ⟨h, by assumption⟩
  · cases h
theorem sub_novar (t : List Nd) (a j : Nat) : NoVar t a j ↔ ∀ x ∈ (t.drop a).take (j + 1 - a), x.1 ≠ 2 := by
  constructor
  · intro h x hx h2
    obtain ⟨i, hi⟩ := List.mem_iff_getElem?.1 hx
    obtain ⟨h3, h4⟩ := sub_get t a j i x hi
    obtain ⟨x1, x2⟩ := x
    simp only at h2
    subst h2
    exact h (a + i) x2 (by omega) (by omega) h3
  · intro h i m h0 h1 h2
    refine h (2, m) ?_ rfl
    apply List.mem_iff_getElem?.2
    refine ⟨i - a, ?_⟩
    rw [List.getElem?_take, if_pos (by omega), List.getElem?_drop, show a + (i - a) = i by omega]
    exact h2
end Go.Proofs.YtkfplichekebdaaDoor

namespace Go.Proofs.YtkfplichekebdaaDoor
open Go Go.RowKit
open M
set_option linter.unusedVariables false

section
variable {k : Nat} {vars : Int} {t : List Nd} {b off cap : Nat} {p : List (Ent Int)}
end
end Go.Proofs.YtkfplichekebdaaDoor

namespace Go.Proofs.YtkfplichekebdaaDoor
open Go Go.RowKit
open M
set_option linter.unusedVariables false

/-- a slice whose length is within its capacity -/
def CapOk (v : Value) : Prop := ∀ (a : Option Addr) (n c : Nat), v = .slice a n c → n ≤ c ∧ c ≤ 9223372036854775807
theorem cap_of_own {w : World} {B : Nat} {v : Value} {t : List Nd} (h : OwnNodes w B v t) : CapOk v := by
  intro a n c e
  rcases h.2 with ⟨h1, h2⟩ | ⟨g, cap, cur, h1, _, _, h2, h3, _⟩
  · rw [h1] at e
    simp at e
    omega
  · rw [h1] at e
    simp at e
    unfold maxLen at h3
    omega
theorem fold_len {k : Nat} {vars : Int} {t : List Nd} : ∀ (n j : Nat), j ≤ n → ∀ (f : Ent FV), TreeAt k vars fold0 (fold1 k) (fold2 k) t j f → f.at0 ≤ j ∧ f.val.2.2.length ≤ j + 1 - f.at0
  | n, j, hj, f, hf => by
    obtain ⟨⟨op, m⟩, hx, n1, n2, hcase⟩ := tree_cases hf
    simp only at hcase n1 n2
    rcases hcase with ⟨m0, rfl⟩ | ⟨m1, hj1, d, hd, hdk, hdj, rfl⟩ | ⟨m2, hj1, d, c, hd, hdk, hd1, hdj, hcc, hck, hcd, rfl⟩
    · simp only [fold0]
      refine ⟨Nat.le_refl _, ?_⟩
      split <;> simp
    · match n, hj with
      | 0, hj => omega
      | n' + 1, hj =>
        obtain ⟨i1, i2⟩ := fold_len n' (j - 1) (by omega) d hd
        simp only [fold1]
        refine ⟨by omega, ?_⟩
        split
        · rw [List.length_append]
          simp only [List.length_singleton]
          omega
        · simp only [List.length_singleton]
          omega
    · match n, hj with
      | 0, hj => omega
      | n' + 1, hj =>
        obtain ⟨i1, i2⟩ := fold_len n' (j - 1) (by omega) d hd
        obtain ⟨k1, k2⟩ := fold_len n' (d.at0 - 1) (by omega) c hcc
        simp only [fold2]
        refine ⟨by omega, ?_⟩
        split
        · rw [List.length_append, List.length_append]
          simp only [List.length_singleton]
          omega
        · simp only [List.length_singleton]
          omega
def foldL (wide vars : Int) (t : List Nd) : List Nd :=
  if 0 < kindL wide vars t then
    match pileE wide vars fold0 (fold1 wide.toNat) (fold2 wide.toNat) t t.length with
    | some (f :: _) => f.val.2.2
    | _ => []
  else []
theorem foldL_root {wide vars : Int} {t : List Nd} (h : 0 < kindL wide vars t) : ∃ k : Nat, wide = k ∧ 1 ≤ k ∧ k ≤ 64 ∧ vars ≤ 4 ∧ 1 ≤ t.length ∧ t.length ≤ 48 ∧
    (∃ f, TreeAt k vars fold0 (fold1 k) (fold2 k) t (t.length - 1) f ∧ foldL wide vars t = f.val.2.2) ∧ ∃ p, pileE k vars (val0 []) (val1 k) (val2 k) t t.length = some p := by
  obtain ⟨g1, g2, g3, g4, g5, f, ht, hk⟩ := tree_root (f0 := fold0) (f1 := fold1 wide.toNat) (f2 := fold2 wide.toNat) h
  obtain ⟨_, _, _, _, _, e, he, _⟩ := tree_root (f0 := val0 []) (f1 := val1 wide.toNat) (f2 := val2 wide.toNat) h
  obtain ⟨k, rfl, hk1, hk64⟩ := wideB_true g1
  refine ⟨k, rfl, hk1, hk64, g3, g4, g5, ⟨f, by simpa using ht, ?_⟩, ?_⟩
  · unfold foldL
    rw [if_pos h]
    obtain ⟨r, hr⟩ := ht
    rw [show t.length - 1 + 1 = t.length from by omega] at hr
    rw [hr]
  · obtain ⟨r, hr⟩ := he
    rw [show t.length - 1 + 1 = t.length from by omega] at hr
    exact ⟨e :: r, by simpa using hr⟩
theorem foldTerm_len0 (wide vars : Int) (t : List Nd) : (foldL wide vars t).length ≤ t.length := by
  by_cases h : 0 < kindL wide vars t
  · obtain ⟨k, rfl, _, _, _, h1, _, ⟨f, hf, e⟩, _⟩ := foldL_root h
    have := fold_len (t.length - 1) (t.length - 1) (Nat.le_refl _) f hf
    rw [e]
    omega
  · unfold foldL
    rw [if_neg h]
    simp
theorem foldTerm_reads0 (wide vars : Int) (t : List Nd) (hwide0 : -9223372036854775808 ≤ wide) (hwide1 : wide ≤ 9223372036854775807) (hvars0 : -9223372036854775808 ≤ vars) (hvars1 : vars ≤ 9223372036854775807) (hok : ∀ x ∈ t, NdOk x) (hl : t.length ≤ 1048576) :
    ∀ (w1 : World) (B : Nat) (v1 : Value), OwnNodes w1 B v1 (foldL wide vars t) → NodesAt w1 v1 (foldL wide vars t) := by
  intro w1 B v1 ho
  have hlen := foldTerm_len0 wide vars t
  refine nodes_of_own ?_ (by omega) ho
  by_cases h : 0 < kindL wide vars t
  · obtain ⟨k, rfl, hk1, hk, _, h1, _, ⟨f, hf, e⟩, p, hp⟩ := foldL_root h
    rw [e]
    exact (fold_ok hk1 hk hok hp (t.length - 1) (t.length - 1) (Nat.le_refl _) (by omega) f hf).2.2.2.1
  · unfold foldL
    rw [if_neg h]
    simp
end Go.Proofs.YtkfplichekebdaaDoor

namespace Go.Proofs.YtkfplichekebdaaDoor
open Go Go.RowKit
open M
set_option linter.unusedVariables false

/-- a slice of slices of nodes -/
def NodesSS (w : World) (v : Value) (bs : List (List Nd)) : Prop :=
  bs.length ≤ 9223372036854775807 ∧ ((bs = [] ∧ ∃ (a : Option Addr) (cap : Nat), v = .slice a 0 cap) ∨
  ∃ b off cap : Nat, v = .slice (some ⟨b, off, none⟩) bs.length cap ∧ b < w.heap.size ∧ ∀ (i : Nat) (t : List Nd), bs[i]? = some t → ∃ u : Value, w.cell? ⟨b, off + i, none⟩ = some u ∧ NodesAt w u t)
theorem NodesSS.below {w w' : World} {v : Value} {bs : List (List Nd)} (h : NodesSS w v bs) (hb : Below w.heap.size w w') : NodesSS w' v bs := by
  obtain ⟨h1, h2⟩ := h
  refine ⟨h1, ?_⟩
  rcases h2 with h2 | ⟨b, off, cap, hv, hlt, hc⟩
  · exact Or.inl h2
  · refine Or.inr ⟨b, off, cap, hv, Nat.lt_of_lt_of_le hlt hb.size, fun i t ht => ?_⟩
    obtain ⟨u, h3, h4⟩ := hc i t ht
    refine ⟨u, ?_, h4.below hb⟩
    rw [hb.cell (p := ⟨b, off + i, none⟩) hlt]
    exact h3
/-- for each variable its nodes, for any other node itself -/
def putsL (bs : List (List Nd)) (t : List Nd) : List Nd := t.flatMap fun x => if x.1 = 2 then bs.getD x.2.toNat [] else [x]
theorem putsL_snoc (bs : List (List Nd)) (t : List Nd) (x : Nd) : putsL bs (t ++ [x]) = putsL bs t ++ (if x.1 = 2 then bs.getD x.2.toNat [] else [x]) := by
  unfold putsL
  rw [List.flatMap_append]
  simp
end Go.Proofs.YtkfplichekebdaaDoor

namespace Go.Proofs.YtkfplichekebdaaDoor
open Go Go.RowKit
open M
set_option linter.unusedVariables false

theorem NodesSS.shape {w : World} {v : Value} {bs : List (List Nd)} (h : NodesSS w v bs) : ∃ (a : Option Addr) (cap : Nat), v = .slice a bs.length cap := by
  rcases h.2 with ⟨rfl, a, cap, h⟩ | ⟨b, off, cap, h, _⟩
  · exact ⟨a, cap, h⟩
  · exact ⟨_, cap, h⟩
def canPut (wide vars : Int) (t : List Nd) (bs : List (List Nd)) : Bool := decide (0 < kindL wide vars t) && (decide ((bs.length : Int) = vars) && bs.all fun u => decide (kindL wide vars u = 1))
def saidPut (wide vars : Int) (t : List Nd) (bs : List (List Nd)) : Bool := canPut wide vars t bs && decide (0 < kindL wide vars (putsL bs t))
def putAllL (wide vars : Int) (t : List Nd) (bs : List (List Nd)) : List Nd := if canPut wide vars t bs = true then madeL wide vars (putsL bs t) else []
end Go.Proofs.YtkfplichekebdaaDoor

namespace Go.Proofs.YtkfplichekebdaaDoor
open Go Go.RowKit
open M
set_option linter.unusedVariables false

/-- what a tree comes to -/
def trVal (k : Nat) (st : List Int) : Tr → Int
  | .leaf x => val0 st x
  | .one x a => val1 k x (trVal k st a)
  | .two x a b => val2 k x (trVal k st a) (trVal k st b)
/-- a variable is in it -/
def trVar : Tr → Bool
  | .leaf x => decide (x.1 = 2)
  | .one _ a => trVar a
  | .two _ a b => trVar a || trVar b
def trFold (k : Nat) : Tr → Tr
  | .leaf x => if x.1 = 2 then .leaf x else .leaf (litN x.1 x.2)
  | .one x a => if trVar a = true then .one x (trFold k a) else .leaf (litN x.1 (val1 k x (trVal k [] a)))
  | .two x a b => if (trVar a || trVar b) = true then .two x (trFold k a) (trFold k b) else .leaf (litN x.1 (val2 k x (trVal k [] a) (trVal k [] b)))
def trPut (bs : List Tr) : Tr → Tr
  | .leaf x => if x.1 = 2 then bs.getD x.2.toNat (.leaf x) else .leaf x
  | .one x a => .one x (trPut bs a)
  | .two x a b => .two x (trPut bs a) (trPut bs b)
/-- the values of a good term are those of its tree -/
theorem valueL_tree {wide : Int} {t : List Nd} {st : List Int} {r : Tr} (hs : saidV wide t st = true) (hr : pileT wide st.length t t.length = some [⟨0, r.kind, r⟩]) : valueL wide t st = trVal wide.toNat st r := by
  unfold valueL
  rw [if_pos hs, pileE_map (f0 := Tr.leaf) (f1 := Tr.one) (f2 := Tr.two) (g0 := val0 st) (g1 := val1 wide.toNat) (g2 := val2 wide.toNat) (trVal wide.toNat st) (fun _ => rfl) (fun _ _ => rfl) (fun _ _ _ => rfl)]
  rw [show pileE wide st.length Tr.leaf Tr.one Tr.two t t.length = some [⟨0, r.kind, r⟩] from hr]
  rfl
def trFV (k : Nat) : Tr → FV
  | .leaf x => fold0 x
  | .one x a => fold1 k x (trFV k a)
  | .two x a b => fold2 k x (trFV k a) (trFV k b)
theorem trFV_eq (k : Nat) : ∀ t : Tr, trFV k t = (trVar t, if trVar t = true then 0 else trVal k [] t, (trFold k t).flat)
  | .leaf x => by
    simp only [trFV, fold0, trVar, trFold, trVal, val0]
    by_cases h : x.1 = 2 <;> simp [h, Tr.flat]
  | .one x a => by
    have ha := trFV_eq k a
    simp only [trFV, ha, fold1, trVar, trFold, trVal]
    by_cases h : trVar a = true <;> simp [h, Tr.flat]
  | .two x a b => by
    have ha := trFV_eq k a
    have hb := trFV_eq k b
    simp only [trFV, ha, hb, fold2, trVar, trFold, trVal]
    by_cases h1 : trVar a = true <;> by_cases h2 : trVar b = true <;> simp [Tr.flat, val2, h1, h2]
theorem foldL_tree {wide vars : Int} {t : List Nd} {r : Tr} (h : 0 < kindL wide vars t) (hr : pileT wide vars t t.length = some [⟨0, r.kind, r⟩]) : foldL wide vars t = (trFold wide.toNat r).flat := by
  unfold foldL
  rw [if_pos h, pileE_map (f0 := Tr.leaf) (f1 := Tr.one) (f2 := Tr.two) (g0 := fold0) (g1 := fold1 wide.toNat) (g2 := fold2 wide.toNat) (trFV wide.toNat) (fun _ => rfl) (fun _ _ => rfl) (fun _ _ _ => rfl)]
  rw [show pileE wide vars Tr.leaf Tr.one Tr.two t t.length = some [⟨0, r.kind, r⟩] from hr]
  show (trFV wide.toNat r).2.2 = _
  rw [trFV_eq]
/-- all numbers of a tree are at least 0 -/
abbrev Pos (t : Tr) : Prop := ∀ x ∈ t.flat, 0 ≤ x.2
/-- its variables are below n -/
abbrev VarsBelow (t : Tr) (n : Nat) : Prop := ∀ x ∈ t.flat, x.1 = 2 → x.2.toNat < n
theorem ok_vars {wide vars : Int} : ∀ {t : Tr}, t.Ok wide vars → ∀ x ∈ t.flat, x.1 = 2 → x.2 < vars
  | .leaf y, h, x, hx, h2 => by
    simp only [Tr.flat, List.mem_singleton] at hx
    subst hx
    have := h.2.1
    rw [h2] at this
    exact of_decide_eq_true (show decide (x.2 < vars) = true from this)
  | .one y a, h, x, hx, h2 => by
    simp only [Tr.flat, List.mem_append, List.mem_singleton] at hx
    rcases hx with hx | rfl
    · exact ok_vars h.2.2.2.2 x hx h2
    · have := h.2.2.1
      rw [h2] at this
      exact absurd this (by decide)
  | .two y a b, h, x, hx, h2 => by
    simp only [Tr.flat, List.mem_append, List.mem_singleton] at hx
    rcases hx with (hx | hx) | rfl
    · exact ok_vars h.2.2.2.2.2.1 x hx h2
    · exact ok_vars h.2.2.2.2.2.2 x hx h2
    · have := h.2.2.1
      rw [h2] at this
      exact absurd this (by decide)
theorem trVar_iff : ∀ {wide vars : Int} {t : Tr}, t.Ok wide vars → (trVar t = true ↔ ∃ x ∈ t.flat, x.1 = 2)
  | wide, vars, .leaf y, h => by simp [trVar, Tr.flat]
  | wide, vars, .one y a, h => by
    have ha := trVar_iff h.2.2.2.2
    have hy : y.1 ≠ 2 := by intro e; have := h.2.2.1; rw [e] at this; exact absurd this (by decide)
    simp only [trVar, ha, Tr.flat, List.mem_append, List.mem_singleton]
    constructor
    · rintro ⟨x, hx, h2⟩
      exact ⟨x, Or.inl hx, h2⟩
    · rintro ⟨x, hx | rfl, h2⟩
      · exact ⟨x, hx, h2⟩
      · exact absurd h2 hy
  | wide, vars, .two y a b, h => by
    have ha := trVar_iff h.2.2.2.2.2.1
    have hb := trVar_iff h.2.2.2.2.2.2
    have hy : y.1 ≠ 2 := by intro e; have := h.2.2.1; rw [e] at this; exact absurd this (by decide)
    simp only [trVar, Bool.or_eq_true, ha, hb, Tr.flat, List.mem_append, List.mem_singleton]
    constructor
    · rintro (⟨x, hx, h2⟩ | ⟨x, hx, h2⟩)
      · exact ⟨x, Or.inl (Or.inl hx), h2⟩
      · exact ⟨x, Or.inl (Or.inr hx), h2⟩
    · rintro ⟨x, (hx | hx) | rfl, h2⟩
      · exact Or.inl ⟨x, hx, h2⟩
      · exact Or.inr ⟨x, hx, h2⟩
      · exact absurd h2 hy
/-- a tree's value is a word or a truth -/
theorem trVal_ok {k : Nat} (hk1 : 1 ≤ k) (hk : k ≤ 64) {vars : Int} {st : List Int} (hst : ∀ s ∈ st, 0 ≤ s ∧ s < pw k) : ∀ {t : Tr}, t.Ok k vars → Pos t → VarsBelow t st.length → ValOk k ⟨0, t.kind, trVal k st t⟩
  | .leaf ⟨op, m⟩, h, hp, hv => by
    obtain ⟨n1, n2, m0⟩ := h
    have hm0 := hp (op, m) (by simp [Tr.flat])
    have hvv := hv (op, m) (by simp [Tr.flat])
    simp only at n1 n2 m0 hm0 hvv
    have hop : op = 1 ∨ op = 2 ∨ op = 20 := by
      unfold manyOf at m0
      unfold ownOf at n1
      split at m0
      · omega
      · split at m0
        · omega
        · split at n1
          · omega
          · split at n1 <;> omega
    rcases hop with rfl | rfl | rfl
    · left
      obtain ⟨k', e1, _, _, h3⟩ := goodB_true (show goodB k m = true from n2)
      obtain rfl : k = k' := by omega
      exact ⟨rfl, hm0, h3⟩
    · left
      have hlt := hvv rfl
      have hmem : st.getD m.toNat 0 ∈ st := by
        rw [List.getD_eq_getElem?_getD, List.getElem?_eq_getElem hlt]
        exact List.getElem_mem hlt
      exact ⟨rfl, (hst _ hmem).1, (hst _ hmem).2⟩
    · right
      have h2 : m < 2 := of_decide_eq_true (show decide (m < 2) = true from n2)
      exact ⟨rfl, by show m = 0 ∨ m = 1; omega⟩
  | .one ⟨op, m⟩ a, h, hp, hv => by
    obtain ⟨n1, n2, m1, hk2, ha⟩ := h
    have ih := trVal_ok hk1 hk hst ha (fun x hx => hp x (by simp [Tr.flat, hx])) (fun x hx => hv x (by simp [Tr.flat, hx]))
    have hop : op = 13 ∨ op = 19 := by
      unfold manyOf at m1
      split at m1
      · assumption
      · split at m1 <;> omega
    rcases hop with rfl | rfl
    · rcases ih with ⟨_, h0, h1⟩ | ⟨hk3, _⟩
      · simp only at h0 h1
        exact Or.inl ⟨rfl, by show 0 ≤ pw k - 1 - trVal k st a; omega, by show pw k - 1 - trVal k st a < pw k; omega⟩
      · simp only at hk3
        rw [hk3] at hk2
        cases hk2
    · rcases ih with ⟨hk3, _⟩ | ⟨_, h0⟩
      · simp only at hk3
        rw [hk3] at hk2
        cases hk2
      · simp only at h0
        exact Or.inr ⟨rfl, by show 1 - trVal k st a = 0 ∨ 1 - trVal k st a = 1; omega⟩
  | .two ⟨op, m⟩ a b, h, hp, hv => by
    obtain ⟨n1, n2, m2, hka, hkb, ha, hb⟩ := h
    have ih1 := trVal_ok hk1 hk hst ha (fun x hx => hp x (by simp [Tr.flat, hx])) (fun x hx => hv x (by simp [Tr.flat, hx]))
    have ih2 := trVal_ok hk1 hk hst hb (fun x hx => hp x (by simp [Tr.flat, hx])) (fun x hx => hv x (by simp [Tr.flat, hx]))
    have hop : (3 ≤ op ∧ op ≤ 12) ∨ (14 ≤ op ∧ op ≤ 16) ∨ (op = 17 ∨ op = 18) := by
      unfold manyOf at m2
      split at m2
      · cases m2
      · split at m2 <;> omega
    have w1 := ih1.word hk1
    have w2 := ih2.word hk1
    simp only at w1 w2
    rcases hop with hop | hop | hop
    · left
      have h := doOp_word k hk op (trVal k st a) (trVal k st b) hop w1.1 w1.2 w2.1 w2.2
      exact ⟨by show ownOf op = 1; unfold ownOf; rw [if_pos (by omega)], h.1, h.2⟩
    · right
      exact ⟨by show ownOf op = 2; unfold ownOf; rw [if_neg (by omega), if_pos (by omega)], doOp_cond k op _ _ hop⟩
    · right
      have hp2 : partOf op = 2 := by
        unfold partOf
        rw [if_neg (by omega), if_pos (by omega)]
      simp only at hka hkb
      rw [hp2] at hka hkb
      have v1 : trVal k st a = 0 ∨ trVal k st a = 1 := by
        rcases ih1 with ⟨h, _⟩ | ⟨_, h⟩
        · simp only at h
          rw [h] at hka
          cases hka
        · exact h
      have v2 : trVal k st b = 0 ∨ trVal k st b = 1 := by
        rcases ih2 with ⟨h, _⟩ | ⟨_, h⟩
        · simp only at h
          rw [h] at hkb
          cases hkb
        · exact h
      exact ⟨by show ownOf op = 2; unfold ownOf; rw [if_neg (by omega), if_pos (by omega)], doOp_both k op _ _ hop v1 v2⟩
/-- the variables of a term in their order -/
def sorted4 (f : Int → Bool) : List Int := [0, 1, 2, 3].filter f
theorem putL_sorted (f : Int → Bool) (n : Int) (h : n = 0 ∨ n = 1 ∨ n = 2 ∨ n = 3) : putL (sorted4 f) n = sorted4 (fun i => f i || i == n) := by
  unfold sorted4
  simp only [List.filter]
  rcases h with rfl | rfl | rfl | rfl <;> cases f 0 <;> cases f 1 <;> cases f 2 <;> cases f 3 <;> rfl
theorem varsL_sorted : ∀ (n : Nat) (t : List Nd), t.length = n → (∀ x ∈ t, x.1 = 2 → 0 ≤ x.2 ∧ x.2 < 4) → varsL t = sorted4 (fun i => decide ((2, i) ∈ t))
  | 0, t, hn, _ => by
    obtain rfl := List.length_eq_zero_iff.1 hn
    rfl
  | n + 1, t, hn, h => by
    have hne : t ≠ [] := by intro e; subst e; simp at hn
    have e : t = t.dropLast ++ [t.getLast hne] := (List.dropLast_concat_getLast hne).symm
    generalize t.getLast hne = x at e
    generalize t.dropLast = u at e
    subst e
    have ih := varsL_sorted n u (by simpa using hn) (fun x hx => h x (by simp [hx]))
    rw [varsL_snoc, ih]
    have hx := h x (by simp)
    obtain ⟨op, m⟩ := x
    simp only at hx ⊢
    by_cases h2 : op = 2
    · subst h2
      have h4 := hx rfl
      rw [if_pos rfl, putL_sorted _ m (by omega)]
      congr 1
      funext i
      by_cases h1 : (2, i) ∈ u
      · simp [h1]
      · by_cases h3 : i = m
        · simp [h3]
        · simp [h1, h3]
    · rw [if_neg h2]
      congr 1
      funext i
      have : ((2, i) : Nd) ≠ (op, m) := by intro e; simp at e; exact h2 e.1.symm
      simp [this]
end Go.Proofs.YtkfplichekebdaaDoor

namespace Go.Proofs.YtkfplichekebdaaDoor
open Go Go.RowKit
open M
set_option linter.unusedVariables false

theorem varsL_len (t : List Nd) : (varsL t).length ≤ t.length := by
  have h : ∀ n : Nat, n ≤ t.length → (varsL (t.take n)).length ≤ n := by
    intro n
    induction n with
    | zero => intro _; simp [varsL]
    | succ n ih =>
      intro hn
      obtain ⟨x, hx⟩ : ∃ x, t[n]? = some x := ⟨t[n], List.getElem?_eq_getElem (by omega)⟩
      have e : t.take (n + 1) = t.take n ++ [x] := by
        rw [List.take_add_one, hx]
        rfl
      rw [e, varsL_snoc]
      have i1 := ih (by omega)
      split
      · have := (putL_len (varsL (t.take n)) x.2).1
        omega
      · omega
  have h2 := h t.length (Nat.le_refl _)
  rw [List.take_length] at h2
  exact h2
theorem varsIn_len0 (wide vars : Int) (t : List Nd) : (varsInL wide vars t).length ≤ t.length := by
  unfold varsInL
  split
  · exact varsL_len t
  · simp
theorem varsIn_reads0 (wide vars : Int) (t : List Nd) (hwide0 : -9223372036854775808 ≤ wide) (hwide1 : wide ≤ 9223372036854775807) (hvars0 : -9223372036854775808 ≤ vars) (hvars1 : vars ≤ 9223372036854775807) (hok : ∀ x ∈ t, NdOk x) (hl : t.length ≤ 1048576) :
    ∀ (w1 : World) (B : Nat) (v1 : Value), OwnInts w1 B v1 (varsInL wide vars t) → IntsAt w1 v1 (varsInL wide vars t) := by
  intro w1 B v1 ho
  have := varsIn_len0 wide vars t
  exact ints_of_own (by omega) ho
end Go.Proofs.YtkfplichekebdaaDoor

namespace Go.Proofs.YtkfplichekebdaaDoor
open Go Go.RowKit
open M
set_option linter.unusedVariables false

/-- of what lay there nothing but block g has turned -/
structure But (g : Nat) (w w' : World) : Prop where
  os : w'.os = w.os
  tape : w'.tape = w.tape
  output : w'.output = w.output
  size : w.heap.size ≤ w'.heap.size
  block : ∀ k, k ≠ g → k < w.heap.size → w'.heap[k]? = w.heap[k]?
theorem But.refl (g : Nat) (w : World) : But g w w := ⟨rfl, rfl, rfl, Nat.le_refl _, fun _ _ _ => rfl⟩
theorem But.trans {g : Nat} {u v w : World} (h : But g u v) (k : But g v w) : But g u w :=
  ⟨k.os.trans h.os, k.tape.trans h.tape, k.output.trans h.output, Nat.le_trans h.size k.size, fun i hi hs => (k.block i hi (Nat.lt_of_lt_of_le hs h.size)).trans (h.block i hi hs)⟩
theorem But.setCell {g : Nat} {u w : World} (h : But g u w) (o : Nat) (v : Value) : But g u (w.setCell ⟨g, o, none⟩ v) :=
  h.trans ⟨rfl, rfl, rfl, by simp [World.setCell], fun k hk _ => Below.heap_setCell _ _ _ _ hk⟩
theorem But.drew {g : Nat} {u w : World} (h : But g u w) : But g u w.drew := ⟨h.os, h.tape, h.output, h.size, h.block⟩
theorem But.below {B g : Nat} {w w' : World} (h : But g w w') (hB : B ≤ g) (hs : B ≤ w.heap.size) : Below B w w' :=
  ⟨h.os, h.tape, h.output, h.size, fun k hk => h.block k (by omega) (by omega)⟩
/-- four truths in memory -/
def bools (f : Int → Bool) : Array Value := #[.bool (f 0), .bool (f 1), .bool (f 2), .bool (f 3)]
theorem bools_put (f : Int → Bool) (i : Nat) (h : i < 4) : (bools f).setIfInBounds i (.bool true) = bools (fun j => f j || j == (i : Int)) := by
  match i, h with
  | 0, _ => simp [bools]
  | 1, _ => simp [bools]
  | 2, _ => simp [bools]
  | 3, _ => simp [bools]
abbrev OldNot (w : World) (g : Nat) : Nat → Prop := fun k => k < w.heap.size ∧ k ≠ g
end Go.Proofs.YtkfplichekebdaaDoor

namespace Go.Proofs.YtkfplichekebdaaDoor
open Go Go.RowKit
open M
set_option linter.unusedVariables false

end Go.Proofs.YtkfplichekebdaaDoor

namespace Go.Proofs.YtkfplichekebdaaDoor
open Go Go.RowKit
open M
set_option linter.unusedVariables false

def cellsU (xs : List Int) : List Value := xs.map (Value.int .u64)
theorem infoU64 : (Tryd.prog.info? 22).map (fun i => (i.zero, i.size, i.bytes)) = some (some (.int .u64 0), 1, 8) := by kernel_rfl
theorem st_of_own {w : World} {base : Nat} {e : TypeId} {v : Value} {xs : List Int} (h : w.ownsRow base e 1 v xs.length (cellsU xs)) : StAt w v xs := by
  rcases h.2 with ⟨h1, h2⟩ | ⟨g, cap, cur, h1, h2, h3, _⟩
  · exact Or.inl ⟨List.length_eq_zero_iff.1 h2, none, 0, h1⟩
  · subst h1
    have hlt : g < w.heap.size := by
      by_cases hg' : g < w.heap.size
      · exact hg'
      · rw [Array.getElem?_eq_none (by omega)] at h3
        cases h3
    refine Or.inr ⟨g, 0, cap, rfl, hlt, fun i x hx => ?_⟩
    have hi : i < xs.length := (List.getElem?_eq_some_iff.1 hx).1
    rw [Nat.zero_add, h.cellAt i (by omega)]
    simp [cellsU, hx]
theorem setU_zero (t : List Int) (j : Nat) (x : Int) (hx : t[j]? = some x) : (cellsU (t.take j ++ List.replicate (t.length - j) 0)).set j (.int .u64 x) = cellsU (t.take (j + 1) ++ List.replicate (t.length - (j + 1)) 0) := by
  have hj : j < t.length := (List.getElem?_eq_some_iff.1 hx).1
  have e : t.take (j + 1) = t.take j ++ [x] := by
    rw [List.take_add_one, hx]
    rfl
  have hl : (t.take j).length = j := List.length_take_of_le (by omega)
  obtain ⟨m, hm⟩ : ∃ m, t.length - j = m + 1 := ⟨t.length - j - 1, by omega⟩
  have hm' : t.length - (j + 1) = m := by omega
  unfold cellsU
  rw [e, hm, hm', List.replicate_succ, List.append_assoc, List.map_append, List.set_append_right _ _ (by rw [List.length_map]; omega), List.length_map, hl, Nat.sub_self, List.map_append]
  rfl
theorem takeWord_all {s t : List Int} {j : Nat} {x y : Int} (hx : s[j]? = some x) (hy : t[j]? = some y) (h : s.take j = t.take j) (hne : x = y) : s.take (j + 1) = t.take (j + 1) := by
  rw [List.take_add_one, List.take_add_one, hx, hy, h, hne]
end Go.Proofs.YtkfplichekebdaaDoor

namespace Go.Proofs.YtkfplichekebdaaDoor
open Go Go.RowKit
open M
set_option linter.unusedVariables false

end Go.Proofs.YtkfplichekebdaaDoor

namespace Go.Proofs.YtkfplichekebdaaDoor
open Go Go.RowKit
open M
set_option linter.unusedVariables false

/-- the two values of parts, 0 where there is none -/
def twoOf (l : List Int) : Array Value := #[.int .u64 (l.getD 0 0), .int .u64 (l.getD 1 0)]
theorem twoOf_put (l : List Int) (v : Int) (h : l.length < 2) : (twoOf l).setIfInBounds l.length (.int .u64 v) = twoOf (l ++ [v]) := by
  match l, h with
  | [], _ => rfl
  | [a], _ => rfl
  | _ :: _ :: _, h => simp at h; omega
end Go.Proofs.YtkfplichekebdaaDoor

namespace Go.Proofs.YtkfplichekebdaaDoor
open Go Go.RowKit
open M
set_option linter.unusedVariables false

end Go.Proofs.YtkfplichekebdaaDoor

namespace Go.Proofs.YtkfplichekebdaaDoor
open Go Go.RowKit
open M
set_option linter.unusedVariables false

end Go.Proofs.YtkfplichekebdaaDoor

namespace Go.Proofs.YtkfplichekebdaaDoor
open Go Go.RowKit
open M
set_option linter.unusedVariables false

theorem trFold_no (k : Nat) : ∀ r : Tr, trVar r = false → trFold k r = .leaf (litN r.nd.1 (trVal k [] r))
  | .leaf x, h => by
    have h2 : ¬ x.1 = 2 := of_decide_eq_false h
    simp only [trFold, if_neg h2, Tr.nd, trVal, val0]
  | .one x a, h => by
    have h2 : ¬ trVar a = true := by
      have : trVar a = false := h
      rw [this]
      decide
    simp only [trFold, if_neg h2, Tr.nd, trVal]
  | .two x a b, h => by
    have h2 : ¬ (trVar a || trVar b) = true := by
      have : (trVar a || trVar b) = false := h
      rw [this]
      decide
    simp only [trFold, if_neg h2, Tr.nd, trVal]
theorem trFold_yes (k : Nat) : ∀ r : Tr, trVar r = true → trFold k r = Tr.over r.nd (r.parts.map (trFold k))
  | .leaf x, h => by
    have h2 : x.1 = 2 := of_decide_eq_true h
    simp only [trFold, if_pos h2, Tr.parts, List.map_nil, Tr.over, Tr.nd]
  | .one x a, h => by
    have h2 : trVar a = true := h
    simp only [trFold, if_pos h2, Tr.parts, List.map_cons, List.map_nil, Tr.over, Tr.nd]
  | .two x a b, h => by
    have h2 : (trVar a || trVar b) = true := h
    simp only [trFold, if_pos h2, Tr.parts, List.map_cons, List.map_nil, Tr.over, Tr.nd]
theorem litN_own {op v : Int} (h : ¬ ownOf op = 0) : ownOf (litN op v).1 = ownOf op := by
  have hr := ownOf_range op
  unfold litN
  by_cases h2 : ownOf op = 2
  · rw [if_pos h2, h2]
    rfl
  · rw [if_neg h2]
    show ownOf 1 = _
    rw [show ownOf op = 1 by omega]
    rfl
theorem trFold_kind {wide vars : Int} (k : Nat) (r : Tr) (h : r.Ok wide vars) : (trFold k r).kind = r.kind := by
  cases hv : trVar r with
  | false =>
    rw [trFold_no k r hv]
    exact litN_own (Tr.ok_nd h).1
  | true =>
    rw [trFold_yes k r hv]
    unfold Tr.kind
    rw [(Tr.over_parts r.nd _ (by cases r <;> simp [Tr.parts])).2]
theorem trFold_size (k : Nat) : ∀ r : Tr, (trFold k r).size ≤ r.size
  | .leaf x => by
    simp only [trFold]
    split <;> simp [Tr.size]
  | .one x a => by
    have ha := trFold_size k a
    simp only [trFold]
    split <;> simp only [Tr.size] <;> omega
  | .two x a b => by
    have ha := trFold_size k a
    have hb := trFold_size k b
    simp only [trFold]
    split <;> simp only [Tr.size] <;> omega
theorem novar_below {wide vars : Int} {r : Tr} (hok : r.Ok wide vars) (h : trVar r = false) (n : Nat) : VarsBelow r n := by
  intro x hx h2
  have := (trVar_iff hok).2 ⟨x, hx, h2⟩
  rw [h] at this
  cases this
theorem trFold_ok {k : Nat} (hk1 : 1 ≤ k) (hk : k ≤ 64) {vars : Int} : ∀ r : Tr, r.Ok k vars → Pos r → (trFold k r).Ok k vars ∧ Pos (trFold k r) := by
  apply Tr.ind
  intro r ih hok hp
  cases hv : trVar r with
  | false =>
    rw [trFold_no k r hv]
    have hvo := trVal_ok hk1 hk (st := []) (by simp) hok hp (novar_below hok hv _)
    have hk0 := Tr.kind_pos hok
    have hkk : r.kind = ownOf r.nd.1 := rfl
    generalize trVal k [] r = v at *
    rcases hvo with ⟨h1, h2, h3⟩ | ⟨h1, h2⟩
    · simp only at h1 h2 h3
      have e : litN r.nd.1 v = (1, v) := by
        unfold litN
        rw [if_neg (by omega)]
      rw [e]
      exact ⟨⟨(by show ¬ ownOf 1 = 0; decide), by show goodB k v = true; exact good_of k hk1 hk v h3, rfl⟩, fun x hx => by
        simp only [Tr.flat, List.mem_singleton] at hx
        subst hx
        exact h2⟩
    · simp only at h1 h2
      have e : litN r.nd.1 v = (20, v) := by
        unfold litN
        rw [if_pos (by omega)]
      rw [e]
      exact ⟨⟨(by show ¬ ownOf 20 = 0; decide), by show decide (v < 2) = true; exact decide_eq_true (by omega), rfl⟩, fun x hx => by
        simp only [Tr.flat, List.mem_singleton] at hx
        subst hx
        show 0 ≤ v
        omega⟩
  | true =>
    rw [trFold_yes k r hv]
    obtain ⟨n1, n2, n3⟩ := Tr.ok_nd hok
    have hfl : ∀ q ∈ r.parts, ∀ x ∈ q.flat, x ∈ r.flat := by
      intro q hq x hx
      rw [Tr.flat_eq r]
      exact List.mem_append_left _ (List.mem_flatMap.2 ⟨q, hq, hx⟩)
    have hl2 : (r.parts.map (trFold k)).length ≤ 2 := by cases r <;> simp [Tr.parts]
    have hih : ∀ q ∈ r.parts, (trFold k q).Ok k vars ∧ Pos (trFold k q) := fun q hq => ih q hq (Tr.ok_parts hok q hq).2 (fun x hx => hp x (hfl q hq x hx))
    refine ⟨Tr.over_ok n1 n2 (by simpa using n3) ?_, ?_⟩
    · intro q hq
      obtain ⟨q0, hq0, rfl⟩ := List.mem_map.1 hq
      exact ⟨by rw [trFold_kind k q0 (Tr.ok_parts hok q0 hq0).2]; exact (Tr.ok_parts hok q0 hq0).1, (hih q0 hq0).1⟩
    · intro x hx
      rw [Tr.flat_eq, (Tr.over_parts r.nd _ hl2).1, (Tr.over_parts r.nd _ hl2).2] at hx
      rcases List.mem_append.1 hx with hx | hx
      · obtain ⟨q, hq, hx⟩ := List.mem_flatMap.1 hx
        obtain ⟨q0, hq0, rfl⟩ := List.mem_map.1 hq
        exact (hih q0 hq0).2 x hx
      · simp at hx
        subst hx
        refine hp _ ?_
        rw [Tr.flat_eq r]
        simp
/-- without a variable the state says nothing -/
theorem trVal_no (k : Nat) (s t : List Int) : ∀ r : Tr, trVar r = false → trVal k s r = trVal k t r
  | .leaf x, h => by
    have h2 : ¬ x.1 = 2 := of_decide_eq_false h
    simp only [trVal, val0, if_neg h2]
  | .one x a, h => by
    have ha := trVal_no k s t a h
    simp only [trVal, ha]
  | .two x a b, h => by
    have h' : (trVar a || trVar b) = false := h
    rw [Bool.or_eq_false_iff] at h'
    have ha := trVal_no k s t a h'.1
    have hb := trVal_no k s t b h'.2
    simp only [trVal, ha, hb]
theorem litN_val (st : List Int) (op v : Int) : val0 st (litN op v) = v := by
  unfold val0 litN
  split
  · split at * <;> simp_all
  · rfl
/-- a folded tree comes to the same -/
theorem trFold_val (k : Nat) (st : List Int) : ∀ r : Tr, trVal k st (trFold k r) = trVal k st r
  | .leaf x => by
    simp only [trFold]
    split
    · rfl
    · rename_i h
      simp only [trVal, litN_val]
      simp only [val0, if_neg h]
  | .one x a => by
    have ha := trFold_val k st a
    simp only [trFold]
    split
    · simp only [trVal, ha]
    · rename_i h
      have h' : trVar a = false := by simpa using h
      simp only [trVal, litN_val]
      rw [trVal_no k [] st a h']
  | .two x a b => by
    have ha := trFold_val k st a
    have hb := trFold_val k st b
    simp only [trFold]
    split
    · simp only [trVal, ha, hb]
    · rename_i h
      have h' : trVar a = false ∧ trVar b = false := by simpa using h
      simp only [trVal, litN_val]
      rw [trVal_no k [] st a h'.1, trVal_no k [] st b h'.2]
theorem litN_var (op v : Int) : trVar (.leaf (litN op v)) = false := by
  unfold trVar litN
  apply decide_eq_false
  split
  · show ¬ (20 : Int) = 2
    decide
  · show ¬ (1 : Int) = 2
    decide
theorem trFold_var (k : Nat) : ∀ r : Tr, trVar (trFold k r) = trVar r
  | .leaf x => by
    simp only [trFold]
    split
    · rfl
    · rename_i h
      rw [litN_var]
      exact (decide_eq_false h).symm
  | .one x a => by
    have ha := trFold_var k a
    simp only [trFold]
    split
    · simp only [trVar, ha]
    · rename_i h
      rw [litN_var]
      simp only [trVar]
      cases hh : trVar a
      · rfl
      · exact absurd hh h
  | .two x a b => by
    have ha := trFold_var k a
    have hb := trFold_var k b
    simp only [trFold]
    split
    · simp only [trVar, ha, hb]
    · rename_i h
      rw [litN_var]
      simp only [trVar]
      cases hh : (trVar a || trVar b)
      · rfl
      · exact absurd hh h
theorem litN_again (op v : Int) : litN (litN op v).1 (litN op v).2 = litN op v := by
  unfold litN
  by_cases h : ownOf op = 2
  · simp only [if_pos h]
    rfl
  · simp only [if_neg h]
    rfl
/-- a folded tree is folded already -/
theorem trFold_again (k : Nat) : ∀ r : Tr, trFold k (trFold k r) = trFold k r
  | .leaf x => by
    simp only [trFold]
    by_cases h : x.1 = 2
    · simp only [if_pos h, trFold]
    · simp only [if_neg h, trFold]
      have h2 : ¬ (litN x.1 x.2).1 = 2 := of_decide_eq_false (litN_var x.1 x.2)
      rw [if_neg h2, litN_again]
  | .one x a => by
    have ha := trFold_again k a
    simp only [trFold]
    by_cases h : trVar a = true
    · simp only [if_pos h, trFold, trFold_var, ha]
    · simp only [if_neg h, trFold]
      have h2 := of_decide_eq_false (litN_var x.1 (val1 k x (trVal k [] a)))
      rw [if_neg h2, litN_again]
  | .two x a b => by
    have ha := trFold_again k a
    have hb := trFold_again k b
    simp only [trFold]
    by_cases h : (trVar a || trVar b) = true
    · simp only [if_pos h, trFold, trFold_var, ha, hb]
    · simp only [if_neg h, trFold]
      have h2 := of_decide_eq_false (litN_var x.1 (val2 k x (trVal k [] a) (trVal k [] b)))
      rw [if_neg h2, litN_again]
theorem litN_mem (i op v : Int) : ((2, i) : Nd) ≠ litN op v := by
  intro e
  have h2 := of_decide_eq_false (litN_var op v)
  rw [← e] at h2
  exact h2 rfl
/-- a folded tree has the same variables -/
theorem trFold_mem {wide vars : Int} (k : Nat) (i : Int) : ∀ r : Tr, r.Ok wide vars → (((2, i) : Nd) ∈ (trFold k r).flat ↔ ((2, i) : Nd) ∈ r.flat)
  | .leaf x, _ => by
    simp only [trFold]
    split
    · rfl
    · rename_i h
      simp only [Tr.flat, List.mem_singleton]
      constructor
      · intro e
        exact absurd e (litN_mem i _ _)
      · intro e
        rw [← e] at h
        exact absurd rfl h
  | .one x a, hok => by
    have ha := trFold_mem k i a hok.2.2.2.2
    simp only [trFold]
    split
    · simp only [Tr.flat, List.mem_append, ha]
    · rename_i h
      have h' : trVar a = false := by simpa using h
      simp only [Tr.flat, List.mem_append, List.mem_singleton]
      constructor
      · intro e
        exact absurd e (litN_mem i _ _)
      · rintro (e | e)
        · have := (trVar_iff hok.2.2.2.2).2 ⟨_, e, rfl⟩
          rw [h'] at this
          cases this
        · have h3 := hok.2.2.1
          rw [← e] at h3
          exact absurd (show (0 : Nat) = 1 from h3) (by decide)
  | .two x a b, hok => by
    have ha := trFold_mem k i a hok.2.2.2.2.2.1
    have hb := trFold_mem k i b hok.2.2.2.2.2.2
    simp only [trFold]
    split
    · simp only [Tr.flat, List.mem_append, ha, hb]
    · rename_i h
      have h' : trVar a = false ∧ trVar b = false := by simpa using h
      simp only [Tr.flat, List.mem_append, List.mem_singleton]
      constructor
      · intro e
        exact absurd e (litN_mem i _ _)
      · rintro ((e | e) | e)
        · have := (trVar_iff hok.2.2.2.2.2.1).2 ⟨_, e, rfl⟩
          rw [h'.1] at this
          cases this
        · have := (trVar_iff hok.2.2.2.2.2.2).2 ⟨_, e, rfl⟩
          rw [h'.2] at this
          cases this
        · have h3 := hok.2.2.1
          rw [← e] at h3
          exact absurd (show (0 : Nat) = 2 from h3) (by decide)
theorem trPut_flat {wide vars : Int} (bs : List Tr) : ∀ r : Tr, r.Ok wide vars → Pos r → VarsBelow r bs.length → (trPut bs r).flat = putsL (bs.map Tr.flat) r.flat
  | .leaf x, hok, hp, hv => by
    simp only [trPut, putsL, Tr.flat, List.flatMap_cons, List.flatMap_nil, List.append_nil]
    split
    · rename_i h
      have h1 := hv x (by simp [Tr.flat]) h
      simp [List.getD_eq_getElem?_getD, h1]
    · rfl
  | .one x a, hok, hp, hv => by
    have ha := trPut_flat bs a hok.2.2.2.2 (fun x hx => hp x (by simp [Tr.flat, hx])) (fun x hx => hv x (by simp [Tr.flat, hx]))
    have hx : ¬ x.1 = 2 := by
      intro e
      have h3 := hok.2.2.1
      rw [e] at h3
      exact absurd (show (0 : Nat) = 1 from h3) (by decide)
    simp only [trPut, Tr.flat]
    rw [putsL_snoc, if_neg hx, ha]
  | .two x a b, hok, hp, hv => by
    have ha := trPut_flat bs a hok.2.2.2.2.2.1 (fun x hx => hp x (by simp [Tr.flat, hx])) (fun x hx => hv x (by simp [Tr.flat, hx]))
    have hb := trPut_flat bs b hok.2.2.2.2.2.2 (fun x hx => hp x (by simp [Tr.flat, hx])) (fun x hx => hv x (by simp [Tr.flat, hx]))
    have hx : ¬ x.1 = 2 := by
      intro e
      have h3 := hok.2.2.1
      rw [e] at h3
      exact absurd (show (0 : Nat) = 2 from h3) (by decide)
    simp only [trPut, Tr.flat]
    rw [putsL_snoc, if_neg hx, ha, hb]
    unfold putsL
    rw [List.flatMap_append]
theorem trPut_kind {wide vars : Int} (bs : List Tr) (hb : ∀ q ∈ bs, q.kind = 1) (r : Tr) (hok : r.Ok wide vars) : (trPut bs r).kind = r.kind := by
  cases r with
  | leaf x =>
    simp only [trPut]
    split
    · rename_i h
      have e : (Tr.leaf x).kind = 1 := by
        show ownOf x.1 = 1
        rw [h]
        rfl
      rw [e, List.getD_eq_getElem?_getD]
      cases hg : bs[x.2.toNat]? with
      | none => exact e
      | some q => exact hb q (List.mem_of_getElem? hg)
    · rfl
  | one x a => rfl
  | two x a b => rfl
theorem trPut_ok {wide vars : Int} (bs : List Tr) (hb : ∀ q ∈ bs, q.kind = 1 ∧ q.Ok wide vars) : ∀ r : Tr, r.Ok wide vars → (trPut bs r).Ok wide vars
  | .leaf x, hok => by
    simp only [trPut]
    split
    · rw [List.getD_eq_getElem?_getD]
      cases hg : bs[x.2.toNat]? with
      | none => exact hok
      | some q => exact (hb q (List.mem_of_getElem? hg)).2
    · exact hok
  | .one x a, hok => by
    have ha := trPut_ok bs hb a hok.2.2.2.2
    exact ⟨hok.1, hok.2.1, hok.2.2.1, by rw [trPut_kind bs (fun q hq => (hb q hq).1) a hok.2.2.2.2]; exact hok.2.2.2.1, ha⟩
  | .two x a b, hok => by
    have ha := trPut_ok bs hb a hok.2.2.2.2.2.1
    have hb' := trPut_ok bs hb b hok.2.2.2.2.2.2
    exact ⟨hok.1, hok.2.1, hok.2.2.1, by rw [trPut_kind bs (fun q hq => (hb q hq).1) a hok.2.2.2.2.2.1]; exact hok.2.2.2.1, by rw [trPut_kind bs (fun q hq => (hb q hq).1) b hok.2.2.2.2.2.2]; exact hok.2.2.2.2.1, ha, hb'⟩
/-- what is put for the variables does as their values do -/
theorem trPut_val (k : Nat) (st : List Int) (bs : List Tr) : ∀ r : Tr, VarsBelow r bs.length → trVal k st (trPut bs r) = trVal k (bs.map (trVal k st)) r
  | .leaf x, hv => by
    simp only [trPut]
    split
    · rename_i h
      have h1 := hv x (by simp [Tr.flat]) h
      simp only [trVal, val0, if_pos h]
      simp [List.getD_eq_getElem?_getD, h1]
    · rename_i h
      simp only [trVal, val0, if_neg h]
  | .one x a, hv => by
    have ha := trPut_val k st bs a (fun x hx => hv x (by simp [Tr.flat, hx]))
    simp only [trPut, trVal, ha]
  | .two x a b, hv => by
    have ha := trPut_val k st bs a (fun x hx => hv x (by simp [Tr.flat, hx]))
    have hb := trPut_val k st bs b (fun x hx => hv x (by simp [Tr.flat, hx]))
    simp only [trPut, trVal, ha, hb]
end Go.Proofs.YtkfplichekebdaaDoor

namespace Go.Proofs.YtkfplichekebdaaDoor
open Go Go.RowKit
open M
set_option linter.unusedVariables false

/-- the tree that nodeOver made, among all that lies there -/
theorem tr_all {w w' : World} {S : Nat → Prop} {t : Tr} {b : Nat} (hS : ∀ k, S k → k < w.heap.size) (hb : Below w.heap.size w w') (h : TrAt w' (fun k => S k ∨ (w.heap.size ≤ k ∧ k < w'.heap.size)) t b) : TrAt w' (Old w') t b :=
  TrAt.frame (fun k hk => by
    rcases hk with hk | hk
    · exact Nat.lt_of_lt_of_le (hS k hk) hb.size
    · exact hk.2) (fun _ _ => rfl) h
/-- blocks of S or made since w, which lie there and are not the row's -/
abbrev Mix (S : Nat → Prop) (w wr : World) (v : Value) : Nat → Prop := fun k => (S k ∨ w.heap.size ≤ k) ∧ OldBut wr v k
theorem mix_next {S : Nat → Prop} {w w3 w7 : World} {v v0 v7 : Value} {o : Obj} {l : List Tr} {ps : List Nat} (ht : TrsAt w3 (Mix S w w3 v) l ps) (grow : (w3.alloc o).grownBy w7 v0.ownBlock) (hat : v7.ownBlock = v0.ownBlock ∨ v7.ownBlock = some (w3.heap.size + 1)) (hvb : v0.ownBlock = v.ownBlock) : TrsAt w7 (Mix S w w7 v7) l ps := by
  have hs := grow.size
  rw [show (w3.alloc o).heap.size = w3.heap.size + 1 from by simp] at hs
  refine TrsAt.frame (fun k hk => ⟨hk.1, ?_, ?_⟩) (fun k hk => ?_) ht
  · have := hk.2.1
    omega
  · rcases hat with h | h
    · rw [h, hvb]
      exact hk.2.2
    · rw [h]
      intro e
      have := Option.some.inj e
      have := hk.2.1
      omega
  · rw [grow.block k (by have := hk.2.1; simp; omega) (by rw [hvb]; exact hk.2.2)]
    exact Below.heap_alloc _ _ _ hk.2.1
/-- S or made since w -/
abbrev New (S : Nat → Prop) (w w' : World) : Nat → Prop := fun k => S k ∨ (w.heap.size ≤ k ∧ k < w'.heap.size)
theorem new_low {S : Nat → Prop} {w w1 w' : World} {t : Tr} {b : Nat} (hs : w.heap.size ≤ w1.heap.size) (h : TrAt w' (New S w1 w') t b) : TrAt w' (New S w w') t b :=
  TrAt.frame (fun k hk => hk.elim Or.inl fun h => Or.inr ⟨Nat.le_trans hs h.1, h.2⟩) (fun _ _ => rfl) h
set_option maxRecDepth 100000 in
theorem leafOf_any (S : Nat → Prop) (kind n : Int) (hk : kind = 1 ∨ kind = 2) (w : World) (hS : ∀ k, S k → k < w.heap.size) :
    Calls Tryd.prog 111 #[.int .i64 kind, .int .u64 n] w fun e w' => ∃ b, e = .returned (ptr b) ∧ TrAt w' (New S w w') (.leaf (if kind = 2 then 20 else 1, n)) b ∧ Below w.heap.size w w' := by
  have G : Hid (∀ op : Int, op = 20 ∨ op = 1 → Calls Tryd.prog 70 #[.agg #[.int .i64 op, .int .u64 n], .slice none 0 0] w fun e w' => ∃ b, e = .returned (ptr b) ∧ TrAt w' (New S w w') (.leaf (op, n)) b ∧ Below w.heap.size w w') := by
    intro op hop
    refine (nodeOver_made op n [] [] (.slice none 0 0) w S hS ⟨by simp, Or.inl ⟨rfl, none, 0, rfl⟩⟩ ⟨rfl, fun i a p ha _ => by simp at ha⟩ (by rcases hop with rfl | rfl <;> decide) (by rcases hop with rfl | rfl <;> rfl) (fun q hq => by cases hq) (by simp [sizes])).mono ?_
    rintro e w' ⟨b, he, htr, hb⟩
    exact ⟨b, he, htr, hb⟩
  rcases hk with rfl | rfl
  · have g := G.out 1 (Or.inr rfl)
    clear G
    go_enter Tryd.func111, Tryd.ntmps111
    go_wp2_with fail
    refine g.mono ?_
    rintro e w1 ⟨b, rfl, htr, hb⟩
    have HT : Hid _ := htr
    have HB : Hid _ := hb
    clear g htr hb
    go_wp2_with fail
    go_ret
    exact ⟨_, rfl, HT.out, HB.out⟩
  · have g := G.out 20 (Or.inl rfl)
    clear G
    go_enter Tryd.func111, Tryd.ntmps111
    go_wp2_with fail
    refine g.mono ?_
    rintro e w1 ⟨b, rfl, htr, hb⟩
    have HT : Hid _ := htr
    have HB : Hid _ := hb
    clear g htr hb
    go_wp2_with fail
    go_ret
    exact ⟨_, rfl, HT.out, HB.out⟩
end Go.Proofs.YtkfplichekebdaaDoor

namespace Go.Proofs.YtkfplichekebdaaDoor
open Go Go.RowKit
open M
set_option linter.unusedVariables false

/-- all that is laid -/
structure All5 (w : World) : Prop where
  masks : Tab w
  signs : Signs w
  pow : Pow w
  range : ErrAt 3 w
  syn : ErrAt 2 w
/-- where what is laid ends -/
structure LaidLow (B : Nat) : Prop where
  masks : 4 < B
  signs : 0 < B
  pow : 1 < B
  range : 3 < B
  syn : 2 < B
theorem All5.low {w : World} (h : All5 w) : LaidLow w.heap.size := ⟨h.masks.some, h.signs.lt, h.pow.lt, h.range.1, h.syn.1⟩
theorem LaidLow.mono {B B' : Nat} (h : LaidLow B) (hB : B ≤ B') : LaidLow B' :=
  ⟨Nat.lt_of_lt_of_le h.masks hB, Nat.lt_of_lt_of_le h.signs hB, Nat.lt_of_lt_of_le h.pow hB, Nat.lt_of_lt_of_le h.range hB, Nat.lt_of_lt_of_le h.syn hB⟩
theorem All5.at {B : Nat} {w w' : World} (h : All5 w) (hl : LaidLow B) (hb : Below B w w') : All5 w' := by
  refine ⟨?_, ?_, var?_below hb gPow hl.pow h.pow, ?_, ?_⟩
  · intro k hk
    rw [hb.cell (p := ⟨4, k, none⟩) hl.masks]
    exact h.masks k hk
  · obtain ⟨t, fr, g⟩ := h.signs
    exact ⟨t, fr, by rw [hb.block _ hl.signs]; exact g⟩
  · obtain ⟨h0, tp, p, g⟩ := h.range
    exact ⟨Nat.lt_of_lt_of_le h0 hb.size, tp, p, by rw [hb.cell (p := ⟨3, 0, none⟩) hl.range]; exact g⟩
  · obtain ⟨h0, tp, p, g⟩ := h.syn
    exact ⟨Nat.lt_of_lt_of_le h0 hb.size, tp, p, by rw [hb.cell (p := ⟨2, 0, none⟩) hl.syn]; exact g⟩
theorem All5.below {w w' : World} (h : All5 w) (hb : Below w.heap.size w w') : All5 w' := h.at h.low hb
/-- the op of a sign, of one part or of two -/
def opB (l : Tx) : Nat := if l = [126] then 13 else if l = [33] then 19 else opOf l
theorem opB_found {j : Nat} {l : Tx} (hj : j < 21) (h0 : signN j ≠ []) (h : signN j = l) : opB l = j := by
  subst h
  match j, hj with
  | 0, _ => exact absurd rfl h0
  | 1, _ => exact absurd rfl h0
  | 2, _ => exact absurd rfl h0
  | 3, _ => decide
  | 4, _ => decide
  | 5, _ => decide
  | 6, _ => decide
  | 7, _ => decide
  | 8, _ => decide
  | 9, _ => decide
  | 10, _ => decide
  | 11, _ => decide
  | 12, _ => decide
  | 13, _ => decide
  | 14, _ => decide
  | 15, _ => decide
  | 16, _ => decide
  | 17, _ => decide
  | 18, _ => decide
  | 19, _ => decide
  | 20, _ => exact absurd rfl h0
  | n + 21, h => omega
theorem opB_none {l : Tx} (h : ∀ i, i < 21 → signN i = [] ∨ signN i ≠ l) : opB l = 0 := by
  unfold opB
  split
  · rename_i e
    subst e
    rcases h 13 (by omega) with g | g
    · cases g
    · exact absurd rfl g
  · split
    · rename_i e
      subst e
      rcases h 19 (by omega) with g | g
      · cases g
      · exact absurd rfl g
    · by_cases h0 : opOf l = 0
      · exact h0
      · obtain ⟨k, hk, h13, _, hs⟩ := opOf_cases h0
        rcases h k (by omega) with g | g
        · obtain ⟨c, r, e, _⟩ := sign_start (k := k) (by omega) (by omega)
          rw [g] at e
          cases e
        · exact absurd hs g
theorem opB_le (l : Tx) : opB l ≤ 20 := by
  unfold opB
  split
  · omega
  · split
    · omega
    · by_cases h0 : opOf l = 0
      · omega
      · have := opOf_range h0
        omega
/-- a sign takes two parts just where it is one of them -/
theorem opB_two (l : Tx) : (opOf l = 0 → manyOf (opB l) ≠ 2) ∧ (opOf l ≠ 0 → opB l = opOf l ∧ manyOf (opB l) = 2) := by
  constructor
  · intro h
    unfold opB
    split
    · decide
    · split
      · decide
      · rw [h]
        decide
  · intro h
    obtain ⟨s1, s2, s3, s4⟩ := opOf_sign h
    have hne1 : l ≠ [126] := by rintro rfl; exact h (by decide)
    have hne2 : l ≠ [33] := by rintro rfl; exact h (by decide)
    have e : opB l = opOf l := by unfold opB; rw [if_neg hne1, if_neg hne2]
    rw [e]
    exact ⟨rfl, s2⟩
theorem opB_one {l : Tx} (h : l = [126] ∨ l = [33]) : opB l = opOne l := by
  rcases h with rfl | rfl <;> decide
abbrev prCells (wide vars : Int) (vt : Value) (long : Nat) (code at_ : Int) : Array Value := #[.int .i64 wide, .int .i64 vars, vt, .int .i64 (long : Int), .int .i64 code, .int .i64 at_]
/-- all but block b is as it was -/
abbrev KeepB (b : Nat) (w w' : World) : Prop := Keep b w w' (.slice none 0 0) (.slice none 0 0)
theorem KeepB.same {b : Nat} {w w' : World} (h : KeepB b w w') {k : Nat} (hk : k < w.heap.size) (hb : k ≠ b) : w'.heap[k]? = w.heap[k]? := h.block k hk hb (by simp [Value.ownBlock])
/-- the reader -/
structure PrAt (w : World) (b : Nat) (wide vars : Int) (long : Nat) (vt : Value) (l : List M.Tok) (code at_ : Int) : Prop where
  heap : w.heap[b]? = some (.cells (prCells wide vars vt long code at_) 76 (0, 0))
  toks : ToksIn w b vt l
  many : l.length ≤ 1000
  laid : All5 w
  low : LaidLow b
theorem PrAt.lt {w : World} {b : Nat} {wide vars : Int} {long : Nat} {vt : Value} {l : List M.Tok} {code at_ : Int} (h : PrAt w b wide vars long vt l code at_) : b < w.heap.size := (Array.getElem?_eq_some_iff.1 h.heap).1
theorem PrAt.cell {w : World} {b : Nat} {wide vars : Int} {long : Nat} {vt : Value} {l : List M.Tok} {code at_ : Int} (h : PrAt w b wide vars long vt l code at_) :
    w.cell? ⟨b, 0, none⟩ = some (.int .i64 wide) ∧ w.cell? ⟨b, 1, none⟩ = some (.int .i64 vars) ∧ w.cell? ⟨b, 2, none⟩ = some vt ∧ w.cell? ⟨b, 3, none⟩ = some (.int .i64 (long : Int)) ∧ w.cell? ⟨b, 4, none⟩ = some (.int .i64 code) ∧ w.cell? ⟨b, 5, none⟩ = some (.int .i64 at_) := by
  refine ⟨?_, ?_, ?_, ?_, ?_, ?_⟩ <;> (rw [cell_heap h.heap]; rfl)
theorem PrAt.later {w w' : World} {b : Nat} {wide vars : Int} {long : Nat} {vt : Value} {l : List M.Tok} {code at_ : Int} (h : PrAt w b wide vars long vt l code at_) (hb : Below w.heap.size w w') : PrAt w' b wide vars long vt l code at_ :=
  ⟨by rw [hb.block b h.lt]; exact h.heap, h.toks.same (fun k hk => hb.block k (Nat.lt_trans hk h.lt)), h.many, h.laid.below hb, h.low⟩
theorem PrAt.set {w w' : World} {b : Nat} {wide vars : Int} {long : Nat} {vt vt' : Value} {l l' : List M.Tok} {code at_ code' at' : Int} (h : PrAt w b wide vars long vt l code at_)
    (hh : w'.heap[b]? = some (.cells (prCells wide vars vt' long code' at') 76 (0, 0))) (hk : KeepB b w w') (ht : ToksIn w b vt' l') (hl : l'.length ≤ 1000) :
    PrAt w' b wide vars long vt' l' code' at' :=
  ⟨hh, ht.same (fun k hk' => KeepB.same hk (Nat.lt_trans hk' h.lt) (by omega)), hl, h.laid.at h.low ⟨hk.os, hk.tape, hk.output, hk.size, fun k hk' => KeepB.same hk (Nat.lt_trans hk' h.lt) (by omega)⟩, h.low⟩
theorem PrAt.faulted {w : World} {b : Nat} {wide vars : Int} {long : Nat} {vt : Value} {l : List M.Tok} {code at_ : Int} (h : PrAt w b wide vars long vt l code at_) (c p : Int) :
    PrAt ((w.setCell ⟨b, 4, none⟩ (.int .i64 c)).setCell ⟨b, 5, none⟩ (.int .i64 p)) b wide vars long vt l c p :=
  h.set (by rw [heap_set (heap_set h.heap)]; rfl) (((Keep.refl b w _).set 4 _).set 5 _) h.toks h.many
theorem PrAt.moved {w : World} {b : Nat} {wide vars : Int} {long : Nat} {vt vt' : Value} {l l' : List M.Tok} {code at_ : Int} (h : PrAt w b wide vars long vt l code at_) (ht : ToksIn w b vt' l') (hl : l'.length ≤ 1000) :
    PrAt (w.setCell ⟨b, 2, none⟩ vt') b wide vars long vt' l' code at_ :=
  h.set (by rw [heap_set h.heap]; rfl) ((Keep.refl b w _).set 2 _) ht hl
/-- what a method leaves behind -/
def PrTo (w w' : World) (b : Nat) (wide vars : Int) (long : Nat) (l : List M.Tok) (code at_ : Int) : Prop := (∃ vt, PrAt w' b wide vars long vt l code at_) ∧ KeepB b w w'
theorem PrTo.trans {u v w : World} {b : Nat} {wide vars : Int} {long : Nat} {l : List M.Tok} {code at_ : Int} (k : PrTo v w b wide vars long l code at_) (h : KeepB b u v) : PrTo u w b wide vars long l code at_ :=
  ⟨k.1, Keep.trans h k.2⟩
/-- a token is taken off -/
theorem PrAt.pop {w : World} {b : Nat} {wide vars : Int} {long : Nat} {vt : Value} {p : Nat} {s : Tx} {l : List M.Tok} {code at_ : Int} (h : PrAt w b wide vars long vt ((p, s) :: l) code at_) :
    ∃ (g off cap : Nat) (a : Option Addr) (c : Nat), vt = .slice (some ⟨g, off, none⟩) (l.length + 1) cap ∧ g < b ∧ w.cell? ⟨g, off, none⟩ = some (.int .i64 (p : Int)) ∧ w.cell? ⟨g, off + 1, none⟩ = some (tx s) ∧
      (∀ W : World, (Instr.slice 28 (.slice (some ⟨g, off, none⟩) (l.length + 1) cap) (some (.int .i64 1)) none none).run Tryd.prog W = .ok (.slice a l.length c) W) ∧
      PrAt (w.setCell ⟨b, 2, none⟩ (.slice a l.length c)) b wide vars long (.slice a l.length c) l code at_ ∧ l.length + 1 ≤ 1000 := by
  obtain ⟨ta, tc, hsh⟩ := h.toks.shape
  subst hsh
  obtain ⟨g, off, rfl, hg, t0, t1, htl, hcap⟩ := h.toks.first
  obtain ⟨a, c, hr, ht⟩ := cut_run htl hcap
  have hm := h.many
  simp only [List.length_cons] at hm
  exact ⟨g, off, tc, a, c, rfl, hg, t0, t1, hr, h.moved ht (by omega), hm⟩
end Go.Proofs.YtkfplichekebdaaDoor

namespace Go.Proofs.YtkfplichekebdaaDoor
open Go Go.RowKit
open M
set_option linter.unusedVariables false

theorem prTo_refl {w w' : World} {b : Nat} {wide vars : Int} {long : Nat} {vt : Value} {l : List M.Tok} {code at_ : Int} (h : PrAt w' b wide vars long vt l code at_) (hk : KeepB b w w') : PrTo w w' b wide vars long l code at_ := ⟨⟨vt, h⟩, hk⟩
set_option maxRecDepth 100000 in
set_option maxHeartbeats 1000000 in
theorem fail_any {w : World} {b : Nat} {wide vars : Int} {long : Nat} {vt : Value} {l : List M.Tok} {code at_ : Int} (h : PrAt w b wide vars long vt l code at_) (c p : Int) :
    Calls Tryd.prog 76 #[ptr b, .int .i64 c, .int .i64 p] w fun e w' => e = .returned (.pointer none) ∧ PrTo w w' b wide vars long l c p := by
  obtain ⟨c0, c1, c2, c3, c4, c5⟩ := h.cell
  have f4 := frozen_heap (o := 4) h.heap
  have f5 := frozen_heap (o := 5) h.heap
  have HF : Hid (PrTo w ((w.setCell ⟨b, 4, none⟩ (.int .i64 c)).setCell ⟨b, 5, none⟩ (.int .i64 p)) b wide vars long l c p) := prTo_refl (h.faulted c p) (((Keep.refl b w _).set 4 _).set 5 _)
  clear h
  go_enter Tryd.func76, Tryd.ntmps76
  go_wp2_with fail
  go_ret
  exact ⟨rfl, HF.out⟩
/-- the text of the first token, empty where there is none -/
def headT : List M.Tok → Tx
  | [] => []
  | x :: _ => x.2
set_option maxRecDepth 100000 in
set_option maxHeartbeats 1000000 in
theorem take_nil {w : World} {b : Nat} {wide vars : Int} {long : Nat} {vt : Value} {code at_ : Int} (h : PrAt w b wide vars long vt [] code at_) :
    Calls Tryd.prog 95 #[ptr b] w fun e w' => e = .returned (.agg #[.int .i64 (long : Int), tx []]) ∧ PrTo w w' b wide vars long [] code at_ := by
  obtain ⟨c0, c1, c2, c3, c4, c5⟩ := h.cell
  obtain ⟨ta, tc, hsh⟩ := h.toks.shape
  subst hsh
  have hlt := h.lt
  have HF : Hid (∀ w', Below w.heap.size w w' → PrTo w w' b wide vars long [] code at_) := fun w' hb => prTo_refl (h.later hb) (Keep.below _ hb)
  clear h
  go_enter Tryd.func95, Tryd.ntmps95
  go_wp2_with fail
  refine bodyPost_ret (results_cell_row rfl _ _ w.heap.size 55 #[.int .i64 (long : Int), tx []] (0, 0) _ rfl (heap_alloc_new _ _) Tryd.underlying55 rfl (by kernel_rfl)) rfl ?_
  exact ⟨rfl, HF.out _ ((Below.refl _ _).alloc (Nat.le_refl _) _)⟩
set_option maxRecDepth 100000 in
set_option maxHeartbeats 1000000 in
theorem take_cons {w : World} {b : Nat} {wide vars : Int} {long : Nat} {vt : Value} {p : Nat} {s : Tx} {l : List M.Tok} {code at_ : Int} (h : PrAt w b wide vars long vt ((p, s) :: l) code at_) :
    Calls Tryd.prog 95 #[ptr b] w fun e w' => e = .returned (.agg #[.int .i64 (p : Int), tx s]) ∧ PrTo w w' b wide vars long l code at_ := by
  obtain ⟨c0, c1, c2, c3, c4, c5⟩ := h.cell
  have f2 := frozen_heap (o := 2) h.heap
  obtain ⟨g, off, cap, a, c, rfl, hg, t0, t1, hcut, hr2, hl1⟩ := h.pop
  have hlt := h.lt
  have hgl : g < w.heap.size := by omega
  have HF : Hid (∀ w', Below (w.setCell ⟨b, 2, none⟩ (.slice a l.length c)).heap.size (w.setCell ⟨b, 2, none⟩ (.slice a l.length c)) w' → PrTo w w' b wide vars long l code at_) := fun w' hb => prTo_refl (hr2.later hb) (((Keep.refl b w _).set 2 _).trans (Keep.below _ hb))
  clear h hr2
  generalize l.length = ln at *
  go_enter Tryd.func95, Tryd.ntmps95
  go_wp2_with fail
  have hs : (w.setCell ⟨b, 2, none⟩ (.slice a ln c)).heap.size = w.heap.size := set_size _ _ _
  refine bodyPost_ret (results_cell_row rfl _ _ w.heap.size 55 #[.int .i64 (p : Int), tx s] (0, 0) _ rfl (by rw [Below.heap_alloc _ _ _ (by simp [hs]), ← hs]; exact heap_alloc_new _ _) Tryd.underlying55 rfl (by kernel_rfl)) rfl ?_
  exact ⟨rfl, HF.out _ (((Below.refl _ _).alloc (Nat.le_refl _) _).alloc (by simp) _)⟩
theorem ptake_any {w : World} {b : Nat} {wide vars : Int} {long : Nat} {vt : Value} {l : List M.Tok} {code at_ : Int} (h : PrAt w b wide vars long vt l code at_) :
    Calls Tryd.prog 95 #[ptr b] w fun e w' => e = .returned (.agg #[.int .i64 (placeOf long l : Int), tx (headT l)]) ∧ PrTo w w' b wide vars long l.tail code at_ := by
  match l, h with
  | [], h => exact take_nil h
  | (p, s) :: l, h => exact take_cons h
set_option maxHeartbeats 6400000 in
set_option maxRecDepth 1000000 in
theorem opOf_any (s : Tx) (w : World) (hS : Signs w) : Calls Tryd.prog 109 #[tx s] w fun e w' => e = .returned (.int .i64 (opB s : Int)) ∧ w' = w := by
  obtain ⟨tt, fr, hg1⟩ := hS
  have HX : Hid (∀ (j : Nat), j < 21 → ∀ W : World, (Instr.index 90 signsV (.int .i64 (j : Int))).run Tryd.prog W = .ok (tx (signN j)) W) := index_sign
  go_enter Tryd.func109, Tryd.ntmps109
  go_wp2_with (refine wpList_load_row rfl 90 _ rfl 0 rfl tt _ fr _ hg1 Tryd.underlying90 rfl (by kernel_rfl) ?_)
  go_loop [6] (fun i => ∃ j : Nat, j ≤ 21 ∧ i = .int .i64 j ∧ Hid (∀ i, i < j → signN i = [] ∨ signN i ≠ s)) (fun i => 21 - (intOf i).toNat)
  case atStart => exact ⟨0, by omega, rfl, fun i hi => by omega⟩
  case round =>
    obtain ⟨j, hj, rfl, HN⟩ := hrel
    by_cases hlt' : j < 21
    · have hix := fun W : World => HX.out j hlt' W
      by_cases h0 : signN j = []
      · have HN2 : Hid (∀ i, i < j + 1 → signN i = [] ∨ signN i ≠ s) := fun i hi => by
          by_cases e : i = j
          · subst e; exact Or.inl h0
          · exact HN.out i (by omega)
        rw [h0] at hix
        clear h0
        go_wp2_with fail
        go_round
        case rel => exact ⟨j + 1, by omega, by go_num, HN2⟩
        case measure => simp [intOf]; omega
      · have e0 : (signN j == []) = false := beq_eq_false_iff_ne.2 h0
        by_cases hq : signN j = s
        · have HO : Hid (opB s = j) := opB_found hlt' h0 hq
          rw [hq] at hix e0
          clear h0 hq
          go_wp2_with fail
          go_ret
          exact ⟨by rw [HO.out]; rfl, rfl⟩
        · have HN2 : Hid (∀ i, i < j + 1 → signN i = [] ∨ signN i ≠ s) := fun i hi => by
            by_cases e : i = j
            · subst e; exact Or.inr hq
            · exact HN.out i (by omega)
          have e1 : (signN j == s) = false := beq_eq_false_iff_ne.2 hq
          clear h0 hq
          generalize signN j = sg at *
          go_wp2_with fail
          go_round
          case rel => exact ⟨j + 1, by omega, by go_num, HN2⟩
          case measure => simp [intOf]; omega
    · obtain rfl : j = 21 := by omega
      have HO : Hid (opB s = 0) := opB_none HN.out
      go_wp2_with fail
      go_ret
      exact ⟨by rw [HO.out]; rfl, rfl⟩
end Go.Proofs.YtkfplichekebdaaDoor

namespace Go.Proofs.YtkfplichekebdaaDoor
open Go Go.RowKit
open M
set_option linter.unusedVariables false

/-- all that lies in a world but the reader -/
abbrev ButB (b : Nat) (w : World) : Nat → Prop := fun k => k < w.heap.size ∧ k ≠ b
/-- a tree that is new beside the reader -/
theorem tr_new {w w' : World} {b : Nat} {t : Tr} {k : Nat} (hb : b < w.heap.size) (hs : w.heap.size ≤ w'.heap.size) (h : TrAt w' (New (ButB b w) w w') t k) : TrAt w' (ButB b w') t k :=
  TrAt.frame (fun k hk => hk.elim (fun h => ⟨Nat.lt_of_lt_of_le h.1 hs, h.2⟩) (fun h => ⟨h.2, by omega⟩)) (fun _ _ => rfl) h
/-- a tree stays while the reader goes on -/
theorem tr_keep {w w' : World} {b : Nat} {t : Tr} {k : Nat} (h : TrAt w (ButB b w) t k) (hk : KeepB b w w') : TrAt w' (ButB b w') t k :=
  TrAt.frame (fun k h => ⟨Nat.lt_of_lt_of_le h.1 hk.size, h.2⟩) (fun k h => KeepB.same hk h.1 h.2) h
theorem prTo_below {w w' : World} {b : Nat} {wide vars : Int} {long : Nat} {vt : Value} {l : List M.Tok} {code at_ : Int} (h : PrAt w b wide vars long vt l code at_) (hb : Below w.heap.size w w') : PrTo w w' b wide vars long l code at_ := ⟨⟨vt, h.later hb⟩, Keep.below _ hb⟩
set_option maxRecDepth 100000 in
set_option maxHeartbeats 2000000 in
theorem number_any {w : World} {b : Nat} {wide vars : Int} {long : Nat} {vt : Value} {l : List M.Tok} (h : PrAt w b wide vars long vt l 0 0) (p : Nat) (s : Tx) (hs : s.length ≤ 800) :
    Calls Tryd.prog 98 #[ptr b, .agg #[.int .i64 (p : Int), tx s]] w fun e w' => ((isNum s = true ∧ goodB wide (readN s) = true) ∧ ∃ k, e = .returned (ptr k) ∧ TrAt w' (ButB b w') (.leaf (1, (readN s : Int))) k ∧ PrTo w w' b wide vars long l 0 0) ∨
      (¬ (isNum s = true ∧ goodB wide (readN s) = true) ∧ e = .returned (.pointer none) ∧ PrTo w w' b wide vars long l 4 p) := by
  have hA : Below w.heap.size w (w.alloc (.cells #[.int .i64 (p : Int), tx s] 55)) := (Below.refl _ _).alloc (Nat.le_refl _) _
  have hP := h.laid.below hA
  have gr := iReadNum_any s (by omega) _ hP.pow hP.range hP.syn
  have hlt := h.lt
  have HA : Hid (Below w.heap.size w (w.alloc (.cells #[.int .i64 (p : Int), tx s] 55))) := hA
  have hn : (readN s : Int) ≤ 18446744073709551615 := by have := readN_lt s; omega
  have GF : Hid (∀ w1, Below w.heap.size w w1 → Calls Tryd.prog 76 #[ptr b, .int .i64 4, .int .i64 (p : Int)] w1 fun e w' => e = .returned (.pointer none) ∧ PrTo w w' b wide vars long l 4 (p : Int)) := fun w1 hb => (fail_any (h.later hb) 4 (p : Int)).mono fun e w' ⟨he, hr⟩ => ⟨he, hr.trans (Keep.below _ hb)⟩
  have GW : Hid (∀ w1, Below w.heap.size w w1 → Calls Tryd.prog 91 #[.int .i64 wide, .int .u64 (readN s : Int)] w1 fun e w' => e = .returned (.bool (goodB wide (readN s))) ∧ w' = w1) := fun w1 hb => iGoodWord_any wide (readN s) w1 (h.later hb).laid.masks
  have GO : Hid (∀ w1, Below w.heap.size w w1 → Calls Tryd.prog 111 #[.int .i64 1, .int .u64 (readN s : Int)] w1 fun e w' => ∃ k, e = .returned (ptr k) ∧ TrAt w' (ButB b w') (.leaf (1, (readN s : Int))) k ∧ PrTo w w' b wide vars long l 0 0) := fun w1 hb1 =>
    (leafOf_any (ButB b w1) 1 (readN s) (Or.inl rfl) w1 (fun k hk => hk.1)).mono fun e w' ⟨k, he, htr, hb⟩ => ⟨k, he, tr_new (h.later hb1).lt hb.size htr, (prTo_below (h.later hb1) hb).trans (Keep.below _ hb1)⟩
  have HC : Hid (∀ w1, Below w.heap.size w w1 → w1.cell? ⟨b, 0, none⟩ = some (.int .i64 wide)) := fun w1 hb => (h.later hb).cell.1
  clear h hA hP
  generalize readN s = N at *
  generalize isNum s = I at *
  generalize goodB wide (N : Int) = G at *
  go_enter Tryd.func98, Tryd.ntmps98
  go_wp2_with fail
  refine gr.mono ?_
  rintro e w1 ⟨rfl, hb1⟩
  have hb01 : Below w.heap.size w w1 := HA.out.trans (hb1.mono HA.out.size)
  have q0 : w1.cell? ⟨w.heap.size, 0, none⟩ = some (.int .i64 (p : Int)) := by rw [hb1.cell (p := ⟨w.heap.size, 0, none⟩) (by simp)]; simp
  have q1 : w1.cell? ⟨w.heap.size, 1, none⟩ = some (tx s) := by rw [hb1.cell (p := ⟨w.heap.size, 1, none⟩) (by simp)]; simp
  have c0 := HC.out w1 hb01
  have gf := GF.out w1 hb01
  have gw := GW.out w1 hb01
  have go := GO.out w1 hb01
  clear gr hb1 hb01 GF GW GO HC HA
  cases I with
  | false =>
    go_wp2_with fail
    refine gf.mono ?_
    rintro e w3 ⟨rfl, hr3⟩
    have H3 : Hid (PrTo w w3 b wide vars long l 4 (p : Int)) := hr3
    clear hr3 gf gw go
    go_wp2_with fail
    go_ret
    first | exact Or.inr ⟨by simp, rfl, H3.out⟩ | exact ⟨rfl, H3.out⟩
  | true =>
    go_wp2_with fail
    refine gw.mono ?_
    rintro e w3 ⟨rfl, rfl⟩
    cases G with
    | false =>
      go_wp2_with fail
      refine gf.mono ?_
      rintro e w4 ⟨rfl, hr3⟩
      have H3 : Hid (PrTo w w4 b wide vars long l 4 (p : Int)) := hr3
      clear hr3 gf gw go
      go_wp2_with fail
      go_ret
      first | exact Or.inr ⟨by simp, rfl, H3.out⟩ | exact ⟨rfl, H3.out⟩
    | true =>
      go_wp2_with fail
      refine go.mono ?_
      rintro e w4 ⟨k, rfl, htr, hr3⟩
      have H3 : Hid (TrAt w4 (ButB b w4) (.leaf (1, (N : Int))) k ∧ PrTo w w4 b wide vars long l 0 0) := ⟨htr, hr3⟩
      clear hr3 htr gf gw go
      go_wp2_with fail
      go_ret
      first | exact Or.inl ⟨by simp, k, rfl, H3.out.1, H3.out.2⟩ | exact ⟨k, rfl, H3.out.1, H3.out.2⟩
/-- the name of a variable, read -/
theorem name_at {s : Tx} {ch : UInt8} {q : Tx} (hs : s = ch :: q) (hlet : isLet ch = true) (hy : s ≠ yesL) (hn : s ≠ noL) {wide vars : Int} :
    (∀ k : Nat, (k : Int) < vars → k < 4 → nameL k = s → leafRd wide vars s = .ok (2, (k : Int))) ∧ (vars ≤ 4 → (∀ k : Nat, (k : Int) < vars → nameL k ≠ s) → leafRd wide vars s = .error 5) := by
  have hd : isDig ch = false := by
    have := isLet_nat hlet
    cases e : isDig ch with
    | false => rfl
    | true => have := isDig_nat e; omega
  have hL := isLet_nat hlet
  constructor
  · intro k hk hk4 e
    subst hs
    unfold nameL at e
    simp only [List.cons.injEq] at e
    obtain ⟨e1, e2⟩ := e
    have hc : ch.toNat = 97 + k := by rw [← e1]; exact name_nat hk4
    simp only [leafRd]
    rw [if_neg (by rw [hd]; decide), if_neg hy, if_neg hn, hc, show 97 + k - 97 = k from by omega, if_pos ⟨by simp [← e2], hk⟩]
  · intro h4 hno
    subst hs
    simp only [leafRd]
    rw [if_neg (by rw [hd]; decide), if_neg hy, if_neg hn, if_neg]
    rintro ⟨g1, g2⟩
    have hq : q = [] := by simpa using g1
    subst hq
    refine hno (ch.toNat - 97) g2 ?_
    unfold nameL
    rw [show 97 + (ch.toNat - 97) = ch.toNat from by omega]
    simp
set_option maxRecDepth 100000 in
set_option maxHeartbeats 2000000 in
theorem named_any {w : World} {b : Nat} {wide vars : Int} {long : Nat} {vt : Value} {l : List M.Tok} (h : PrAt w b wide vars long vt l 0 0) (p : Nat) (s : Tx) (hs : s.length ≤ 800) (hv : vars ≤ 4) (hv0 : 0 ≤ vars) {ch : UInt8} {q : Tx} (hsc : s = ch :: q) (hlet : isLet ch = true) :
    Calls Tryd.prog 99 #[ptr b, .agg #[.int .i64 (p : Int), tx s]] w fun e w' => (∃ nd k, leafRd wide vars s = .ok nd ∧ e = .returned (ptr k) ∧ TrAt w' (ButB b w') (.leaf nd) k ∧ PrTo w w' b wide vars long l 0 0) ∨
      (∃ c, leafRd wide vars s = .error c ∧ e = .returned (.pointer none) ∧ PrTo w w' b wide vars long l (c : Int) p) := by
  have hA : Below w.heap.size w (w.alloc (.cells #[.int .i64 (p : Int), tx s] 55)) := (Below.refl _ _).alloc (Nat.le_refl _) _
  have hlt := h.lt
  have hd : isDig ch = false := by
    have := isLet_nat hlet
    cases e : isDig ch with
    | false => rfl
    | true => have := isDig_nat e; omega
  have HL : Hid (∀ n : Int, Calls Tryd.prog 111 #[.int .i64 2, .int .u64 n] (w.alloc (.cells #[.int .i64 (p : Int), tx s] 55)) fun e w' => ∃ k, e = .returned (ptr k) ∧ TrAt w' (ButB b w') (.leaf (20, n)) k ∧ PrTo w w' b wide vars long l 0 0) := fun n =>
    (leafOf_any (ButB b _) 2 n (Or.inr rfl) _ (fun k hk => hk.1)).mono fun e w' ⟨k, he, htr, hb⟩ => ⟨k, he, tr_new (h.later hA).lt hb.size htr, (prTo_below (h.later hA) hb).trans (Keep.below _ hA)⟩
  have HF : Hid (Calls Tryd.prog 76 #[ptr b, .int .i64 5, .int .i64 (p : Int)] (w.alloc (.cells #[.int .i64 (p : Int), tx s] 55)) fun e w' => e = .returned (.pointer none) ∧ PrTo w w' b wide vars long l 5 (p : Int)) := (fail_any (h.later hA) 5 (p : Int)).mono fun e w' ⟨he, hr⟩ => ⟨he, hr.trans (Keep.below _ hA)⟩
  have HN : Hid (∀ n : Nat, Calls Tryd.prog 70 #[.agg #[.int .i64 2, .int .u64 (n : Int)], .slice none 0 0] (w.alloc (.cells #[.int .i64 (p : Int), tx s] 55)) fun e w' => ∃ k, e = .returned (ptr k) ∧ TrAt w' (ButB b w') (.leaf (2, (n : Int))) k ∧ PrTo w w' b wide vars long l 0 0) := fun n =>
    (nodeOver_made 2 (n : Int) [] [] (.slice none 0 0) _ (ButB b _) (fun k hk => hk.1) ⟨by simp, Or.inl ⟨rfl, none, 0, rfl⟩⟩ ⟨rfl, fun i a p ha _ => by simp at ha⟩ (by decide) rfl (fun q hq => by cases hq) (by simp [sizes])).mono fun e w' ⟨k, he, htr, hb⟩ => ⟨k, he, tr_new (h.later hA).lt hb.size htr, (prTo_below (h.later hA) hb).trans (Keep.below _ hA)⟩
  have HM : Hid (∀ (k : Int) (w1 : World), Calls Tryd.prog 92 #[.int .i64 k] w1 fun e w' => e = .returned (.tuple #[tx (nameT k), .bool (decide (0 ≤ k ∧ k ≤ 3))]) ∧ w' = w1) := fun k w1 => iNameOf_any k w1
  have c1 := h.cell.2.1
  clear h hA
  by_cases hy : s = yesL
  · have hr : leafRd wide vars s = .ok (20, 1) := by
      rw [hsc] at hy ⊢
      simp only [leafRd]
      rw [if_neg (by rw [hd]; decide), if_pos hy]
    have g := HL.out 1
    clear HL HF HN HM hsc
    subst hy
    have HR : Hid (leafRd wide vars yesL = .ok (20, 1)) := hr
    clear hr
    go_enter Tryd.func99, Tryd.ntmps99
    go_wp2_with fail
    refine g.mono ?_
    rintro e w1 ⟨k, rfl, htr, hto⟩
    have H1 : Hid (TrAt w1 (ButB b w1) (.leaf (20, 1)) k ∧ PrTo w w1 b wide vars long l 0 0) := ⟨htr, hto⟩
    clear g htr hto
    go_wp2_with fail
    go_ret
    exact Or.inl ⟨_, k, HR.out, rfl, H1.out.1, H1.out.2⟩
  · by_cases hn : s = noL
    · have hr : leafRd wide vars s = .ok (20, 0) := by
        rw [hsc] at hy hn ⊢
        simp only [leafRd]
        rw [if_neg (by rw [hd]; decide), if_neg hy, if_pos hn]
      have g := HL.out 0
      clear HL HF HN HM hsc hy
      subst hn
      have HR : Hid (leafRd wide vars noL = .ok (20, 0)) := hr
      clear hr
      go_enter Tryd.func99, Tryd.ntmps99
      go_wp2_with fail
      refine g.mono ?_
      rintro e w1 ⟨k, rfl, htr, hto⟩
      have H1 : Hid (TrAt w1 (ButB b w1) (.leaf (20, 0)) k ∧ PrTo w w1 b wide vars long l 0 0) := ⟨htr, hto⟩
      clear g htr hto
      go_wp2_with fail
      go_ret
      exact Or.inl ⟨_, k, HR.out, rfl, H1.out.1, H1.out.2⟩
    · obtain ⟨hn1, hn2⟩ := name_at (wide := wide) (vars := vars) hsc hlet hy hn
      have y1 : (s == [121, 101, 115]) = false := beq_eq_false_iff_ne.2 hy
      have y2 : (s == [110, 111]) = false := beq_eq_false_iff_ne.2 hn
      have H1 : Hid (∀ k : Nat, (k : Int) < vars → k < 4 → nameL k = s → leafRd wide vars s = .ok (2, (k : Int))) := hn1
      have H2 : Hid (vars ≤ 4 → (∀ k : Nat, (k : Int) < vars → nameL k ≠ s) → leafRd wide vars s = .error 5) := hn2
      clear hsc hy hn hn1 hn2 HL hd hlet
      obtain ⟨vn, rfl⟩ := Int.eq_ofNat_of_zero_le hv0
      go_enter Tryd.func99, Tryd.ntmps99
      go_wp2_with fail
      go_loop [20] (fun i => ∃ j : Nat, j ≤ vn ∧ i = .int .i64 j ∧ Hid (∀ k : Nat, k < j → nameL k ≠ s)) (fun i => vn - (intOf i).toNat)
      case atStart => exact ⟨0, by omega, rfl, fun k hk => by omega⟩
      case round =>
        obtain ⟨j, hj, rfl, HJ⟩ := hrel
        by_cases hlt' : j < vn
        · have g := HM.out (j : Int) (w.alloc (.cells #[.int .i64 (p : Int), tx s] 55))
          have ed : decide (0 ≤ (j : Int) ∧ (j : Int) ≤ 3) = true := decide_eq_true (by omega)
          have en : nameT (j : Int) = nameL j := by unfold nameT; rw [if_pos (by omega)]; rfl
          rw [ed, en] at g
          clear ed en
          by_cases hq : nameL j = s
          · have HR : Hid (leafRd wide (vn : Int) s = .ok (2, (j : Int))) := H1.out j (by omega) (by omega) hq
            have gn := HN.out j
            rw [hq] at g
            clear hq HF HN HM H1 H2
            go_wp2_with fail
            refine g.mono ?_
            rintro e w2 ⟨rfl, rfl⟩
            clear g
            go_wp2_with fail
            refine gn.mono ?_
            rintro e w1 ⟨k, rfl, htr, hto⟩
            have H1 : Hid (TrAt w1 (ButB b w1) (.leaf (2, (j : Int))) k ∧ PrTo w w1 b wide (vn : Int) long l 0 0) := ⟨htr, hto⟩
            clear gn htr hto
            go_wp2_with fail
            go_ret
            exact Or.inl ⟨_, k, HR.out, rfl, H1.out.1, H1.out.2⟩
          · have HJ2 : Hid (∀ k : Nat, k < j + 1 → nameL k ≠ s) := fun k hk => by
              by_cases e : k = j
              · subst e; exact hq
              · exact HJ.out k (by omega)
            have hq2 : (nameL j == s) = false := beq_eq_false_iff_ne.2 hq
            clear hq
            generalize nameL j = nj at *
            go_wp2_with fail
            refine g.mono ?_
            rintro e w2 ⟨rfl, rfl⟩
            clear g
            go_wp2_with fail
            go_round
            case rel => exact ⟨j + 1, by omega, by go_num, HJ2⟩
            case measure => simp [intOf]; omega
        · obtain rfl : j = vn := by omega
          have HR : Hid (leafRd wide (j : Int) s = .error 5) := H2.out hv (fun k hk => HJ.out k (by omega))
          have gf : Calls Tryd.prog 76 #[ptr b, .int .i64 5, .int .i64 (p : Int)] (w.alloc (.cells #[.int .i64 (p : Int), tx s] 55)) fun e w' => e = .returned (.pointer none) ∧ PrTo w w' b wide (j : Int) long l 5 (p : Int) := HF.out
          clear HF HN HM H1 H2
          go_wp2_with fail
          refine gf.mono ?_
          rintro e w1 ⟨rfl, hto⟩
          have H1 : Hid (PrTo w w1 b wide (j : Int) long l 5 (p : Int)) := hto
          clear gf hto
          go_wp2_with fail
          go_ret
          exact Or.inr ⟨5, HR.out, rfl, H1.out⟩
end Go.Proofs.YtkfplichekebdaaDoor

namespace Go.Proofs.YtkfplichekebdaaDoor
open Go Go.RowKit
open M
set_option linter.unusedVariables false

theorem trs_keep {w w' : World} {b : Nat} {ts : List Tr} {ps : List Nat} (h : TrsAt w (ButB b w) ts ps) (hk : KeepB b w w') : TrsAt w' (ButB b w') ts ps :=
  TrsAt.frame (fun k h => ⟨Nat.lt_of_lt_of_le h.1 hk.size, h.2⟩) (fun k h => KeepB.same hk h.1 h.2) h
set_option maxRecDepth 100000 in
set_option maxHeartbeats 2000000 in
theorem over_any {w : World} {b : Nat} {wide vars : Int} {long : Nat} {vt : Value} {l : List M.Tok} (h : PrAt w b wide vars long vt l 0 0) (p : Nat) (s : Tx) (ts : List Tr) (ps : List Nat) (v : Value) (hv : PtrsAt w (Old w) v ps) (ht : TrsAt w (ButB b w) ts ps)
    (hm0 : manyOf (opB s) ≠ 0) (hm : manyOf (opB s) = ts.length) (hsz : sizes ts ≤ 1000000) (Y : Prop) (hY : Y ↔ ∀ q ∈ ts, q.kind = partOf (opB s)) :
    Calls Tryd.prog 110 #[ptr b, .agg #[.int .i64 (p : Int), tx s], v] w fun e w' => (Y ∧ ∃ k, e = .returned (ptr k) ∧ TrAt w' (ButB b w') (Tr.over ((opB s : Int), 0) ts) k ∧ PrTo w w' b wide vars long l 0 0) ∨
      (¬ Y ∧ e = .returned (.pointer none) ∧ PrTo w w' b wide vars long l 6 p) := by
  have hA : Below w.heap.size w (w.alloc (.cells #[.int .i64 (p : Int), tx s] 55)) := (Below.refl _ _).alloc (Nat.le_refl _) _
  have hlt := h.lt
  have HO : Hid (∀ w1, Below w.heap.size w w1 → Calls Tryd.prog 109 #[tx s] w1 fun e w' => e = .returned (.int .i64 (opB s : Int)) ∧ w' = w1) := fun w1 hb => opOf_any s w1 (h.laid.below hb).signs
  have HY1 : Hid (Y → ∀ w1, Below w.heap.size w w1 → Calls Tryd.prog 70 #[.agg #[.int .i64 (opB s : Int), .int .u64 0], v] w1 fun e w' => ∃ k, e = .returned (ptr k) ∧ TrAt w' (ButB b w') (Tr.over ((opB s : Int), 0) ts) k ∧ PrTo w w' b wide vars long l 0 0) := fun y w1 hb1 =>
    (nodeOver_made (opB s : Int) 0 ts ps v w1 (ButB b w1) (fun k hk => hk.1) (hv.below hb1) (trs_keep ht (Keep.below _ hb1)) (own_many hm0) hm (hY.1 y) hsz).mono fun e w' ⟨k, he, htr, hb⟩ => ⟨k, he, tr_new (h.later hb1).lt hb.size htr, (prTo_below (h.later hb1) hb).trans (Keep.below _ hb1)⟩
  have HY0 : Hid (¬ Y → ∀ w1, Below w.heap.size w w1 → Calls Tryd.prog 70 #[.agg #[.int .i64 (opB s : Int), .int .u64 0], v] w1 fun e w' => e = .returned (.pointer none) ∧ Below w1.heap.size w1 w') := fun y w1 hb1 =>
    nodeOver_mixed (opB s : Int) 0 ts ps v w1 (ButB b w1) (fun k hk => hk.1) (hv.below hb1) (trs_keep ht (Keep.below _ hb1)) hm (fun g => y (hY.2 g.2)) hsz
  have HF : Hid (∀ w1, Below w.heap.size w w1 → Calls Tryd.prog 76 #[ptr b, .int .i64 6, .int .i64 (p : Int)] w1 fun e w' => e = .returned (.pointer none) ∧ PrTo w w' b wide vars long l 6 (p : Int)) := fun w1 hb => (fail_any (h.later hb) 6 (p : Int)).mono fun e w' ⟨he, hr⟩ => ⟨he, hr.trans (Keep.below _ hb)⟩
  have HA : Hid (Below w.heap.size w (w.alloc (.cells #[.int .i64 (p : Int), tx s] 55))) := hA
  obtain ⟨va, vc, hvs⟩ := hv.shape
  have hlen : ps.length ≤ 9223372036854775807 := hv.1
  clear h hA hv ht hm0 hm hsz hY
  generalize opB s = ob at *
  subst hvs
  go_enter Tryd.func110, Tryd.ntmps110
  go_wp2_with fail
  refine (HO.out _ HA.out).mono ?_
  rintro e w1 ⟨rfl, rfl⟩
  by_cases y : Y
  · have gn := HY1.out y _ HA.out
    clear HO HY0 HF HA HY1
    go_wp2_with fail
    refine gn.mono ?_
    rintro e w2 ⟨k, rfl, htr, hto⟩
    have H1 : Hid (TrAt w2 (ButB b w2) (Tr.over ((ob : Int), 0) ts) k ∧ PrTo w w2 b wide vars long l 0 0) := ⟨htr, hto⟩
    have HYY : Hid Y := y
    clear gn htr hto y
    go_wp2_with fail
    go_ret
    exact Or.inl ⟨HYY.out, k, rfl, H1.out.1, H1.out.2⟩
  · have gn := HY0.out y _ HA.out
    have HYY : Hid (¬ Y) := y
    clear HO HY0 HY1 y
    go_wp2_with fail
    refine gn.mono ?_
    rintro e w2 ⟨rfl, hb2⟩
    have q0 : w2.cell? ⟨w.heap.size, 0, none⟩ = some (.int .i64 (p : Int)) := by rw [hb2.cell (p := ⟨w.heap.size, 0, none⟩) (by simp)]; simp
    have gf := HF.out w2 (HA.out.trans (hb2.mono HA.out.size))
    clear gn hb2 HF HA
    go_wp2_with fail
    refine gf.mono ?_
    rintro e w3 ⟨rfl, hto⟩
    have H1 : Hid (PrTo w w3 b wide vars long l 6 (p : Int)) := hto
    clear gf hto
    go_wp2_with fail
    go_ret
    exact Or.inr ⟨HYY.out, rfl, H1.out⟩
/-- how the program's reader ends -/
def PTermQ (wide vars : Int) (long f b : Nat) (l : List M.Tok) (w : World) (e : Ending) (w' : World) : Prop :=
  (∃ t r k, readT wide vars long f l = .ok (t, r) ∧ e = .returned (ptr k) ∧ TrAt w' (ButB b w') t k ∧ PrTo w w' b wide vars long r 0 0) ∨
  (∃ c p l', readT wide vars long f l = .error (c, p) ∧ e = .returned (.pointer none) ∧ PrTo w w' b wide vars long l' (c : Int) (p : Int))
/-- what the program's reader does with tokens -/
def PTermP (wide vars : Int) (long f : Nat) : Prop := ∀ (w : World) (b : Nat) (vt : Value) (l : List M.Tok), PrAt w b wide vars long vt l 0 0 → (∀ x ∈ l, 1 ≤ x.2.length ∧ x.2.length ≤ 800) → l.length < f →
  Calls Tryd.prog 75 #[ptr b] w (PTermQ wide vars long f b l w)
theorem PTermQ.since {wide vars : Int} {long f b : Nat} {l : List M.Tok} {u w : World} {e : Ending} {w' : World} (h : PTermQ wide vars long f b l w e w') (hk : KeepB b u w) : PTermQ wide vars long f b l u e w' := by
  rcases h with ⟨t, r, k, h1, h2, h3, h4⟩ | ⟨c, p, l', h1, h2, h3⟩
  · exact Or.inl ⟨t, r, k, h1, h2, h3, h4.trans hk⟩
  · exact Or.inr ⟨c, p, l', h1, h2, h3.trans hk⟩
theorem PTermQ.ends {wide vars : Int} {long f b : Nat} {l : List M.Tok} {w : World} {e : Ending} {w' : World} (h : PTermQ wide vars long f b l w e w') : ∃ a, e = .returned (.pointer a) := by
  rcases h with ⟨t, r, k, h1, h2, h3, h4⟩ | ⟨c, p, l', h1, h2, h3⟩
  · exact ⟨_, h2⟩
  · exact ⟨_, h2⟩
/-- one part, as it is handed on -/
theorem one_part {w : World} {b : Nat} {t : Tr} {k : Nat} (hb : b < w.heap.size) (h : TrAt w (ButB b w) t k) :
    PtrsAt (w.alloc (.cells #[ptr k] 65)) (Old (w.alloc (.cells #[ptr k] 65))) (.slice (some ⟨w.heap.size, 0, none⟩) 1 1) [k] ∧ TrsAt (w.alloc (.cells #[ptr k] 65)) (ButB b (w.alloc (.cells #[ptr k] 65))) [t] [k] := by
  have hA : Below w.heap.size w (w.alloc (.cells #[ptr k] 65)) := (Below.refl _ _).alloc (Nat.le_refl _) _
  refine ⟨⟨by simp, Or.inr ⟨w.heap.size, 0, 1, rfl, by simp [Old], fun i c hc => ?_⟩⟩, rfl, fun i a q ha hq => ?_⟩
  · match i, hc with
    | 0, hc =>
      simp at hc
      subst hc
      simp
  · match i, ha, hq with
    | 0, ha, hq =>
      simp at ha hq
      subst ha hq
      exact tr_keep h (Keep.below _ hA)
theorem two_parts {w : World} {b : Nat} {t u : Tr} {k m : Nat} (hb : b < w.heap.size) (h : TrAt w (ButB b w) t k) (h' : TrAt w (ButB b w) u m) :
    PtrsAt (w.alloc (.cells #[ptr k, ptr m] 65)) (Old (w.alloc (.cells #[ptr k, ptr m] 65))) (.slice (some ⟨w.heap.size, 0, none⟩) 2 2) [k, m] ∧ TrsAt (w.alloc (.cells #[ptr k, ptr m] 65)) (ButB b (w.alloc (.cells #[ptr k, ptr m] 65))) [t, u] [k, m] := by
  have hA : Below w.heap.size w (w.alloc (.cells #[ptr k, ptr m] 65)) := (Below.refl _ _).alloc (Nat.le_refl _) _
  refine ⟨⟨by simp, Or.inr ⟨w.heap.size, 0, 2, rfl, by simp [Old], fun i c hc => ?_⟩⟩, rfl, fun i a q ha hq => ?_⟩
  · match i, hc with
    | 0, hc =>
      simp at hc
      subst hc
      simp
    | 1, hc =>
      simp at hc
      subst hc
      simp
  · match i, ha, hq with
    | 0, ha, hq =>
      simp at ha hq
      subst ha hq
      exact tr_keep h (Keep.below _ hA)
    | 1, ha, hq =>
      simp at ha hq
      subst ha hq
      exact tr_keep h' (Keep.below _ hA)
end Go.Proofs.YtkfplichekebdaaDoor

namespace Go.Proofs.YtkfplichekebdaaDoor
open Go
open M
set_option linter.unusedVariables false

section
variable {wide vars : Int} {long f p : Nat} {l : List M.Tok}
theorem pair_err {e : Nat × Nat} (h : readT wide vars long f l = .error e) : readT wide vars long (f + 1) ((p, [40]) :: l) = .error e := by
  simp only [readT]
  rw [if_neg (by decide), if_neg (by decide), if_neg (by simp), h]
theorem pair_end {t : Tr} (h : readT wide vars long f l = .ok (t, [])) : readT wide vars long (f + 1) ((p, [40]) :: l) = .error (3, long) := by
  simp only [readT]
  rw [if_neg (by decide), if_neg (by decide), if_neg (by simp), h]
theorem pair_noop {t : Tr} {y : M.Tok} {r : List M.Tok} (h : readT wide vars long f l = .ok (t, y :: r)) (h0 : opOf y.2 = 0) : readT wide vars long (f + 1) ((p, [40]) :: l) = .error (3, y.1) := by
  simp only [readT]
  rw [if_neg (by decide), if_neg (by decide), if_neg (by simp), h]
  simp only
  rw [if_pos h0]
theorem pair_err2 {t : Tr} {y : M.Tok} {r : List M.Tok} {e : Nat × Nat} (h : readT wide vars long f l = .ok (t, y :: r)) (h0 : opOf y.2 ≠ 0) (h2 : readT wide vars long f r = .error e) : readT wide vars long (f + 1) ((p, [40]) :: l) = .error e := by
  simp only [readT]
  rw [if_neg (by decide), if_neg (by decide), if_neg (by simp), h]
  simp only
  rw [if_neg h0, h2]
theorem pair_take {t u : Tr} {y : M.Tok} {r r3 : List M.Tok} (h : readT wide vars long f l = .ok (t, y :: r)) (h0 : opOf y.2 ≠ 0) (h2 : readT wide vars long f r = .ok (u, r3)) (h3 : ∀ z r4, r3 = z :: r4 → z.2 ≠ [41]) : readT wide vars long (f + 1) ((p, [40]) :: l) = .error (3, placeOf long r3) := by
  simp only [readT]
  rw [if_neg (by decide), if_neg (by decide), if_neg (by simp), h]
  simp only
  rw [if_neg h0, h2]
  match r3, h3 with
  | [], _ => rfl
  | z :: r4, h3 =>
    simp only
    rw [if_pos (h3 z r4 rfl)]
    rfl
theorem pair_kinds {t u : Tr} {y z : M.Tok} {r r4 : List M.Tok} (h : readT wide vars long f l = .ok (t, y :: r)) (h0 : opOf y.2 ≠ 0) (h2 : readT wide vars long f r = .ok (u, z :: r4)) (h3 : z.2 = [41]) :
    readT wide vars long (f + 1) ((p, [40]) :: l) = if t.kind = partOf (opOf y.2) ∧ u.kind = partOf (opOf y.2) then .ok (.two (opOf y.2, 0) t u, r4) else .error (6, y.1) := by
  simp only [readT]
  rw [if_neg (by decide), if_neg (by decide), if_neg (by simp), h]
  simp only
  rw [if_neg h0, h2]
  simp only
  rw [if_neg (by simp [h3])]
end
/-- the op that is found among the first -/
def opAt (l : Tx) (k : Nat) : Nat := if opOf l ≠ 0 ∧ opOf l < k then opOf l else 0
theorem opAt_start (l : Tx) : opAt l 3 = 0 := by
  unfold opAt
  rw [if_neg]
  rintro ⟨h, h2⟩
  have := opOf_range h
  omega
theorem opAt_end (l : Tx) : opAt l 19 = opOf l := by
  unfold opAt
  by_cases h : opOf l = 0
  · rw [if_neg (fun g => g.1 h), h]
  · have := opOf_range h
    rw [if_pos ⟨h, by omega⟩]
theorem opAt_hit {l : Tx} {k : Nat} (h1 : 3 ≤ k) (h2 : k ≤ 18) (h3 : k ≠ 13) (h : signN k = l) : opAt l (k + 1) = k := by
  have e : opOf l = k := by rw [← h]; exact opOf_back h1 h2 h3
  unfold opAt
  rw [if_pos ⟨by omega, by omega⟩, e]
theorem opAt_miss {l : Tx} {k : Nat} (h : signN k ≠ l) : opAt l (k + 1) = opAt l k := by
  have e : opOf l ≠ k ∨ opOf l = 0 := by
    by_cases h0 : opOf l = 0
    · exact Or.inr h0
    · refine Or.inl (fun e => h ?_)
      rw [← e]
      exact (opOf_sign h0).1
  unfold opAt
  by_cases h0 : opOf l = 0
  · rw [if_neg (fun g => g.1 h0), if_neg (fun g => g.1 h0)]
  · by_cases hk : opOf l < k
    · rw [if_pos ⟨h0, by omega⟩, if_pos ⟨h0, hk⟩]
    · rw [if_neg (fun g => by have := g.2; omega), if_neg (fun g => hk g.2)]
theorem opAt_thirteen (l : Tx) : opAt l 14 = opAt l 13 := by
  by_cases h : signN 13 = l
  · have h0 : opOf l = 0 := by rw [← h]; decide
    unfold opAt
    rw [if_neg (fun g => g.1 h0), if_neg (fun g => g.1 h0)]
  · exact opAt_miss h
theorem many_two {k : Nat} (h1 : 3 ≤ k) (h2 : k ≤ 18) (h3 : k ≠ 13) : manyOf (k : Int) = 2 := by
  unfold manyOf
  rw [if_neg (by omega), if_pos (by omega)]
end Go.Proofs.YtkfplichekebdaaDoor

namespace Go.Proofs.YtkfplichekebdaaDoor
open Go Go.RowKit
open M
set_option linter.unusedVariables false

theorem turn_read {wide vars : Int} {long f : Nat} {p : Nat} {s : Tx} {l : List M.Tok} (hs : s = [126] ∨ s = [33]) : readT wide vars long (f + 1) ((p, s) :: l) = match readT wide vars long f l with
      | .error e => .error e
      | .ok (a, r1) => if a.kind = partOf (opOne s) then .ok (.one (opOne s, 0) a, r1) else .error (6, p) := by
  simp only [readT]
  rw [if_neg (by rcases hs with rfl | rfl <;> decide), if_pos hs]
  rfl
/-- a block that is kept -/
theorem cells_keep {w1 w2 : World} {b g : Nat} {o : Obj} (hk : KeepB b w1 w2) (h : w1.heap[g]? = some o) (hb : g ≠ b) : w2.heap[g]? = some o := by
  rw [KeepB.same hk (Array.getElem?_eq_some_iff.1 h).1 hb]
  exact h
set_option maxRecDepth 100000 in
set_option maxHeartbeats 2000000 in
theorem turned_any {wide vars : Int} (hv : vars ≤ 4) {long f : Nat} (ih : PTermP wide vars long f) {w : World} {b : Nat} {vt : Value} {p : Nat} {s : Tx} {l : List M.Tok} (h : PrAt w b wide vars long vt l 0 0) (hs : s = [126] ∨ s = [33]) (hok : ∀ x ∈ l, 1 ≤ x.2.length ∧ x.2.length ≤ 800) (hf : l.length < f) :
    Calls Tryd.prog 97 #[ptr b, .agg #[.int .i64 (p : Int), tx s]] w (PTermQ wide vars long (f + 1) b ((p, s) :: l) w) := by
  have hA : Below w.heap.size w (w.alloc (.cells #[.int .i64 (p : Int), tx s] 55)) := (Below.refl _ _).alloc (Nat.le_refl _) _
  have hlt := h.lt
  have gt := ih _ b _ l (h.later hA) hok hf
  have hlen := h.many
  have HA : Hid (Below w.heap.size w (w.alloc (.cells #[.int .i64 (p : Int), tx s] 55))) := hA
  have HE : Hid (∀ c q l' w2, readT wide vars long f l = .error (c, q) → PrTo (w.alloc (.cells #[.int .i64 (p : Int), tx s] 55)) w2 b wide vars long l' (c : Int) (q : Int) → PTermQ wide vars long (f + 1) b ((p, s) :: l) w (.returned (.pointer none)) w2) := by
    intro c q l' w2 hr hto
    refine Or.inr ⟨c, q, l', ?_, rfl, hto.trans (Keep.below _ HA.out)⟩
    rw [turn_read hs, hr]
  have HO : Hid (∀ (t : Tr) r k w2, readT wide vars long f l = .ok (t, r) → TrAt w2 (ButB b w2) t k → PrTo (w.alloc (.cells #[.int .i64 (p : Int), tx s] 55)) w2 b wide vars long r 0 0 →
      (w2.cell? ⟨w.heap.size, 0, none⟩ = some (.int .i64 (p : Int)) ∧ w2.cell? ⟨w.heap.size, 1, none⟩ = some (tx s)) ∧
      Calls Tryd.prog 110 #[ptr b, .agg #[.int .i64 (p : Int), tx s], .slice (some ⟨w2.heap.size, 0, none⟩) 1 1] (w2.alloc (.cells #[ptr k] 65)) fun e w' => ∃ a, e = .returned (.pointer a) ∧ PTermQ wide vars long (f + 1) b ((p, s) :: l) w (.returned (.pointer a)) w') := by
    intro t r k w2 hr htr hto
    obtain ⟨⟨vt2, h2⟩, hk2⟩ := hto
    obtain ⟨s1, s2, s3, s4⟩ := opOne_sign hs
    have he := opB_one hs
    have hh : w2.heap[w.heap.size]? = some (.cells #[.int .i64 (p : Int), tx s] 55 (0, 0)) := cells_keep hk2 (heap_alloc_new _ _) (by omega)
    refine ⟨⟨by rw [cell_heap hh]; rfl, by rw [cell_heap hh]; rfl⟩, ?_⟩
    obtain ⟨hp1, hp2⟩ := one_part h2.lt htr
    have hB : Below w2.heap.size w2 (w2.alloc (.cells #[ptr k] 65)) := (Below.refl _ _).alloc (Nat.le_refl _) _
    obtain ⟨m, hm, hsz⟩ := readT_front _ _ _ _ _ _ _ hr
    have hml : m.length ≤ l.length := by rw [hm]; simp
    have hKK : KeepB b w (w2.alloc (.cells #[ptr k] 65)) := (Keep.trans (Keep.below _ HA.out) hk2).trans (Keep.below _ hB)
    refine (over_any (h2.later hB) p s [t] [k] _ hp1 hp2 (by rw [he, s2]; decide) (by rw [he, s2]; rfl) (by simp [sizes]; omega) (t.kind = partOf (opOne s)) (by rw [he]; simp)).mono ?_
    rintro e w' (⟨y, k', rfl, htr', hto'⟩ | ⟨y, rfl, hto'⟩)
    · refine ⟨_, rfl, Or.inl ⟨.one ((opOne s : Int), 0) t, r, k', ?_, rfl, ?_, hto'.trans hKK⟩⟩
      · rw [turn_read hs, hr]
        simp only
        exact if_pos y
      · rw [he] at htr'
        exact htr'
    · refine ⟨_, rfl, Or.inr ⟨6, p, r, ?_, rfl, hto'.trans hKK⟩⟩
      rw [turn_read hs, hr]
      simp only
      exact if_neg y
  clear h hA hok hf ih hs
  go_enter Tryd.func97, Tryd.ntmps97
  go_wp2_with fail
  refine gt.mono ?_
  rintro e w2 (⟨t, r, k, hr, rfl, htr, hto⟩ | ⟨c, q, l', hr, rfl, hto⟩)
  · obtain ⟨⟨q0, q1⟩, g⟩ := HO.out t r k w2 hr htr hto
    clear gt HO HE hr htr hto
    go_wp2_with fail
    refine g.mono ?_
    rintro e w3 ⟨a, rfl, hq⟩
    have HQ : Hid (PTermQ wide vars long (f + 1) b ((p, s) :: l) w (.returned (.pointer a)) w3) := hq
    clear g hq
    go_wp2_with fail
    go_ret
    exact HQ.out
  · have HQ : Hid (PTermQ wide vars long (f + 1) b ((p, s) :: l) w (.returned (.pointer none)) w2) := HE.out c q l' w2 hr hto
    clear gt HO HE hr hto
    go_wp2_with fail
    go_ret
    exact HQ.out
end Go.Proofs.YtkfplichekebdaaDoor

namespace Go.Proofs.YtkfplichekebdaaDoor
open Go Go.RowKit
open M
set_option linter.unusedVariables false

theorem head_close (long : Nat) (r5 : List M.Tok) : (headT r5 = [41] → r5 = (placeOf long r5, [41]) :: r5.tail) ∧ (headT r5 ≠ [41] → ∀ z r4, r5 = z :: r4 → z.2 ≠ [41]) := by
  match r5 with
  | [] =>
    refine ⟨fun e => ?_, fun _ z r4 e => ?_⟩
    · cases e
    · cases e
  | z :: r4 =>
    refine ⟨fun e => ?_, fun e z' r' e' => ?_⟩
    · rw [← e]
      rfl
    · cases e'
      exact e
set_option maxRecDepth 100000 in
set_option maxHeartbeats 4000000 in
theorem joined_any {wide vars : Int} (hv : vars ≤ 4) {long f : Nat} (ih : PTermP wide vars long f) {w : World} {b : Nat} {vt : Value} {p : Nat} {l : List M.Tok} (h : PrAt w b wide vars long vt l 0 0) (hok : ∀ x ∈ l, 1 ≤ x.2.length ∧ x.2.length ≤ 800) (hf : l.length < f) :
    Calls Tryd.prog 96 #[ptr b] w (PTermQ wide vars long (f + 1) b ((p, [40]) :: l) w) := by
  have gt := ih w b _ l h hok hf
  have hmany := h.many
  have hlt := h.lt
  have HE : Hid (∀ c q l' w2, readT wide vars long f l = .error (c, q) → PrTo w w2 b wide vars long l' (c : Int) (q : Int) → PTermQ wide vars long (f + 1) b ((p, [40]) :: l) w (.returned (.pointer none)) w2) := fun c q l' w2 hr hto => Or.inr ⟨c, q, l', pair_err hr, rfl, hto⟩
  have HL : Hid (l.length ≤ 1000 ∧ (∀ x ∈ l, 1 ≤ x.2.length ∧ x.2.length ≤ 800) ∧ l.length < f) := ⟨hmany, hok, hf⟩
  have HIH : Hid (PTermP wide vars long f) := ih
  clear h hok hf ih hmany
  go_enter Tryd.func96, Tryd.ntmps96
  go_wp2_with fail
  refine gt.mono ?_
  rintro e w2 (⟨t, r, k, hr, rfl, htr, hto⟩ | ⟨c, q, l', hr, rfl, hto⟩)
  · obtain ⟨⟨vt2, h2⟩, hk2⟩ := hto
    obtain ⟨m1, hm1, hsz1⟩ := readT_front _ _ _ _ _ _ _ hr
    have HM1 : Hid (l = m1 ++ r) := hm1
    have gk := ptake_any h2
    have HS : Hid (TrAt w2 (ButB b w2) t k ∧ KeepB b w w2) := ⟨htr, hk2⟩
    clear gt HE htr hk2 h2 hm1
    have HR1 : Hid (opOf (headT r) = 0 → readT wide vars long (f + 1) ((p, [40]) :: l) = .error (3, placeOf long r)) := by
      intro h0
      match r, hr, h0 with
      | [], hr, h0 => exact pair_end hr
      | y :: r2, hr, h0 => exact pair_noop hr h0
    have HR2 : Hid (opOf (headT r) ≠ 0 → r = (placeOf long r, headT r) :: r.tail) := by
      intro h0
      match r, h0 with
      | [], h0 => exact absurd (by decide) h0
      | y :: r2, h0 => rfl
    have HRR : Hid (readT wide vars long f l = .ok (t, r)) := hr
    have htl : r.tail.length ≤ l.length := by rw [HM1.out]; simp; omega
    have HTL : Hid (r.tail.length + 1 + m1.length ≤ l.length ∨ r = []) := by
      match r, HM1 with
      | [], _ => exact Or.inr rfl
      | y :: r2, HM1 => exact Or.inl (by rw [HM1.out]; simp; omega)
    have HOK2 : Hid (∀ x ∈ r.tail, 1 ≤ x.2.length ∧ x.2.length ≤ 800) := fun x hx => HL.out.2.1 x (by rw [HM1.out]; exact List.mem_append_right _ (List.mem_of_mem_tail hx))
    clear hr
    generalize hrt : r.tail = rt at *
    generalize hP : placeOf long r = P at *
    generalize hS : headT r = S at *
    have HRT : Hid (r.tail = rt) := hrt
    clear hrt hP hS
    go_wp2_with fail
    refine gk.mono ?_
    rintro e w3 ⟨rfl, hto3⟩
    obtain ⟨⟨vt3, h3⟩, hk3⟩ := hto3
    have hlt3 := h3.lt
    have hA3 : Below w3.heap.size w3 (w3.alloc (.cells #[.int .i64 (P : Int), tx S] 55)) := (Below.refl _ _).alloc (Nat.le_refl _) _
    have HA3 : Hid (Below w3.heap.size w3 (w3.alloc (.cells #[.int .i64 (P : Int), tx S] 55))) := hA3
    have HK3 : Hid (KeepB b w (w3.alloc (.cells #[.int .i64 (P : Int), tx S] 55))) := (Keep.trans HS.out.2 hk3).trans (Keep.below _ hA3)
    have HT3 : Hid (TrAt (w3.alloc (.cells #[.int .i64 (P : Int), tx S] 55)) (ButB b (w3.alloc (.cells #[.int .i64 (P : Int), tx S] 55))) t k) := tr_keep (tr_keep HS.out.1 hk3) (Keep.below _ hA3)
    have go := opOf_any S _ (h3.later hA3).laid.signs
    have gs := shapeOf_any (opB S) (w3.alloc (.cells #[.int .i64 (P : Int), tx S] 55))
    have gf := fail_any (h3.later hA3) 3 (P : Int)
    have GF : Hid (opOf S = 0 → Calls Tryd.prog 76 #[ptr b, .int .i64 3, .int .i64 (P : Int)] (w3.alloc (.cells #[.int .i64 (P : Int), tx S] 55)) fun e w' => e = .returned (.pointer none) ∧ PTermQ wide vars long (f + 1) b ((p, [40]) :: l) w (.returned (.pointer none)) w') := fun h0 => gf.mono fun e w' ⟨he, hr⟩ => ⟨he, Or.inr ⟨3, P, _, HR1.out h0, rfl, hr.trans HK3.out⟩⟩
    have HP3 : Hid (PrAt (w3.alloc (.cells #[.int .i64 (P : Int), tx S] 55)) b wide vars long vt3 rt 0 0) := h3.later hA3
    have HOB : Hid ((opOf S = 0 → manyOf (opB S) ≠ 2) ∧ (opOf S ≠ 0 → opB S = opOf S ∧ manyOf (opB S) = 2)) := opB_two S
    clear gk hk3 hA3 h3 gf HS
    generalize hmo : manyOf (opB S : Int) = mo at *
    generalize wantOf (opB S : Int) = wo at *
    generalize ownOf (opB S : Int) = oo at *
    generalize hob : opB S = ob at *
    have HOBE : Hid (opB S = ob ∧ manyOf (ob : Int) = mo) := ⟨hob, hmo⟩
    clear hob hmo
    go_wp2_with fail
    refine go.mono ?_
    rintro e w4 ⟨rfl, rfl⟩
    clear go
    go_wp2_with fail
    refine gs.mono ?_
    rintro e w4 ⟨rfl, rfl⟩
    clear gs
    by_cases h0 : opOf S = 0
    · have hm2 : mo ≠ 2 := HOB.out.1 h0
      have hmb : ((mo : Int) != 2) = true := bne_iff_ne.2 (by omega)
      have gf := GF.out h0
      clear GF HOB HR1 HR2 HRR HT3 HP3 HIH HTL HOK2 HL
      go_wp2_with fail
      refine gf.mono ?_
      rintro e w5 ⟨rfl, hq⟩
      have HQ : Hid (PTermQ wide vars long (f + 1) b ((p, [40]) :: l) w (.returned (.pointer none)) w5) := hq
      clear gf hq
      go_wp2_with fail
      go_ret
      exact HQ.out
    · have hm2 : mo = 2 := (HOB.out.2 h0).2
      subst hm2
      have HRE : Hid (r = (P, S) :: rt) := HR2.out h0
      have HLL : Hid (rt.length + 1 + m1.length ≤ l.length) := by
        rcases HTL.out with h | h
        · exact h
        · have h2 := HRE.out
          rw [h] at h2
          cases h2
      have HRD : Hid (readT wide vars long f l = .ok (t, (P, S) :: rt)) := by
        have h1 := HRR.out
        rw [HRE.out] at h1
        exact h1
      have HBO : Hid (ob = opOf S ∧ opOf S ≠ 0) := ⟨(HOB.out.2 h0).1, h0⟩
      have gt2 := HIH.out _ b _ rt HP3.out HOK2.out (by have := HLL.out; have := HL.out.2.2; omega)
      clear GF HOB HR1 HR2 HRR HTL HP3 HIH h0 HRE HRT
      go_wp2_with fail
      refine gt2.mono ?_
      rintro e w5 (⟨u, r5, k5, hr5, rfl, htr5, hto5⟩ | ⟨c, q, l', hr5, rfl, hto5⟩)
      · obtain ⟨⟨vt5, h5⟩, hk5⟩ := hto5
        obtain ⟨m2, hm2, hsz2⟩ := readT_front _ _ _ _ _ _ _ hr5
        have HM2 : Hid (m2.length ≤ rt.length) := by
          show m2.length ≤ rt.length
          rw [hm2]; simp
        have hh : w5.heap[w3.heap.size]? = some (.cells #[.int .i64 (P : Int), tx S] 55 (0, 0)) := cells_keep hk5 (heap_alloc_new _ _) (by omega)
        have HH : Hid (w5.heap[w3.heap.size]? = some (.cells #[.int .i64 (P : Int), tx S] 55 (0, 0))) := hh
        have hlt35 : w3.heap.size < w5.heap.size := (Array.getElem?_eq_some_iff.1 hh).1
        have gk := ptake_any h5
        have HK5 : Hid (KeepB b w w5) := Keep.trans HK3.out hk5
        have HT5 : Hid (TrAt w5 (ButB b w5) t k ∧ TrAt w5 (ButB b w5) u k5) := ⟨tr_keep HT3.out hk5, htr5⟩
        have HRU : Hid (readT wide vars long f rt = .ok (u, r5)) := hr5
        have HZ : Hid ((headT r5 = [41] → r5 = (placeOf long r5, [41]) :: r5.tail) ∧ (headT r5 ≠ [41] → ∀ z r4, r5 = z :: r4 → z.2 ≠ [41])) := head_close long r5
        clear gt2 hk5 htr5 hr5 hm2 h5 HT3 HK3 hh
        generalize hP5 : placeOf long r5 = P5 at *
        generalize hS5 : headT r5 = S5 at *
        generalize hrt5 : r5.tail = rt5 at *
        have HP5 : Hid (placeOf long r5 = P5) := hP5
        clear hP5 hS5 hrt5
        go_wp2_with fail
        refine gk.mono ?_
        rintro e w6 ⟨rfl, hto6⟩
        obtain ⟨⟨vt6, h6⟩, hk6⟩ := hto6
        have hlt6 := h6.lt
        have hh6 : w6.heap[w3.heap.size]? = some (.cells #[.int .i64 (P : Int), tx S] 55 (0, 0)) := cells_keep hk6 HH.out (by omega)
        have hlt36 : w3.heap.size < w6.heap.size := (Array.getElem?_eq_some_iff.1 hh6).1
        have q0 : w6.cell? ⟨w3.heap.size, 0, none⟩ = some (.int .i64 (P : Int)) := by rw [cell_heap hh6]; rfl
        have q1 : w6.cell? ⟨w3.heap.size, 1, none⟩ = some (tx S) := by rw [cell_heap hh6]; rfl
        have hA6 : Below w6.heap.size w6 (w6.alloc (.cells #[.int .i64 (P5 : Int), tx S5] 55)) := (Below.refl _ _).alloc (Nat.le_refl _) _
        have HK6 : Hid (KeepB b w (w6.alloc (.cells #[.int .i64 (P5 : Int), tx S5] 55))) := (Keep.trans HK5.out hk6).trans (Keep.below _ hA6)
        by_cases hz : S5 = [41]
        · have HT6 := tr_keep (tr_keep HT5.out.1 hk6) (Keep.below _ hA6)
          have HU6 := tr_keep (tr_keep HT5.out.2 hk6) (Keep.below _ hA6)
          obtain ⟨hp1, hp2⟩ := two_parts (h6.later hA6).lt HT6 HU6
          have hB : Below (w6.alloc (.cells #[.int .i64 (P5 : Int), tx S5] 55)).heap.size (w6.alloc (.cells #[.int .i64 (P5 : Int), tx S5] 55)) ((w6.alloc (.cells #[.int .i64 (P5 : Int), tx S5] 55)).alloc (.cells #[ptr k, ptr k5] 65)) := (Below.refl _ _).alloc (Nat.le_refl _) _
          have hrd : readT wide vars long (f + 1) ((p, [40]) :: l) = if t.kind = partOf (opOf S) ∧ u.kind = partOf (opOf S) then .ok (.two ((opOf S : Int), 0) t u, rt5) else .error (6, P) := pair_kinds HRD.out HBO.out.2 (by rw [HRU.out, HZ.out.1 hz]) rfl
          have gov := over_any ((h6.later hA6).later hB) P S [t, u] [k, k5] _ hp1 hp2 (by rw [HOBE.out.1, HOBE.out.2]; decide) (by rw [HOBE.out.1, HOBE.out.2]; rfl) (by have := HLL.out; have := HM2.out; have := HL.out.1; simp [sizes]; omega) (t.kind = partOf (opOf S) ∧ u.kind = partOf (opOf S)) (by rw [HOBE.out.1, HBO.out.1]; simp)
          have hsz : (w6.alloc (.cells #[.int .i64 (P5 : Int), tx S5] 55)).heap.size = w6.heap.size + 1 := by simp
          rw [hsz] at gov
          have GOV : Hid (Calls Tryd.prog 110 #[ptr b, .agg #[.int .i64 (P : Int), tx S], .slice (some ⟨w6.heap.size + 1, 0, none⟩) 2 2] ((w6.alloc (.cells #[.int .i64 (P5 : Int), tx S5] 55)).alloc (.cells #[ptr k, ptr k5] 65)) fun e w' => ∃ a, e = .returned (.pointer a) ∧ PTermQ wide vars long (f + 1) b ((p, [40]) :: l) w (.returned (.pointer a)) w') := by
            refine gov.mono ?_
            have hKK : KeepB b w ((w6.alloc (.cells #[.int .i64 (P5 : Int), tx S5] 55)).alloc (.cells #[ptr k, ptr k5] 65)) := Keep.trans HK6.out (Keep.below _ hB)
            rintro e w' (⟨y, k', rfl, htr', hto'⟩ | ⟨y, rfl, hto'⟩)
            · refine ⟨_, rfl, Or.inl ⟨.two ((opOf S : Int), 0) t u, rt5, k', ?_, rfl, ?_, hto'.trans hKK⟩⟩
              · rw [hrd, if_pos y]
              · rw [HOBE.out.1, HBO.out.1] at htr'
                exact htr'
            · refine ⟨_, rfl, Or.inr ⟨6, P, rt5, ?_, rfl, hto'.trans hKK⟩⟩
              rw [hrd, if_neg y]
          clear gk hk6 h6 HT6 HU6 hp1 hp2 hB hrd gov hsz hA6 HK6 HT5 HK5 HRU HZ HRD HBO HOBE HLL HM2 HL HH hh6 HP5
          subst hz
          go_wp2_with fail
          refine (Hid.out GOV).mono ?_
          rintro e w7 ⟨a, rfl, hq⟩
          have HQ : Hid (PTermQ wide vars long (f + 1) b ((p, [40]) :: l) w (.returned (.pointer a)) w7) := hq
          clear GOV hq
          go_wp2_with fail
          go_ret
          exact HQ.out
        · have gf := fail_any (h6.later hA6) 3 (P5 : Int)
          have GF : Hid (Calls Tryd.prog 76 #[ptr b, .int .i64 3, .int .i64 (P5 : Int)] (w6.alloc (.cells #[.int .i64 (P5 : Int), tx S5] 55)) fun e w' => e = .returned (.pointer none) ∧ PTermQ wide vars long (f + 1) b ((p, [40]) :: l) w (.returned (.pointer none)) w') := gf.mono fun e w' ⟨he, hr⟩ => ⟨he, Or.inr ⟨3, P5, _, by rw [pair_take HRD.out HBO.out.2 HRU.out (HZ.out.2 hz), HP5.out], rfl, hr.trans HK6.out⟩⟩
          have hzb : (S5 == [41]) = false := beq_eq_false_iff_ne.2 hz
          clear gk hk6 h6 hA6 HK6 HT5 HK5 HRU HZ HRD HBO HOBE HLL HM2 HL HH hh6 HP5 gf hz
          go_wp2_with fail
          refine (Hid.out GF).mono ?_
          rintro e w7 ⟨rfl, hq⟩
          have HQ : Hid (PTermQ wide vars long (f + 1) b ((p, [40]) :: l) w (.returned (.pointer none)) w7) := hq
          clear GF hq
          go_wp2_with fail
          go_ret
          exact HQ.out
      · have HQ : Hid (PTermQ wide vars long (f + 1) b ((p, [40]) :: l) w (.returned (.pointer none)) w5) := Or.inr ⟨c, q, l', pair_err2 HRD.out HBO.out.2 hr5, rfl, hto5.trans HK3.out⟩
        clear gt2 hr5 hto5 HRD HBO HK3 HT3 HL HOK2 HLL
        go_wp2_with fail
        go_ret
        exact HQ.out
  · have HQ : Hid (PTermQ wide vars long (f + 1) b ((p, [40]) :: l) w (.returned (.pointer none)) w2) := HE.out c q l' w2 hr hto
    clear gt HE HL HIH hr hto
    go_wp2_with fail
    go_ret
    exact HQ.out
end Go.Proofs.YtkfplichekebdaaDoor

namespace Go.Proofs.YtkfplichekebdaaDoor
open Go Go.RowKit
open M
set_option linter.unusedVariables false

/-- what is known behind the first token -/
structure Hd (w w3 : World) (b : Nat) (wide vars : Int) (long : Nat) (l : List M.Tok) (P : Nat) (S : Tx) : Prop where
  at_ : ∃ vt, PrAt (w3.alloc (.cells #[.int .i64 (P : Int), tx S] 55)) b wide vars long vt l 0 0
  keep : KeepB b w (w3.alloc (.cells #[.int .i64 (P : Int), tx S] 55))
  low : 0 < w3.heap.size
  flip : w3.cell? ⟨0, 13, none⟩ = some (tx [126])
  no : w3.cell? ⟨0, 19, none⟩ = some (tx [33])
theorem hd_of {w w3 : World} {b : Nat} {wide vars : Int} {long : Nat} {l : List M.Tok} (h : PrTo w w3 b wide vars long l 0 0) (P : Nat) (S : Tx) : Hd w w3 b wide vars long l P S := by
  obtain ⟨⟨vt, h3⟩, hk⟩ := h
  have hA : Below w3.heap.size w3 (w3.alloc (.cells #[.int .i64 (P : Int), tx S] 55)) := (Below.refl _ _).alloc (Nat.le_refl _) _
  exact ⟨⟨vt, h3.later hA⟩, Keep.trans hk (Keep.below _ hA), h3.laid.signs.lt, h3.laid.signs.cell 13 (by omega), h3.laid.signs.cell 19 (by omega)⟩
set_option maxRecDepth 100000 in
set_option maxHeartbeats 2000000 in
theorem pterm_pair {wide vars : Int} (hv : vars ≤ 4) {long f : Nat} (ih : PTermP wide vars long f) {w : World} {b : Nat} {vt : Value} {p : Nat} {l : List M.Tok} (h : PrAt w b wide vars long vt ((p, [40]) :: l) 0 0) (hok : ∀ x ∈ l, 1 ≤ x.2.length ∧ x.2.length ≤ 800) (hf : l.length < f) :
    Calls Tryd.prog 75 #[ptr b] w (PTermQ wide vars long (f + 1) b ((p, [40]) :: l) w) := by
  have gk := take_cons h
  have HJ : Hid (∀ w3, PrTo w w3 b wide vars long l 0 0 → Calls Tryd.prog 96 #[ptr b] (w3.alloc (.cells #[.int .i64 (p : Int), tx [40]] 55)) fun e w' => ∃ a, e = .returned (.pointer a) ∧ PTermQ wide vars long (f + 1) b ((p, [40]) :: l) w (.returned (.pointer a)) w') := fun w3 hto => by
    have hd := hd_of hto p [40]
    obtain ⟨vt3, h3⟩ := hd.at_
    refine (joined_any (p := p) hv ih h3 hok hf).mono ?_
    intro e w' hq
    obtain ⟨a, rfl⟩ := hq.ends
    exact ⟨a, rfl, hq.since hd.keep⟩
  clear h ih hok hf
  go_enter Tryd.func75, Tryd.ntmps75
  go_wp2_with fail
  refine gk.mono ?_
  rintro e w3 ⟨rfl, hto⟩
  have gj := HJ.out w3 hto
  clear gk HJ hto
  go_wp2_with fail
  refine gj.mono ?_
  rintro e w4 ⟨a, rfl, hq⟩
  have HQ : Hid (PTermQ wide vars long (f + 1) b ((p, [40]) :: l) w (.returned (.pointer a)) w4) := hq
  clear gj hq
  go_wp2_with fail
  go_ret
  exact HQ.out
set_option maxRecDepth 100000 in
set_option maxHeartbeats 2000000 in
theorem pterm_turn {wide vars : Int} (hv : vars ≤ 4) {long f : Nat} (ih : PTermP wide vars long f) {w : World} {b : Nat} {vt : Value} {p : Nat} {s : Tx} {l : List M.Tok} (h : PrAt w b wide vars long vt ((p, s) :: l) 0 0) (hs : s = [126] ∨ s = [33]) (hok : ∀ x ∈ l, 1 ≤ x.2.length ∧ x.2.length ≤ 800) (hf : l.length < f) :
    Calls Tryd.prog 75 #[ptr b] w (PTermQ wide vars long (f + 1) b ((p, s) :: l) w) := by
  have gk := take_cons h
  have HJ : Hid (∀ w3, PrTo w w3 b wide vars long l 0 0 → Calls Tryd.prog 97 #[ptr b, .agg #[.int .i64 (p : Int), tx s]] (w3.alloc (.cells #[.int .i64 (p : Int), tx s] 55)) fun e w' => ∃ a, e = .returned (.pointer a) ∧ PTermQ wide vars long (f + 1) b ((p, s) :: l) w (.returned (.pointer a)) w') := fun w3 hto => by
    have hd := hd_of hto p s
    obtain ⟨vt3, h3⟩ := hd.at_
    refine (turned_any (p := p) hv ih h3 hs hok hf).mono ?_
    intro e w' hq
    obtain ⟨a, rfl⟩ := hq.ends
    exact ⟨a, rfl, hq.since hd.keep⟩
  have HH : Hid (∀ w3, PrTo w w3 b wide vars long l 0 0 → 0 < w3.heap.size ∧ w3.cell? ⟨0, 13, none⟩ = some (tx [126]) ∧ w3.cell? ⟨0, 19, none⟩ = some (tx [33])) := fun w3 hto => ⟨(hd_of hto 0 []).low, (hd_of hto 0 []).flip, (hd_of hto 0 []).no⟩
  clear h ih hok hf
  rcases hs with rfl | rfl
  · go_enter Tryd.func75, Tryd.ntmps75
    go_wp2_with fail
    refine gk.mono ?_
    rintro e w3 ⟨rfl, hto⟩
    have gj := HJ.out w3 hto
    obtain ⟨glow, s13, s19⟩ := HH.out w3 hto
    clear gk HJ hto HH
    go_wp2_with fail
    refine gj.mono ?_
    rintro e w4 ⟨a, rfl, hq⟩
    have HQ : Hid (PTermQ wide vars long (f + 1) b ((p, [126]) :: l) w (.returned (.pointer a)) w4) := hq
    clear gj hq
    go_wp2_with fail
    go_ret
    exact HQ.out
  · go_enter Tryd.func75, Tryd.ntmps75
    go_wp2_with fail
    refine gk.mono ?_
    rintro e w3 ⟨rfl, hto⟩
    have gj := HJ.out w3 hto
    obtain ⟨glow, s13, s19⟩ := HH.out w3 hto
    clear gk HJ hto HH
    go_wp2_with fail
    refine gj.mono ?_
    rintro e w4 ⟨a, rfl, hq⟩
    have HQ : Hid (PTermQ wide vars long (f + 1) b ((p, [33]) :: l) w (.returned (.pointer a)) w4) := hq
    clear gj hq
    go_wp2_with fail
    go_ret
    exact HQ.out
set_option maxRecDepth 100000 in
set_option maxHeartbeats 4000000 in
theorem pterm_other {wide vars : Int} (hv : vars ≤ 4) (hv0 : 0 ≤ vars) {long f : Nat} {w : World} {b : Nat} {vt : Value} {l0 l : List M.Tok} (P : Nat) (S : Tx) (gk : Calls Tryd.prog 95 #[ptr b] w fun e w' => e = .returned (.agg #[.int .i64 (P : Int), tx S]) ∧ PrTo w w' b wide vars long l 0 0)
    (hs : S.length ≤ 800) (h1 : S ≠ [40]) (h2 : S ≠ [126]) (h3 : S ≠ [33]) (hR1 : isLeaf S = true → readT wide vars long (f + 1) l0 = match leafRd wide vars S with | .error c => .error (c, P) | .ok nd => .ok (.leaf nd, l)) (hR2 : isLeaf S = false → readT wide vars long (f + 1) l0 = .error (3, P)) :
    Calls Tryd.prog 75 #[ptr b] w (PTermQ wide vars long (f + 1) b l0 w) := by
  have HJ : Hid (∀ w3 w4, PrTo w w3 b wide vars long l 0 0 → Below (w3.alloc (.cells #[.int .i64 (P : Int), tx S] 55)).heap.size (w3.alloc (.cells #[.int .i64 (P : Int), tx S] 55)) w4 → ∃ vt4, PrAt w4 b wide vars long vt4 l 0 0 ∧ KeepB b w w4 ∧ w4.cell? ⟨w3.heap.size, 0, none⟩ = some (.int .i64 (P : Int)) ∧ w4.cell? ⟨w3.heap.size, 1, none⟩ = some (tx S)) := fun w3 w4 hto hb => by
    have hd := hd_of hto P S
    obtain ⟨vt3, h3⟩ := hd.at_
    refine ⟨vt3, h3.later hb, Keep.trans hd.keep (Keep.below _ hb), ?_, ?_⟩
    · rw [hb.cell (p := ⟨w3.heap.size, 0, none⟩) (by simp)]
      simp
    · rw [hb.cell (p := ⟨w3.heap.size, 1, none⟩) (by simp)]
      simp
  have HH : Hid (∀ w3, PrTo w w3 b wide vars long l 0 0 → 0 < w3.heap.size ∧ w3.cell? ⟨0, 13, none⟩ = some (tx [126]) ∧ w3.cell? ⟨0, 19, none⟩ = some (tx [33])) := fun w3 hto => ⟨(hd_of hto 0 []).low, (hd_of hto 0 []).flip, (hd_of hto 0 []).no⟩
  have n1 : (S == [40]) = false := beq_eq_false_iff_ne.2 h1
  have n2 : (S == [126]) = false := beq_eq_false_iff_ne.2 h2
  have n3 : (S == [33]) = false := beq_eq_false_iff_ne.2 h3
  have GD : Hid (∀ w1, Calls Tryd.prog 59 #[tx S] w1 fun e w' => e = .returned (.int .i64 ((S.takeWhile isDig).length : Int)) ∧ Below w1.heap.size w1 w') := fun w1 => digitsSize_any S (by omega) w1
  have GL : Hid (∀ w1, Calls Tryd.prog 60 #[tx S] w1 fun e w' => e = .returned (.int .i64 ((S.takeWhile isLet).length : Int)) ∧ Below w1.heap.size w1 w') := fun w1 => lettersSize_any S (by omega) w1
  have HDd : Hid ((0 < (S.takeWhile isDig).length → ∃ ch q, S = ch :: q ∧ isDig ch = true) ∧ (¬ 0 < (S.takeWhile isDig).length → 0 < (S.takeWhile isLet).length → ∃ ch q, S = ch :: q ∧ isDig ch = false ∧ isLet ch = true) ∧ (¬ 0 < (S.takeWhile isDig).length → ¬ 0 < (S.takeWhile isLet).length → isLeaf S = false)) := by
    match S with
    | [] => exact ⟨fun h => by simp at h, fun _ h => by simp at h, fun _ _ => rfl⟩
    | ch :: q =>
      cases hd : isDig ch with
      | true => exact ⟨fun _ => ⟨ch, q, rfl, hd⟩, fun h => absurd (by simp [List.takeWhile, hd]) h, fun h => absurd (by simp [List.takeWhile, hd]) h⟩
      | false =>
        cases hl : isLet ch with
        | true => exact ⟨fun h => by simp [List.takeWhile, hd] at h, fun _ _ => ⟨ch, q, rfl, hd, hl⟩, fun _ h => absurd (by simp [List.takeWhile, hl]) h⟩
        | false => exact ⟨fun h => by simp [List.takeWhile, hd] at h, fun _ h => by simp [List.takeWhile, hl] at h, fun _ _ => by simp [isLeaf, hd, hl]⟩
  have HR1 : Hid (isLeaf S = true → readT wide vars long (f + 1) l0 = match leafRd wide vars S with | .error c => .error (c, P) | .ok nd => .ok (.leaf nd, l)) := hR1
  have HR2 : Hid (isLeaf S = false → readT wide vars long (f + 1) l0 = .error (3, P)) := hR2
  have hdl : (S.takeWhile isDig).length ≤ 800 := Nat.le_trans (List.takeWhile_sublist _).length_le hs
  have hll : (S.takeWhile isLet).length ≤ 800 := Nat.le_trans (List.takeWhile_sublist _).length_le hs
  clear hR1 hR2 h1 h2 h3
  generalize (S.takeWhile isDig).length = nd at *
  generalize (S.takeWhile isLet).length = nl at *
  go_enter Tryd.func75, Tryd.ntmps75
  go_wp2_with fail
  refine gk.mono ?_
  rintro e w3 ⟨rfl, hto⟩
  obtain ⟨glow, s13, s19⟩ := HH.out w3 hto
  have HTO : Hid (PrTo w w3 b wide vars long l 0 0) := hto
  clear gk hto HH
  go_wp2_with fail
  refine (GD.out _).mono ?_
  rintro e w4 ⟨rfl, hb4⟩
  obtain ⟨vt4, h4, hk4, q0, q1⟩ := HJ.out w3 w4 HTO.out hb4
  have HB4 : Hid (Below (w3.alloc (.cells #[.int .i64 (P : Int), tx S] 55)).heap.size (w3.alloc (.cells #[.int .i64 (P : Int), tx S] 55)) w4) := hb4
  by_cases hnd : 0 < nd
  · obtain ⟨ch, q, hS, hdig⟩ := HDd.out.1 hnd
    have hlf : isLeaf S = true := by rw [hS]; simp [isLeaf, hdig]
    have hrd := HR1.out hlf
    have GN : Hid (Calls Tryd.prog 98 #[ptr b, .agg #[.int .i64 (P : Int), tx S]] w4 fun e w' => ∃ a, e = .returned (.pointer a) ∧ PTermQ wide vars long (f + 1) b l0 w (.returned (.pointer a)) w') := by
      refine (number_any h4 P S hs).mono ?_
      have hlr : leafRd wide vars S = if isNum S = true ∧ goodB wide (readN S) = true then .ok (1, (readN S : Int)) else .error 4 := by
        rw [hS]
        simp only [leafRd]
        rw [if_pos hdig]
      rintro e w' (⟨y, k, rfl, htr, hto'⟩ | ⟨y, rfl, hto'⟩)
      · exact ⟨_, rfl, Or.inl ⟨_, l, k, by rw [hrd, hlr, if_pos y], rfl, htr, hto'.trans hk4⟩⟩
      · exact ⟨_, rfl, Or.inr ⟨4, P, l, by rw [hrd, hlr, if_neg y], rfl, hto'.trans hk4⟩⟩
    have hnd' : (0 : Int) < (nd : Int) := by omega
    clear h4 hk4 hb4 HJ HR1 HR2 HDd GL GD HTO hS hlf hrd hnd
    go_wp2_with fail
    refine (Hid.out GN).mono ?_
    rintro e w5 ⟨a, rfl, hq⟩
    have HQ : Hid (PTermQ wide vars long (f + 1) b l0 w (.returned (.pointer a)) w5) := hq
    clear GN hq
    go_wp2_with fail
    go_ret
    exact HQ.out
  · have hnd' : decide ((0 : Int) < (nd : Int)) = false := decide_eq_false (by omega)
    have hnd0 : nd = 0 := by omega
    subst hnd0
    clear h4 hk4 hb4
    go_wp2_with fail
    refine (GL.out _).mono ?_
    rintro e w5 ⟨rfl, hb5⟩
    obtain ⟨vt5, h5, hk5, r0, r1⟩ := HJ.out w3 w5 HTO.out (HB4.out.trans (hb5.mono HB4.out.size))
    by_cases hnl : 0 < nl
    · obtain ⟨ch, q, hS, hdig, hlet⟩ := HDd.out.2.1 (by omega) hnl
      have hlf : isLeaf S = true := by rw [hS]; simp [isLeaf, hlet]
      have hrd := HR1.out hlf
      have GN : Hid (Calls Tryd.prog 99 #[ptr b, .agg #[.int .i64 (P : Int), tx S]] w5 fun e w' => ∃ a, e = .returned (.pointer a) ∧ PTermQ wide vars long (f + 1) b l0 w (.returned (.pointer a)) w') := by
        refine (named_any h5 P S hs hv hv0 hS hlet).mono ?_
        rintro e w' (⟨x, k, hx, rfl, htr, hto'⟩ | ⟨c, hx, rfl, hto'⟩)
        · exact ⟨_, rfl, Or.inl ⟨_, l, k, by rw [hrd, hx], rfl, htr, hto'.trans hk5⟩⟩
        · exact ⟨_, rfl, Or.inr ⟨c, P, l, by rw [hrd, hx], rfl, hto'.trans hk5⟩⟩
      have hnl' : (0 : Int) < (nl : Int) := by omega
      clear h5 hk5 hb5 HJ HR1 HR2 HDd GL GD HTO HB4 hS hlf hrd hnl
      go_wp2_with fail
      refine (Hid.out GN).mono ?_
      rintro e w6 ⟨a, rfl, hq⟩
      have HQ : Hid (PTermQ wide vars long (f + 1) b l0 w (.returned (.pointer a)) w6) := hq
      clear GN hq
      go_wp2_with fail
      go_ret
      exact HQ.out
    · have hrd := HR2.out (HDd.out.2.2 (by omega) hnl)
      have GF : Hid (Calls Tryd.prog 76 #[ptr b, .int .i64 3, .int .i64 (P : Int)] w5 fun e w' => e = .returned (.pointer none) ∧ PTermQ wide vars long (f + 1) b l0 w (.returned (.pointer none)) w') := (fail_any h5 3 (P : Int)).mono fun e w' ⟨he, hr⟩ => ⟨he, Or.inr ⟨3, P, l, hrd, rfl, hr.trans hk5⟩⟩
      have hnl0 : nl = 0 := by omega
      subst hnl0
      clear h5 hk5 hb5 HJ HR1 HR2 HDd GL GD HTO HB4 hrd
      go_wp2_with fail
      refine (Hid.out GF).mono ?_
      rintro e w6 ⟨rfl, hq⟩
      have HQ : Hid (PTermQ wide vars long (f + 1) b l0 w (.returned (.pointer none)) w6) := hq
      clear GF hq
      go_wp2_with fail
      go_ret
      exact HQ.out
end Go.Proofs.YtkfplichekebdaaDoor

namespace Go.Proofs.YtkfplichekebdaaDoor
open Go Go.RowKit
open M
set_option linter.unusedVariables false

/-- how the model's reader ends -/
def TermQ (wide vars : Int) (long f b Bo : Nat) (vo : Value) (l : List M.Tok) (o : List Nd) (w : World) (e : Ending) (w' : World) : Prop :=
  (∃ t r, readT wide vars long f l = .ok (t, r) ∧ e = .returned (.int .i64 t.kind) ∧ RdTo w w' b Bo vo wide vars long r (o ++ t.flat) 0 0) ∨
  (∃ c p l' o', readT wide vars long f l = .error (c, p) ∧ e = .returned (.int .i64 0) ∧ RdTo w w' b Bo vo wide vars long l' o' (c : Int) (p : Int))
/-- what the model's reader does with tokens -/
def TermP (wide vars : Int) (long f : Nat) : Prop := ∀ (w : World) (b Bo : Nat) (vt vo : Value) (l : List M.Tok) (o : List Nd), RdAt w b Bo wide vars long vt vo l o 0 0 → o.length + l.length ≤ 900 → (∀ x ∈ l, 1 ≤ x.2.length ∧ x.2.length ≤ 800) → l.length < f →
  Calls Tryd.prog 45 #[ptr b] w (TermQ wide vars long f b Bo vo l o w)
set_option maxRecDepth 100000 in
set_option maxHeartbeats 1000000 in
theorem term_nil {wide vars : Int} {long f : Nat} {w : World} {b Bo : Nat} {vt vo : Value} {o : List Nd} (h : RdAt w b Bo wide vars long vt vo [] o 0 0) :
    Calls Tryd.prog 45 #[ptr b] w (TermQ wide vars long (f + 1) b Bo vo [] o w) := by
  have gf := fault_any h 3
  obtain ⟨c0, c1, c2, c3, c4, c5, c6⟩ := h.cell
  obtain ⟨ta, tc, hsh⟩ := h.toks.shape
  subst hsh
  clear h
  go_enter Tryd.func45, Tryd.ntmps45
  go_wp2_with fail
  refine gf.mono ?_
  rintro e w1 ⟨rfl, hr⟩
  have HR : Hid (RdTo w w1 b Bo vo wide vars long [] o 3 _) := hr
  clear gf hr
  go_wp2_with fail
  go_ret
  exact Or.inr ⟨3, long, [], o, rfl, rfl, HR.out⟩
theorem kind_pos_of {wide vars : Int} {t : Tr} (h : t.Ok wide vars) : 1 ≤ t.kind ∧ t.kind ≤ 2 := by
  have h0 : ¬ ownOf t.nd.1 = 0 := by
    cases t with
    | leaf x => exact h.1
    | one x a => exact h.1
    | two x a b => exact h.1
  unfold Tr.kind
  unfold ownOf at h0 ⊢
  split
  · omega
  · split
    · omega
    · rename_i h1 h2
      rw [if_neg h1, if_neg h2] at h0
      exact absurd rfl h0
set_option maxRecDepth 100000 in
set_option maxHeartbeats 2000000 in
theorem term_leaf {wide vars : Int} {long f : Nat} {w : World} {b Bo : Nat} {vt vo : Value} {p : Nat} {ch : UInt8} {q : Tx} {l : List M.Tok} {o : List Nd} (h : RdAt w b Bo wide vars long vt vo ((p, ch :: q) :: l) o 0 0) (hol : o.length + (l.length + 1) ≤ 900) (hs : (ch :: q).length ≤ 800) (hlf : isLeaf (ch :: q) = true) :
    Calls Tryd.prog 45 #[ptr b] w (TermQ wide vars long (f + 1) b Bo vo ((p, ch :: q) :: l) o w) := by
  have hA : Below w.heap.size w (w.alloc (.cells #[.int .i64 (p : Int), tx (ch :: q)] 55)) := (Below.refl _ _).alloc (Nat.le_refl _) _
  have gl := leaf_all (h.later hA) (by omega) hs hlf
  have HQ : Hid (∀ (e : Ending) w', ((∃ nd, leafRd wide vars (ch :: q) = .ok nd ∧ e = .returned (.int .i64 (ownOf nd.1)) ∧ RdTo (w.alloc (.cells #[.int .i64 (p : Int), tx (ch :: q)] 55)) w' b Bo vo wide vars long l (o ++ [nd]) 0 0) ∨ (∃ c, leafRd wide vars (ch :: q) = .error c ∧ e = .returned (.int .i64 0) ∧ RdTo (w.alloc (.cells #[.int .i64 (p : Int), tx (ch :: q)] 55)) w' b Bo vo wide vars long ((p, ch :: q) :: l) o (c : Int) (p : Int))) → ∃ v, e = .returned (.int .i64 v) ∧ TermQ wide vars long (f + 1) b Bo vo ((p, ch :: q) :: l) o w (.returned (.int .i64 v)) w') := by
    rintro e w' (⟨nd, h1, rfl, hr⟩ | ⟨c, h1, rfl, hr⟩)
    · refine ⟨_, rfl, Or.inl ⟨.leaf nd, l, ?_, rfl, hr.trans (Keep.below vo hA)⟩⟩
      simp only [readT]
      rw [if_pos hlf, h1]
    · refine ⟨_, rfl, Or.inr ⟨c, p, _, _, ?_, rfl, hr.trans (Keep.below vo hA)⟩⟩
      simp only [readT]
      rw [if_pos hlf, h1]
  obtain ⟨c0, c1, c2, c3, c4, c5, c6⟩ := h.cell
  obtain ⟨g, off, cap, a, c, rfl, hg, t0, t1, hcut, _, hl1⟩ := h.pop
  have he := tx_at (l := ch :: q) (j := 0) (c := ch) rfl (by rw [tx_size]; simp)
  have hsz : (0 : Int) < ((ch :: q).length : Int) := by simp
  have GL : Hid (∀ w1 : World, Calls Tryd.prog 57 #[.int .u8 (ch.toNat : Int)] w1 fun e w' => e = .returned (.bool (isLet ch)) ∧ w' = w1) := fun w1 => l3Letter_any ch w1
  have GD : Hid (∀ w1 : World, Calls Tryd.prog 56 #[.int .u8 (ch.toNat : Int)] w1 fun e w' => e = .returned (.bool (isDig ch)) ∧ w' = w1) := fun w1 => l3Digit_any ch w1
  have hdl : isDig ch = true ∨ (isDig ch = false ∧ isLet ch = true) := by
    cases hd : isDig ch with
    | true => exact Or.inl rfl
    | false => exact Or.inr ⟨rfl, by simpa [isLeaf, hd] using hlf⟩
  clear h hlf hA
  generalize l.length = ln at *
  generalize isDig ch = D at *
  generalize isLet ch = L at *
  rcases hdl with rfl | ⟨rfl, rfl⟩
  · go_enter Tryd.func45, Tryd.ntmps45
    go_wp2_with fail
    refine (GD.out _).mono ?_
    rintro e w2 ⟨rfl, rfl⟩
    go_wp2_with fail
    refine gl.mono ?_
    intro e w3 hq
    obtain ⟨v, rfl, h3⟩ := HQ.out e w3 hq
    have H3 : Hid _ := h3
    clear hq h3 gl HQ
    go_wp2_with fail
    go_ret
    exact H3.out
  · go_enter Tryd.func45, Tryd.ntmps45
    go_wp2_with fail
    refine (GD.out _).mono ?_
    rintro e w2 ⟨rfl, rfl⟩
    go_wp2_with fail
    refine (GL.out _).mono ?_
    rintro e w2 ⟨rfl, rfl⟩
    go_wp2_with fail
    refine gl.mono ?_
    intro e w3 hq
    obtain ⟨v, rfl, h3⟩ := HQ.out e w3 hq
    have H3 : Hid _ := h3
    clear hq h3 gl HQ
    go_wp2_with fail
    go_ret
    exact H3.out
end Go.Proofs.YtkfplichekebdaaDoor

namespace Go.Proofs.YtkfplichekebdaaDoor
open Go Go.RowKit
open M
set_option linter.unusedVariables false

/-- the token that was taken first stays as it is -/
theorem first_kept {w w2 : World} {b Bo : Nat} {wide vars : Int} {long : Nat} {vt vo v vo2 : Value} {p : Nat} {s : Tx} {l : List M.Tok} {o : List Nd} {code at_ : Int} (h : RdAt w b Bo wide vars long vt vo l o code at_) (hk : Keep b ((w.setCell ⟨b, 2, none⟩ v).alloc (.cells #[.int .i64 (p : Int), tx s] 55)) w2 vo vo2) :
    w2.cell? ⟨w.heap.size, 0, none⟩ = some (.int .i64 (p : Int)) ∧ w2.cell? ⟨w.heap.size, 1, none⟩ = some (tx s) := by
  have hlt : b < w.heap.size := Nat.lt_of_lt_of_le h.low h.bound
  have hs : (w.setCell ⟨b, 2, none⟩ v).heap.size = w.heap.size := set_size _ _ _
  have e := hk.block w.heap.size (by simp [hs]) (by omega) (fun e => by have := (own_block h.own e.symm).2; omega)
  have e2 : ((w.setCell ⟨b, 2, none⟩ v).alloc (.cells #[.int .i64 (p : Int), tx s] 55)).heap[w.heap.size]? = some (.cells #[.int .i64 (p : Int), tx s] 55 (0, 0)) := by
    have key : ∀ (u : World) (o : Obj), (u.alloc o).heap[u.heap.size]? = some o := by
      intro u o
      unfold World.alloc
      simp
    have := key (w.setCell ⟨b, 2, none⟩ v) (.cells #[.int .i64 (p : Int), tx s] 55)
    rw [hs] at this
    exact this
  rw [e2] at e
  constructor <;> (rw [cell_heap e]; rfl)
/-- a node over one part, or a fault -/
theorem kinds_one {wide vars : Int} {long f : Nat} {w w1 w2 : World} {b Bo : Nat} {vo : Value} {p : Nat} {s : Tx} {l r1 : List M.Tok} {o : List Nd} {a : Tr} (hs : s = [126] ∨ s = [33])
    (hread : readT wide vars long (f + 1) ((p, s) :: l) = if a.kind = partOf (opOne s) then .ok (.one (opOne s, 0) a, r1) else .error (6, p))
    (hk : Keep b w w1 vo vo) (hr : RdTo w1 w2 b Bo vo wide vars long r1 (o ++ a.flat) 0 0) (hol : (o ++ a.flat).length < 1000) :
    Calls Tryd.prog 73 #[ptr b, .int .i64 (opOne s), .int .i64 (p : Int), .int .i64 a.kind, .int .i64 0] w2 fun e w' => ∃ v, e = .returned (.int .i64 v) ∧ TermQ wide vars long (f + 1) b Bo vo ((p, s) :: l) o w (.returned (.int .i64 v)) w' := by
  obtain ⟨vt, vo2, h, hk2⟩ := hr
  obtain ⟨s1, s2, s3, s4⟩ := opOne_sign hs
  by_cases hq : a.kind = partOf (opOne s)
  · rw [if_pos hq] at hread
    refine (kinds_yes h (opOne s) p a.kind 0 hol (Or.inl ⟨s2, hq⟩)).mono ?_
    rintro e w' ⟨rfl, hr⟩
    refine ⟨_, rfl, Or.inl ⟨_, _, hread, rfl, ?_⟩⟩
    simp only [Tr.flat]
    rw [← List.append_assoc]
    exact hr.trans (hk.trans hk2)
  · rw [if_neg hq] at hread
    refine (kinds_no h (opOne s) p a.kind 0 (Or.inl ⟨s2, hq⟩)).mono ?_
    rintro e w' ⟨rfl, hr⟩
    exact ⟨_, rfl, Or.inr ⟨6, p, _, _, hread, rfl, hr.trans (hk.trans hk2)⟩⟩
set_option maxRecDepth 100000 in
set_option maxHeartbeats 2000000 in
theorem term_turn {wide vars : Int} (hv : vars ≤ 4) {long f : Nat} (ih : TermP wide vars long f) {w : World} {b Bo : Nat} {vt vo : Value} {p : Nat} {s : Tx} {l : List M.Tok} {o : List Nd} (h : RdAt w b Bo wide vars long vt vo ((p, s) :: l) o 0 0) (hs : s = [126] ∨ s = [33]) (hol : o.length + (l.length + 1) ≤ 900) (hok : ∀ x ∈ l, 1 ≤ x.2.length ∧ x.2.length ≤ 800) (hf : l.length < f) :
    Calls Tryd.prog 45 #[ptr b] w (TermQ wide vars long (f + 1) b Bo vo ((p, s) :: l) o w) := by
  have hread : readT wide vars long (f + 1) ((p, s) :: l) = match readT wide vars long f l with
      | .error e => .error e
      | .ok (a, r1) => if a.kind = partOf (opOne s) then .ok (.one (opOne s, 0) a, r1) else .error (6, p) := by
    simp only [readT]
    rw [if_neg (by rcases hs with rfl | rfl <;> decide), if_pos hs]
    rfl
  obtain ⟨c0, c1, c2, c3, c4, c5, c6⟩ := h.cell
  have hlt : b < w.heap.size := Nat.lt_of_lt_of_le h.low h.bound
  obtain ⟨g, off, cap, a, c, rfl, hg, t0, t1, hcut, hr2, hl1⟩ := h.pop
  have d2 : ∀ ob : Obj, (w.alloc ob).cell? ⟨b, 2, none⟩ = some (.slice (some ⟨g, off, none⟩) (l.length + 1) cap) := fun ob => (h.later ((Below.refl _ _).alloc (Nat.le_refl _) ob)).cell.2.2.1
  have f2 : ∀ ob : Obj, (w.alloc ob).frozen? ⟨b, 2, none⟩ = false := fun ob => frozen_heap (h.later ((Below.refl _ _).alloc (Nat.le_refl _) ob)).heap
  have hA : Below (w.setCell ⟨b, 2, none⟩ (.slice a l.length c)).heap.size (w.setCell ⟨b, 2, none⟩ (.slice a l.length c)) ((w.setCell ⟨b, 2, none⟩ (.slice a l.length c)).alloc (.cells #[.int .i64 (p : Int), tx s] 55)) := (Below.refl _ _).alloc (Nat.le_refl _) _
  have HK : Hid (Keep b w ((w.setCell ⟨b, 2, none⟩ (.slice a l.length c)).alloc (.cells #[.int .i64 (p : Int), tx s] 55)) vo vo) := ((Keep.refl b w vo).set 2 _).trans (Keep.below vo hA)
  have gt := ih _ b Bo _ _ l o (hr2.later hA) (by omega) hok hf
  have HC : Hid (∀ l' o' c' q' w2, RdTo ((w.setCell ⟨b, 2, none⟩ (.slice a l.length c)).alloc (.cells #[.int .i64 (p : Int), tx s] 55)) w2 b Bo vo wide vars long l' o' c' q' → w2.cell? ⟨w.heap.size, 0, none⟩ = some (.int .i64 (p : Int)) ∧ w2.cell? ⟨w.heap.size, 1, none⟩ = some (tx s)) := by
    intro l' o' c' q' w2 hto
    obtain ⟨_, _, _, hk⟩ := hto
    exact first_kept h hk
  have HE : Hid (∀ c' q l' o' w2, readT wide vars long f l = .error (c', q) → RdTo ((w.setCell ⟨b, 2, none⟩ (.slice a l.length c)).alloc (.cells #[.int .i64 (p : Int), tx s] 55)) w2 b Bo vo wide vars long l' o' (c' : Int) (q : Int) → TermQ wide vars long (f + 1) b Bo vo ((p, s) :: l) o w (.returned (.int .i64 0)) w2) := by
    intro c' q l' o' w2 hr hk
    rw [hr] at hread
    exact Or.inr ⟨c', q, _, _, hread, rfl, hk.trans HK.out⟩
  have HO : Hid (∀ (t : Tr) r1 w2, readT wide vars long f l = .ok (t, r1) → RdTo ((w.setCell ⟨b, 2, none⟩ (.slice a l.length c)).alloc (.cells #[.int .i64 (p : Int), tx s] 55)) w2 b Bo vo wide vars long r1 (o ++ t.flat) 0 0 → Calls Tryd.prog 73 #[ptr b, .int .i64 (opOne s), .int .i64 (p : Int), .int .i64 t.kind, .int .i64 0] w2 fun e w' => ∃ v, e = .returned (.int .i64 v) ∧ TermQ wide vars long (f + 1) b Bo vo ((p, s) :: l) o w (.returned (.int .i64 v)) w') := by
    intro t r1 w2 hr hk
    rw [hr] at hread
    obtain ⟨m, hm, hsz⟩ := readT_front _ _ _ _ _ _ _ hr
    refine kinds_one hs hread HK.out hk ?_
    have hml : m.length ≤ l.length := by rw [hm]; simp
    rw [List.length_append, Tr.flat_len]
    omega
  have HP : Hid (∀ (t : Tr) r1, readT wide vars long f l = .ok (t, r1) → 1 ≤ t.kind ∧ t.kind ≤ 2) := fun t r1 hr => kind_pos_of (readT_ok hv _ _ _ _ hr).2.1
  clear h hr2 hread hA
  generalize l.length = ln at *
  have GL : ∀ ch : UInt8, Hid (∀ w1 : World, Calls Tryd.prog 57 #[.int .u8 (ch.toNat : Int)] w1 fun e w' => e = .returned (.bool (isLet ch)) ∧ w' = w1) := fun ch w1 => l3Letter_any ch w1
  have GD : ∀ ch : UInt8, Hid (∀ w1 : World, Calls Tryd.prog 56 #[.int .u8 (ch.toNat : Int)] w1 fun e w' => e = .returned (.bool (isDig ch)) ∧ w' = w1) := fun ch w1 => l3Digit_any ch w1
  rcases hs with rfl | rfl
  · have GL1 : Hid (∀ w1 : World, Calls Tryd.prog 57 #[.int .u8 (126 : Int)] w1 fun e w' => e = .returned (.bool false) ∧ w' = w1) := (GL 126).out
    have GD1 : Hid (∀ w1 : World, Calls Tryd.prog 56 #[.int .u8 (126 : Int)] w1 fun e w' => e = .returned (.bool false) ∧ w' = w1) := (GD 126).out
    have HO1 : Hid (∀ (t : Tr) r1 w2, readT wide vars long f l = .ok (t, r1) → RdTo ((w.setCell ⟨b, 2, none⟩ (.slice a ln c)).alloc (.cells #[.int .i64 (p : Int), tx [126]] 55)) w2 b Bo vo wide vars long r1 (o ++ t.flat) 0 0 → Calls Tryd.prog 73 #[ptr b, .int .i64 13, .int .i64 (p : Int), .int .i64 t.kind, .int .i64 0] w2 fun e w' => ∃ v, e = .returned (.int .i64 v) ∧ TermQ wide vars long (f + 1) b Bo vo ((p, [126]) :: l) o w (.returned (.int .i64 v)) w') := HO.out
    clear GL GD HO
    go_enter Tryd.func45, Tryd.ntmps45
    go_wp2_with fail
    refine (GD1.out _).mono ?_
    rintro e w2 ⟨rfl, rfl⟩
    go_wp2_with fail
    refine (GL1.out _).mono ?_
    rintro e w2 ⟨rfl, rfl⟩
    go_wp2_with fail
    refine gt.mono ?_
    rintro e w3 (⟨t, r1, hr, rfl, hto⟩ | ⟨c', q, l', o', hr, rfl, hto⟩)
    · have gk := HO1.out t r1 w3 hr hto
      obtain ⟨d0, d1⟩ := HC.out _ _ _ _ _ hto
      have hkp := HP.out t r1 hr
      clear gt hr hto HE HO1 HP HC
      generalize t.kind = kk at *
      go_wp2_with fail
      refine gk.mono ?_
      rintro e w4 ⟨v, rfl, hq⟩
      have HQ : Hid _ := hq
      clear hq gk
      go_wp2_with fail
      go_ret
      exact HQ.out
    · have HQ : Hid (TermQ wide vars long (f + 1) b Bo vo ((p, [126]) :: l) o w (.returned (.int .i64 0)) w3) := HE.out c' q l' o' w3 hr hto
      clear gt hr hto HE HO1 HP HC
      go_wp2_with fail
      go_ret
      exact HQ.out
  · have GL1 : Hid (∀ w1 : World, Calls Tryd.prog 57 #[.int .u8 (33 : Int)] w1 fun e w' => e = .returned (.bool false) ∧ w' = w1) := (GL 33).out
    have GD1 : Hid (∀ w1 : World, Calls Tryd.prog 56 #[.int .u8 (33 : Int)] w1 fun e w' => e = .returned (.bool false) ∧ w' = w1) := (GD 33).out
    have HO1 : Hid (∀ (t : Tr) r1 w2, readT wide vars long f l = .ok (t, r1) → RdTo ((w.setCell ⟨b, 2, none⟩ (.slice a ln c)).alloc (.cells #[.int .i64 (p : Int), tx [33]] 55)) w2 b Bo vo wide vars long r1 (o ++ t.flat) 0 0 → Calls Tryd.prog 73 #[ptr b, .int .i64 19, .int .i64 (p : Int), .int .i64 t.kind, .int .i64 0] w2 fun e w' => ∃ v, e = .returned (.int .i64 v) ∧ TermQ wide vars long (f + 1) b Bo vo ((p, [33]) :: l) o w (.returned (.int .i64 v)) w') := HO.out
    clear GL GD HO
    go_enter Tryd.func45, Tryd.ntmps45
    go_wp2_with fail
    refine (GD1.out _).mono ?_
    rintro e w2 ⟨rfl, rfl⟩
    go_wp2_with fail
    refine (GL1.out _).mono ?_
    rintro e w2 ⟨rfl, rfl⟩
    go_wp2_with fail
    refine gt.mono ?_
    rintro e w3 (⟨t, r1, hr, rfl, hto⟩ | ⟨c', q, l', o', hr, rfl, hto⟩)
    · have gk := HO1.out t r1 w3 hr hto
      obtain ⟨d0, d1⟩ := HC.out _ _ _ _ _ hto
      have hkp := HP.out t r1 hr
      clear gt hr hto HE HO1 HP HC
      generalize t.kind = kk at *
      go_wp2_with fail
      refine gk.mono ?_
      rintro e w4 ⟨v, rfl, hq⟩
      have HQ : Hid _ := hq
      clear hq gk
      go_wp2_with fail
      go_ret
      exact HQ.out
    · have HQ : Hid (TermQ wide vars long (f + 1) b Bo vo ((p, [33]) :: l) o w (.returned (.int .i64 0)) w3) := HE.out c' q l' o' w3 hr hto
      clear gt hr hto HE HO1 HP HC
      go_wp2_with fail
      go_ret
      exact HQ.out
set_option maxRecDepth 100000 in
set_option maxHeartbeats 2000000 in
theorem term_none {wide vars : Int} {long f : Nat} {w : World} {b Bo : Nat} {vt vo : Value} {p : Nat} {ch : UInt8} {q : Tx} {l : List M.Tok} {o : List Nd} (h : RdAt w b Bo wide vars long vt vo ((p, ch :: q) :: l) o 0 0) (h1 : isLeaf (ch :: q) = false) (h2 : ¬ (ch :: q = [126] ∨ ch :: q = [33])) (h3 : ch :: q ≠ [40]) (hs : (ch :: q).length ≤ 800) :
    Calls Tryd.prog 45 #[ptr b] w (TermQ wide vars long (f + 1) b Bo vo ((p, ch :: q) :: l) o w) := by
  have hread : readT wide vars long (f + 1) ((p, ch :: q) :: l) = .error (3, p) := by
    simp only [readT]
    rw [if_neg (by rw [h1]; decide), if_neg h2, if_pos h3]
  have hA : Below w.heap.size w (w.alloc (.cells #[.int .i64 (p : Int), tx (ch :: q)] 55)) := (Below.refl _ _).alloc (Nat.le_refl _) _
  have gf := fault_any (h.later hA) 3
  obtain ⟨c0, c1, c2, c3, c4, c5, c6⟩ := h.cell
  obtain ⟨g, off, cap, a, c, rfl, hg, t0, t1, hcut, hr2, hl1⟩ := h.pop
  have hdl : isDig ch = false ∧ isLet ch = false := by simpa [isLeaf] using h1
  have GL : Hid (∀ w1 : World, Calls Tryd.prog 57 #[.int .u8 (ch.toNat : Int)] w1 fun e w' => e = .returned (.bool false) ∧ w' = w1) := fun w1 => by
    have g := l3Letter_any ch w1
    rw [hdl.2] at g
    exact g
  have GD : Hid (∀ w1 : World, Calls Tryd.prog 56 #[.int .u8 (ch.toNat : Int)] w1 fun e w' => e = .returned (.bool false) ∧ w' = w1) := fun w1 => by
    have g := l3Digit_any ch w1
    rw [hdl.1] at g
    exact g
  have he := tx_at (l := ch :: q) (j := 0) (c := ch) rfl (by rw [tx_size]; simp)
  have hsz : (0 : Int) < ((ch :: q).length : Int) := by simp
  have n1 : ((ch :: q : Tx) == [126]) = false := beq_eq_false_iff_ne.2 (fun e => h2 (Or.inl e))
  have n2 : ((ch :: q : Tx) == [33]) = false := beq_eq_false_iff_ne.2 (fun e => h2 (Or.inr e))
  have n3 : ((ch :: q : Tx) == [40]) = false := beq_eq_false_iff_ne.2 h3
  have HQ : Hid (∀ w2, RdTo (w.alloc (.cells #[.int .i64 (p : Int), tx (ch :: q)] 55)) w2 b Bo vo wide vars long ((p, ch :: q) :: l) o 3 (p : Int) → TermQ wide vars long (f + 1) b Bo vo ((p, ch :: q) :: l) o w (.returned (.int .i64 0)) w2) := fun w2 hr => Or.inr ⟨3, p, _, _, hread, rfl, hr.trans (Keep.below vo hA)⟩
  clear h hr2 hread h1 h2 h3 hdl hA
  generalize l.length = ln at *
  go_enter Tryd.func45, Tryd.ntmps45
  go_wp2_with fail
  refine (GD.out _).mono ?_
  rintro e w2 ⟨rfl, rfl⟩
  go_wp2_with fail
  refine (GL.out _).mono ?_
  rintro e w2 ⟨rfl, rfl⟩
  go_wp2_with fail
  refine gf.mono ?_
  rintro e w3 ⟨rfl, hr⟩
  have H3 : Hid (TermQ wide vars long (f + 1) b Bo vo ((p, ch :: q) :: l) o w (.returned (.int .i64 0)) w3) := HQ.out w3 hr
  clear hr gf HQ
  go_wp2_with fail
  go_ret
  exact H3.out
end Go.Proofs.YtkfplichekebdaaDoor

namespace Go.Proofs.YtkfplichekebdaaDoor
open Go Go.RowKit
open M
set_option linter.unusedVariables false

/-- a node over two parts, or a fault -/
theorem kinds_two {wide vars : Int} {long f : Nat} {w w1 w2 : World} {b Bo : Nat} {vo vo1 : Value} {L r4 : List M.Tok} {o : List Nd} {t u : Tr} {op q : Nat} (hm : manyOf op = 2)
    (hread : readT wide vars long (f + 1) L = if t.kind = partOf op ∧ u.kind = partOf op then .ok (.two ((op : Int), 0) t u, r4) else .error (6, q))
    (hk : Keep b w w1 vo vo1) (hr : RdTo w1 w2 b Bo vo1 wide vars long r4 ((o ++ t.flat) ++ u.flat) 0 0) (hol : ((o ++ t.flat) ++ u.flat).length < 1000) :
    Calls Tryd.prog 73 #[ptr b, .int .i64 op, .int .i64 (q : Int), .int .i64 t.kind, .int .i64 u.kind] w2 fun e w' => ∃ v, e = .returned (.int .i64 v) ∧ TermQ wide vars long (f + 1) b Bo vo L o w (.returned (.int .i64 v)) w' := by
  obtain ⟨vt, vo2, h, hk2⟩ := hr
  by_cases hq : t.kind = partOf op ∧ u.kind = partOf op
  · rw [if_pos hq] at hread
    refine (kinds_yes h op q t.kind u.kind hol (Or.inr ⟨hm, hq.1, hq.2⟩)).mono ?_
    rintro e w' ⟨rfl, hr⟩
    refine ⟨_, rfl, Or.inl ⟨_, _, hread, rfl, ?_⟩⟩
    have e : o ++ (Tr.two ((op : Int), 0) t u).flat = ((o ++ t.flat) ++ u.flat) ++ [((op : Int), 0)] := by simp [Tr.flat]
    rw [e]
    exact hr.trans (hk.trans hk2)
  · rw [if_neg hq] at hread
    refine (kinds_no h op q t.kind u.kind (Or.inr ⟨hm, ?_⟩)).mono ?_
    · by_cases h1 : t.kind = partOf op
      · exact Or.inr (fun h2 => hq ⟨h1, h2⟩)
      · exact Or.inl h1
    · rintro e w' ⟨rfl, hr⟩
      exact ⟨_, rfl, Or.inr ⟨6, q, _, _, hread, rfl, hr.trans (hk.trans hk2)⟩⟩
theorem opB_many {l : Tx} (h : opOf l ≠ 0) : manyOf (opOf l : Int) = 2 := (opOf_sign h).2.1
theorem keep_drewN {b : Nat} {u w : World} {x y : Value} (h : Keep b u w x y) (m : Nat) : Keep b u (w.drewN m) x y := ⟨h.os, h.tape, h.output, h.size, h.block, h.row⟩
theorem rd_drewN {w : World} {b Bo : Nat} {wide vars : Int} {long : Nat} {vt vo : Value} {l : List M.Tok} {o : List Nd} {code at_ : Int} (h : RdAt w b Bo wide vars long vt vo l o code at_) (m : Nat) : RdAt (w.drewN m) b Bo wide vars long vt vo l o code at_ := h.later (below_drewN (Below.refl _ _) m)
set_option maxRecDepth 100000 in
set_option maxHeartbeats 4000000 in
theorem term_pair {wide vars : Int} (hv : vars ≤ 4) {long f : Nat} (ih : TermP wide vars long f) {w : World} {b Bo : Nat} {vt vo : Value} {p : Nat} {l : List M.Tok} {o : List Nd} (h : RdAt w b Bo wide vars long vt vo ((p, [40]) :: l) o 0 0) (hol : o.length + (l.length + 1) ≤ 900) (hok : ∀ x ∈ l, 1 ≤ x.2.length ∧ x.2.length ≤ 800) (hf : l.length < f) :
    Calls Tryd.prog 45 #[ptr b] w (TermQ wide vars long (f + 1) b Bo vo ((p, [40]) :: l) o w) := by
  obtain ⟨c0, c1, c2, c3, c4, c5, c6⟩ := h.cell
  have hlt : b < w.heap.size := Nat.lt_of_lt_of_le h.low h.bound
  obtain ⟨g, off, cap, a, c, rfl, hg, t0, t1, hcut, hr2, hl1⟩ := h.pop
  have d2 : ∀ ob : Obj, (w.alloc ob).cell? ⟨b, 2, none⟩ = some (.slice (some ⟨g, off, none⟩) (l.length + 1) cap) := fun ob => (h.later ((Below.refl _ _).alloc (Nat.le_refl _) ob)).cell.2.2.1
  have f2 : ∀ ob : Obj, (w.alloc ob).frozen? ⟨b, 2, none⟩ = false := fun ob => frozen_heap (h.later ((Below.refl _ _).alloc (Nat.le_refl _) ob)).heap
  have hA : Below (w.setCell ⟨b, 2, none⟩ (.slice a l.length c)).heap.size (w.setCell ⟨b, 2, none⟩ (.slice a l.length c)) ((w.setCell ⟨b, 2, none⟩ (.slice a l.length c)).alloc (.cells #[.int .i64 (p : Int), tx [40]] 55)) := (Below.refl _ _).alloc (Nat.le_refl _) _
  have HK : Hid (Keep b w ((w.setCell ⟨b, 2, none⟩ (.slice a l.length c)).alloc (.cells #[.int .i64 (p : Int), tx [40]] 55)) vo vo) := ((Keep.refl b w vo).set 2 _).trans (Keep.below vo hA)
  have gt := ih _ b Bo _ _ l o (hr2.later hA) (by omega) hok hf
  have HE : Hid (∀ c' q l' o' w2, readT wide vars long f l = .error (c', q) → RdTo ((w.setCell ⟨b, 2, none⟩ (.slice a l.length c)).alloc (.cells #[.int .i64 (p : Int), tx [40]] 55)) w2 b Bo vo wide vars long l' o' (c' : Int) (q : Int) → TermQ wide vars long (f + 1) b Bo vo ((p, [40]) :: l) o w (.returned (.int .i64 0)) w2) := by
    intro c' q l' o' w2 hr hk
    exact Or.inr ⟨c', q, _, _, pair_err hr, rfl, hk.trans HK.out⟩
  have HP : Hid (∀ (l : List M.Tok) (t : Tr) r1, readT wide vars long f l = .ok (t, r1) → 1 ≤ t.kind ∧ t.kind ≤ 2) := fun l t r1 hr => kind_pos_of (readT_ok hv _ _ _ _ hr).2.1
  have HIH : Hid (TermP wide vars long f) := ih
  have HOL : Hid (o.length + (l.length + 1) ≤ 900 ∧ (∀ x ∈ l, 1 ≤ x.2.length ∧ x.2.length ≤ 800) ∧ l.length < f) := ⟨hol, hok, hf⟩
  clear h hr2 hA ih hok hol hf
  generalize hln : l.length = ln at *
  have HLN : Hid (l.length = ln) := hln
  clear hln
  have GL1 : Hid (∀ w1 : World, Calls Tryd.prog 57 #[.int .u8 (40 : Int)] w1 fun e w' => e = .returned (.bool false) ∧ w' = w1) := fun w1 => l3Letter_any 40 w1
  have GD1 : Hid (∀ w1 : World, Calls Tryd.prog 56 #[.int .u8 (40 : Int)] w1 fun e w' => e = .returned (.bool false) ∧ w' = w1) := fun w1 => l3Digit_any 40 w1
  have GN : Hid (∀ (k : Nat) (w1 : World), Calls Tryd.prog 65 #[.int .i64 (k : Int)] w1 fun e w' => e = .returned (.tuple #[.int .i64 (manyOf (k : Int)), .int .i64 (partOf (k : Int)), .int .i64 (ownOf (k : Int))]) ∧ w' = w1) := fun k w1 => l2Need_any (k : Int) w1
  go_enter Tryd.func45, Tryd.ntmps45
  go_wp2_with fail
  refine (GD1.out _).mono ?_
  rintro e w2 ⟨rfl, rfl⟩
  go_wp2_with fail
  refine (GL1.out _).mono ?_
  rintro e w2 ⟨rfl, rfl⟩
  go_wp2_with fail
  refine gt.mono ?_
  rintro e w3 (⟨t, r1, hr, rfl, hto⟩ | ⟨c', q, l', o', hr, rfl, hto⟩)
  · have hkp := HP.out l t r1 hr
    obtain ⟨m1, hm1, hsz1⟩ := readT_front _ _ _ _ _ _ _ hr
    obtain ⟨vt3, vo3, h3, hk3⟩ := hto
    have HK3 : Hid (Keep b w w3 vo vo3) := HK.out.trans hk3
    obtain ⟨x0, x1, x2, x3, x4, x5, x6⟩ := h3.cell
    clear gt HE HK hk3 hcut d2 f2 c0 c1 c2 c3 c4 c5 c6 t0 t1
    match r1, hr, h3, hm1 with
    | [], hr, h3, hm1 =>
      obtain ⟨ta, tc, hsh⟩ := h3.toks.shape
      subst hsh
      have HF : Hid (∀ m : Nat, Calls Tryd.prog 46 #[ptr b, .int .i64 3] (w3.drewN m) fun e w' => e = .returned (.int .i64 0) ∧ TermQ wide vars long (f + 1) b Bo vo ((p, [40]) :: l) o w (.returned (.int .i64 0)) w') := fun m =>
        (fault_any (rd_drewN h3 m) 3).mono fun e w' ⟨he, hr5⟩ => ⟨he, Or.inr ⟨3, long, _, _, pair_end hr, rfl, hr5.trans (keep_drewN HK3.out m)⟩⟩
      have hk0 : (t.kind == 0) = false := beq_eq_false_iff_ne.2 (by omega)
      clear hr h3 hm1 hsz1 HK3 HIH HOL
      generalize t.kind = kk at *
      go_wp2_with fail
      go_loopw [6, 7] (fun v i wr => ∃ (k m : Nat), (3 ≤ k ∧ k ≤ 19) ∧ i = .int .i64 k ∧ v = .int .i64 0 ∧ wr = w3.drewN m) (fun _ i _ => 19 - (intOf i).toNat)
      case atStart => exact ⟨3, 0, by omega, rfl, rfl, rfl⟩
      case round =>
        obtain ⟨k, m, hk, rfl, rfl, rfl⟩ := hrel
        by_cases hk18 : k ≤ 18
        · have g := GN.out k (w3.drewN m)
          generalize manyOf (k : Int) = mk at *
          generalize partOf (k : Int) = pk at *
          generalize ownOf (k : Int) = ok at *
          have hkk : (k : Int) ≤ 18 := by omega
          go_wp2_with fail
          refine g.mono ?_
          rintro e w4 ⟨rfl, rfl⟩
          clear g
          by_cases hmk : mk = 2
          · subst hmk
            go_wp2_with fail
            go_region
            all_goals
              go_wp2_with fail
              go_roundw
              case rel =>
                exact ⟨k + 1, _, by omega, by go_num, rfl, rfl⟩
              case measure => simp [intOf]; omega
          · have hmd : ((mk : Int) == 2) = false := beq_eq_false_iff_ne.2 (by omega)
            go_wp2_with fail
            go_region
            all_goals
              go_wp2_with fail
              go_roundw
              case rel =>
                exact ⟨k + 1, _, by omega, by go_num, rfl, rfl⟩
              case measure => simp [intOf]; omega
        · obtain rfl : k = 19 := by omega
          have gf := HF.out m
          go_wp2_with fail
          refine gf.mono ?_
          rintro e w5 ⟨rfl, hq⟩
          have HQ : Hid (TermQ wide vars long (f + 1) b Bo vo ((p, [40]) :: l) o w (.returned (.int .i64 0)) w5) := hq
          clear hq gf HF
          go_wp2_with fail
          go_ret
          exact HQ.out
    | (yp, ys) :: r2, hr, h3, hm1 =>
      have hk0 : (t.kind == 0) = false := beq_eq_false_iff_ne.2 (by omega)
      have e2 := frozen_heap (o := 2) h3.heap
      obtain ⟨g3, off3, cap3, a3, c3', rfl, hg3, y0, y1, hcut3, hr3, hl3⟩ := h3.pop
      have HF : Hid (opOf ys = 0 → ∀ m : Nat, Calls Tryd.prog 46 #[ptr b, .int .i64 3] (w3.drewN m) fun e w' => e = .returned (.int .i64 0) ∧ TermQ wide vars long (f + 1) b Bo vo ((p, [40]) :: l) o w (.returned (.int .i64 0)) w') := fun h0 m =>
        (fault_any (rd_drewN h3 m) 3).mono fun e w' ⟨he, hr5⟩ => ⟨he, Or.inr ⟨3, yp, _, _, pair_noop hr h0, rfl, hr5.trans (keep_drewN HK3.out m)⟩⟩
      have hml : m1.length + (r2.length + 1) = ln := by rw [← HLN.out, hm1]; simp
      have hfl : t.flat.length = t.size := Tr.flat_len t
      have hok2 : ∀ x ∈ r2, 1 ≤ x.2.length ∧ x.2.length ≤ 800 := fun x hx => HOL.out.2.1 x (by rw [hm1]; simp [hx])
      have HT : Hid (∀ m : Nat, Calls Tryd.prog 45 #[ptr b] ((w3.setCell ⟨b, 2, none⟩ (.slice a3 r2.length c3')).drewN m) (TermQ wide vars long f b Bo vo3 r2 (o ++ t.flat) ((w3.setCell ⟨b, 2, none⟩ (.slice a3 r2.length c3')).drewN m))) := fun m =>
        HIH.out _ b Bo _ _ r2 (o ++ t.flat) (rd_drewN hr3 m) (by have := HOL.out.1; rw [List.length_append]; omega) hok2 (by have := HOL.out.2.2; omega)
      have HKM : Hid (∀ m : Nat, Keep b w ((w3.setCell ⟨b, 2, none⟩ (.slice a3 r2.length c3')).drewN m) vo vo3) := fun m => keep_drewN (HK3.out.set 2 _) m
      have HE2 : Hid (opOf ys ≠ 0 → ∀ m c' q l' o' w5, readT wide vars long f r2 = .error (c', q) → RdTo ((w3.setCell ⟨b, 2, none⟩ (.slice a3 r2.length c3')).drewN m) w5 b Bo vo3 wide vars long l' o' (c' : Int) (q : Int) → TermQ wide vars long (f + 1) b Bo vo ((p, [40]) :: l) o w (.returned (.int .i64 0)) w5) := by
        intro h0 m c' q l' o' w5 hr5 hk5
        exact Or.inr ⟨c', q, _, _, pair_err2 hr h0 hr5, rfl, hk5.trans (HKM.out m)⟩
      have HTK : Hid (opOf ys ≠ 0 → ∀ m (u : Tr) r5 w5, readT wide vars long f r2 = .ok (u, r5) → RdTo ((w3.setCell ⟨b, 2, none⟩ (.slice a3 r2.length c3')).drewN m) w5 b Bo vo3 wide vars long r5 ((o ++ t.flat) ++ u.flat) 0 0 →
          Calls Tryd.prog 74 #[ptr b, tx [41]] w5 fun e w' => (e = .returned (.bool false) ∧ TermQ wide vars long (f + 1) b Bo vo ((p, [40]) :: l) o w (.returned (.int .i64 0)) w') ∨ (e = .returned (.bool true) ∧
            Calls Tryd.prog 73 #[ptr b, .int .i64 (opOf ys : Int), .int .i64 (yp : Int), .int .i64 t.kind, .int .i64 u.kind] w' fun e w'' => ∃ v, e = .returned (.int .i64 v) ∧ TermQ wide vars long (f + 1) b Bo vo ((p, [40]) :: l) o w (.returned (.int .i64 v)) w'')) := by
        intro h0 m u r5 w5 hr5 hk5
        obtain ⟨vt5, vo5, h5, hk5⟩ := hk5
        have hf2 := readT_front _ _ _ _ _ _ _ hr5
        by_cases hz : ∃ z r6, r5 = z :: r6 ∧ z.2 = [41]
        · obtain ⟨⟨zp, zs⟩, r6, rfl, hz⟩ := hz
          simp only at hz
          subst hz
          refine (take_yes h5).mono ?_
          rintro e w6 ⟨rfl, hr6⟩
          obtain ⟨vt6, vo6, h6, hk6⟩ := hr6
          refine Or.inr ⟨rfl, kinds_two (opB_many h0) (pair_kinds hr h0 hr5 rfl) ((HKM.out m).trans (hk5.trans hk6)) ⟨vt6, vo6, h6, Keep.refl _ _ _⟩ ?_⟩
          obtain ⟨m2, hm2, hsz2⟩ := hf2
          have hml2 : m2.length + (r6.length + 1) = r2.length := by rw [hm2]; simp
          have := HOL.out.1
          simp only [List.length_append, Tr.flat_len]
          omega
        · have hz' : ∀ z r6, r5 = z :: r6 → z.2 ≠ [41] := fun z r6 e1 e2 => hz ⟨z, r6, e1, e2⟩
          refine (take_no (s := [41]) h5 hz').mono ?_
          rintro e w6 ⟨rfl, hr6⟩
          exact Or.inl ⟨rfl, Or.inr ⟨3, _, _, _, pair_take hr h0 hr5 hz', rfl, hr6.trans ((HKM.out m).trans hk5)⟩⟩
      have HKIND : Hid (∀ (u : Tr) r5, readT wide vars long f r2 = .ok (u, r5) → 1 ≤ u.kind ∧ u.kind ≤ 2) := HP.out r2
      have hys : ys.length ≤ 800 := (HOL.out.2.1 (yp, ys) (by rw [hm1]; simp)).2
      have hlt3 : b < w3.heap.size := Nat.lt_of_lt_of_le h3.low h3.bound
      have hgb : g3 ≠ b := by omega
      have z0 : ∀ v, (w3.setCell ⟨b, 2, none⟩ v).cell? ⟨g3, off3, none⟩ = some (.int .i64 (yp : Int)) := fun v => by rw [cell_otherBlock (fun e => hgb e.symm)]; exact y0
      clear hr h3 hm1 hsz1 HK3 HIH HOL hr3 hok2 hfl HKM HP hml
      generalize t.kind = kk at *
      generalize r2.length = ln2 at *
      go_wp2_with fail
      go_loopw [6, 7] (fun v i wr => ∃ (k m : Nat), (3 ≤ k ∧ k ≤ 19) ∧ i = .int .i64 k ∧ v = .int .i64 (opAt ys k : Int) ∧ wr = w3.drewN m) (fun _ i _ => 19 - (intOf i).toNat)
      case atStart => exact ⟨3, 0, by omega, rfl, by rw [opAt_start]; rfl, rfl⟩
      case round =>
        obtain ⟨k, m, hk, rfl, rfl, rfl⟩ := hrel
        by_cases hk18 : k ≤ 18
        · have g := GN.out k (w3.drewN m)
          have hkk : (k : Int) ≤ 18 := by omega
          by_cases h13 : k = 13
          · subst h13
            have HN : Hid (opAt ys 14 = opAt ys 13) := opAt_thirteen ys
            have hm13 : manyOf ((13 : Nat) : Int) = 1 := rfl
            rw [hm13] at g
            generalize partOf ((13 : Nat) : Int) = pk at *
            generalize ownOf ((13 : Nat) : Int) = ok at *
            generalize opAt ys 13 = oa at *
            go_wp2_with fail
            refine g.mono ?_
            rintro e w4 ⟨rfl, rfl⟩
            clear g
            go_wp2_with fail
            go_region
            all_goals
              go_wp2_with fail
              go_roundw
              case rel => exact ⟨14, _, by omega, by go_num, by rw [HN.out], rfl⟩
              case measure => simp [intOf]
          · have hmk := many_two hk.1 hk18 h13
            rw [hmk] at g
            generalize partOf (k : Int) = pk at *
            generalize ownOf (k : Int) = ok at *
            have G : Hid (∀ w1 : World, Calls Tryd.prog 58 #[.int .i64 (k : Int)] w1 fun e w' => e = .returned (tx (signN k)) ∧ w' = w1) := fun w1 => l3Sign_nat k hk.1 (by omega) w1
            by_cases hq : signN k = ys
            · have HN : Hid (opAt ys (k + 1) = k) := opAt_hit hk.1 hk18 h13 hq
              rw [hq] at G
              clear hq hmk
              generalize opAt ys k = oa at *
              go_wp2_with fail
              refine g.mono ?_
              rintro e w4 ⟨rfl, rfl⟩
              clear g
              go_wp2_with fail
              go_quiet (exact (G.out _).mono fun e w4 ⟨he, hw⟩ => ⟨he, _, hw⟩)
              all_goals
                go_wp2_with fail
                go_roundw
                case rel => exact ⟨k + 1, _, by omega, by go_num, by rw [HN.out], by first | rfl | (simp only [World.drewN_drewN]; rfl)⟩
                case measure => simp [intOf]; omega
            · have HN : Hid (opAt ys (k + 1) = opAt ys k) := opAt_miss hq
              have hq2 : (signN k == ys) = false := beq_eq_false_iff_ne.2 hq
              clear hq hmk
              generalize signN k = sk at *
              generalize opAt ys k = oa at *
              go_wp2_with fail
              refine g.mono ?_
              rintro e w4 ⟨rfl, rfl⟩
              clear g
              go_wp2_with fail
              go_quiet (exact (G.out _).mono fun e w4 ⟨he, hw⟩ => ⟨he, _, hw⟩)
              all_goals
                go_wp2_with fail
                go_roundw
                case rel => exact ⟨k + 1, _, by omega, by go_num, by rw [HN.out], by first | rfl | (simp only [World.drewN_drewN]; rfl)⟩
                case measure => simp [intOf]; omega
        · obtain rfl : k = 19 := by omega
          rw [opAt_end]
          by_cases h0 : opOf ys = 0
          · have gf := HF.out h0 m
            rw [h0]
            go_wp2_with fail
            refine gf.mono ?_
            rintro e w5 ⟨rfl, hq⟩
            have HQ : Hid (TermQ wide vars long (f + 1) b Bo vo ((p, [40]) :: l) o w (.returned (.int .i64 0)) w5) := hq
            clear hq gf HF
            go_wp2_with fail
            go_ret
            exact HQ.out
          · have gt2 := HT.out m
            have HTK2 : Hid _ := HTK.out h0 m
            have HE3 : Hid _ := HE2.out h0 m
            have hop := opOf_range h0
            have hop0 : ((opOf ys : Int) == 0) = false := beq_eq_false_iff_ne.2 (by omega)
            clear HF HT HTK HE2 h0
            generalize opOf ys = oo at *
            go_wp2_with fail
            refine gt2.mono ?_
            rintro e w5 (⟨u, r5, hr5, rfl, hto5⟩ | ⟨c', q, l', o', hr5, rfl, hto5⟩)
            · have gtk := HTK2.out u r5 w5 hr5 hto5
              have hku := HKIND.out u r5 hr5
              have hku0 : (u.kind == 0) = false := beq_eq_false_iff_ne.2 (by omega)
              clear gt2 HTK2 HE3 hr5 hto5 HKIND
              generalize u.kind = ku at *
              go_wp2_with fail
              refine gtk.mono ?_
              rintro e w6 (⟨rfl, hq⟩ | ⟨rfl, gk⟩)
              · have HQ : Hid (TermQ wide vars long (f + 1) b Bo vo ((p, [40]) :: l) o w (.returned (.int .i64 0)) w6) := hq
                clear hq gtk
                go_wp2_with fail
                go_ret
                exact HQ.out
              · clear gtk
                go_wp2_with fail
                refine gk.mono ?_
                rintro e w7 ⟨v, rfl, hq⟩
                have HQ : Hid (TermQ wide vars long (f + 1) b Bo vo ((p, [40]) :: l) o w (.returned (.int .i64 v)) w7) := hq
                clear hq gk
                go_wp2_with fail
                go_ret
                exact HQ.out
            · have HQ : Hid (TermQ wide vars long (f + 1) b Bo vo ((p, [40]) :: l) o w (.returned (.int .i64 0)) w5) := HE3.out c' q l' o' w5 hr5 hto5
              clear gt2 HTK2 HE3 hr5 hto5 HKIND
              go_wp2_with fail
              go_ret
              exact HQ.out
  · have HQ : Hid (TermQ wide vars long (f + 1) b Bo vo ((p, [40]) :: l) o w (.returned (.int .i64 0)) w3) := HE.out c' q l' o' w3 hr hto
    clear gt hr hto HE HP
    go_wp2_with fail
    go_ret
    exact HQ.out
end Go.Proofs.YtkfplichekebdaaDoor

namespace Go.Proofs.YtkfplichekebdaaDoor
open Go Go.RowKit
open M
set_option linter.unusedVariables false

theorem treeT_len {wide vars : Int} {t : List Nd} {k : Nat} {e : Ent Tr} (h : TreeAt wide vars Tr.leaf Tr.one Tr.two t k e) : e.val.size ≤ t.length := by
  obtain ⟨r, hr⟩ := h
  have h2 := congrArg List.length (pileT_ok _ _ hr).2
  rw [List.length_flatMap, List.map_reverse, List.sum_reverse, List.map_cons, List.sum_cons, Tr.flat_len, List.length_take] at h2
  omega
theorem treeT_depth {wide vars : Int} {t : List Nd} {k : Nat} {e : Ent Tr} (h : TreeAt wide vars Tr.leaf Tr.one Tr.two t k e) : trDepth e.val ≤ t.length := Nat.le_trans (trDepth_le _) (treeT_len h)
set_option maxRecDepth 100000 in
set_option maxHeartbeats 1000000 in
theorem l3Depth_step {wide vars : Int} (b off cap : Nat) (t : List Nd) (hl : t.length ≤ 1048576) (w : World) (hc : Cells w b off t) (k : Nat) (e0 : Ent Tr) (ht : TreeAt wide vars Tr.leaf Tr.one Tr.two t k e0)
    (ih : ∀ (i : Int) (e1 : Ent Tr), 0 ≤ i → i < k → TreeAt wide vars Tr.leaf Tr.one Tr.two t i.toNat e1 →
      Calls Tryd.prog 51 #[.slice (some ⟨b, off, none⟩) t.length cap, .int .i64 i] w fun e w' => e = .returned (.int .i64 (trDepth e1.val : Int)) ∧ w' = w) :
    Calls Tryd.prog 51 #[.slice (some ⟨b, off, none⟩) t.length cap, .int .i64 k] w fun e w' => e = .returned (.int .i64 (trDepth e0.val : Int)) ∧ w' = w := by
  obtain ⟨⟨op, n⟩, hx, n1, n2, hcase⟩ := tree_cases ht
  have hk : k < t.length := (List.getElem?_eq_some_iff.1 hx).1
  obtain ⟨c0, c1⟩ := hc k (op, n) hx
  have g := l2Need_any op w
  have HC : Hid (Cells w b off t) := hc
  simp only at hcase n1 n2 c0 c1
  clear hx n1 n2 ht hc
  rcases hcase with ⟨m0, rfl⟩ | ⟨m1, hk1, d, hd, _, hdk, rfl⟩ | ⟨m2, hk1, d, c, hd, _, hd1, hdk, hcc, _, hck, rfl⟩
  · rw [m0] at g
    clear ih
    generalize ownOf op = o at *
    generalize partOf op = q at *
    clear m0
    show Calls Tryd.prog 51 #[.slice (some ⟨b, off, none⟩) t.length cap, .int .i64 k] w fun e w' => e = .returned (.int .i64 1) ∧ w' = w
    go_enter Tryd.func51, Tryd.ntmps51
    go_wp2_with fail
    refine g.mono ?_
    rintro e w' ⟨rfl, rfl⟩
    clear g
    go_wp2_with fail
    go_ret
    exact ⟨rfl, rfl⟩
  · rw [m1] at g
    have ih1 := fun (i : Int) (h0 : 0 ≤ i) (h1 : i < k) (h2 : i.toNat = k - 1) => ih i d h0 h1 (h2 ▸ hd)
    have hdd := treeT_depth hd
    have e1 : (trDepth (Tr.one (op, n) d.val) : Int) = (trDepth d.val : Int) + 1 := rfl
    rw [e1]
    have HI : Hid _ := ih1
    clear ih ih1 m1 hd e1
    generalize trDepth d.val = da at *
    generalize ownOf op = o at *
    generalize partOf op = q at *
    go_enter Tryd.func51, Tryd.ntmps51
    go_wp2_with fail
    refine g.mono ?_
    rintro e w' ⟨rfl, rfl⟩
    clear g
    go_wp2_with fail
    refine (HI.out _ (by omega) (by omega) (by omega)).mono ?_
    rintro e w' ⟨rfl, rfl⟩
    go_wp2_with fail
    go_ret
    exact ⟨by go_num, rfl⟩
  · rw [m2] at g
    have ih1 := fun (i : Int) (h0 : 0 ≤ i) (h1 : i < k) (h2 : i.toNat = k - 1) => ih i d h0 h1 (h2 ▸ hd)
    have ih2 := fun (i : Int) (h0 : 0 ≤ i) (h1 : i < k) (h2 : i.toNat = d.at0 - 1) => ih i c h0 h1 (h2 ▸ hcc)
    have gf : Hid (∀ i : Int, i.toNat = k - 1 → 0 ≤ i → Calls Tryd.prog 67 #[.slice (some ⟨b, off, none⟩) t.length cap, .int .i64 i] w fun e w' => e = .returned (.int .i64 d.at0) ∧ w' = w) := by
      intro i hi h0
      have g := l2From_any b off cap t hl w HC.out (k - 1) (k - 1) (Nat.le_refl _) d hd
      rw [show ((k - 1 : Nat) : Int) = i from by omega] at g
      exact g
    have hdd := treeT_depth hd
    have hcd := treeT_depth hcc
    have HI : Hid _ := ih1
    have HI2 : Hid _ := ih2
    have e1 : (trDepth (Tr.two (op, n) c.val d.val) : Int) = max (trDepth c.val : Int) (trDepth d.val : Int) + 1 := by
      simp only [trDepth]
      omega
    rw [e1]
    clear ih ih1 ih2 m2 hd hcc e1
    generalize d.at0 = dz at *
    generalize trDepth d.val = da at *
    generalize trDepth c.val = ca at *
    generalize ownOf op = o at *
    generalize partOf op = q at *
    by_cases hgt : da < ca
    · rw [show max (ca : Int) (da : Int) = ca from by omega]
      go_enter Tryd.func51, Tryd.ntmps51
      go_wp2_with fail
      refine g.mono ?_
      rintro e w' ⟨rfl, rfl⟩
      clear g
      go_wp2_with fail
      refine (HI.out _ (by omega) (by omega) (by omega)).mono ?_
      rintro e w' ⟨rfl, rfl⟩
      go_wp2_with fail
      refine (gf.out _ (by omega) (by omega)).mono ?_
      rintro e w' ⟨rfl, rfl⟩
      go_wp2_with fail
      refine (HI2.out _ (by omega) (by omega) (by omega)).mono ?_
      rintro e w' ⟨rfl, rfl⟩
      go_wp2_with fail
      go_ret
      exact ⟨by go_num, rfl⟩
    · rw [show max (ca : Int) (da : Int) = da from by omega]
      go_enter Tryd.func51, Tryd.ntmps51
      go_wp2_with fail
      refine g.mono ?_
      rintro e w' ⟨rfl, rfl⟩
      clear g
      go_wp2_with fail
      refine (HI.out _ (by omega) (by omega) (by omega)).mono ?_
      rintro e w' ⟨rfl, rfl⟩
      go_wp2_with fail
      refine (gf.out _ (by omega) (by omega)).mono ?_
      rintro e w' ⟨rfl, rfl⟩
      go_wp2_with fail
      refine (HI2.out _ (by omega) (by omega) (by omega)).mono ?_
      rintro e w' ⟨rfl, rfl⟩
      go_wp2_with fail
      go_ret
      exact ⟨by go_num, rfl⟩
theorem l3Depth_any {wide vars : Int} (b off cap : Nat) (t : List Nd) (hl : t.length ≤ 1048576) (w : World) (hc : Cells w b off t) : ∀ (n k : Nat), k ≤ n → ∀ (e0 : Ent Tr), TreeAt wide vars Tr.leaf Tr.one Tr.two t k e0 →
    Calls Tryd.prog 51 #[.slice (some ⟨b, off, none⟩) t.length cap, .int .i64 k] w fun e w' => e = .returned (.int .i64 (trDepth e0.val : Int)) ∧ w' = w
  | 0, k, hk, e0, ht => l3Depth_step b off cap t hl w hc k e0 ht (fun i e1 h0 h1 _ => by omega)
  | n + 1, k, hk, e0, ht => l3Depth_step b off cap t hl w hc k e0 ht (fun i e1 h0 h1 h2 => by
    have g := l3Depth_any b off cap t hl w hc n i.toNat (by omega) e1 h2
    rw [Int.toNat_of_nonneg h0] at g
    exact g)
/-- the depth of a good term, 0 of another one -/
def depthL (wide vars : Int) (t : List Nd) : Int :=
  if 0 < kindL wide vars t then
    match pileT wide vars t t.length with
    | some [e] => (trDepth e.val : Int)
    | _ => 0
  else 0
theorem depthL_yes {wide vars : Int} {t : List Nd} {r : Tr} (hk : 0 < kindL wide vars t) (hr : pileT wide vars t t.length = some [⟨0, r.kind, r⟩]) : depthL wide vars t = trDepth r := by
  unfold depthL
  rw [if_pos hk, hr]
theorem depthL_no {wide vars : Int} {t : List Nd} (hk : ¬ 0 < kindL wide vars t) : depthL wide vars t = 0 := by
  unfold depthL
  rw [if_neg hk]
set_option maxRecDepth 100000 in
theorem depthOf_any (wide vars : Int) (v : Value) (t : List Nd) (w : World) (h : NodesAt w v t) :
    Calls Tryd.prog 27 #[.int .i64 wide, .int .i64 vars, v] w fun e w' => e = .returned (.tuple #[.int .i64 (depthL wide vars t), .bool (decide (0 < kindL wide vars t))]) ∧ Below w.heap.size w w' := by
  have gg := goodTerm_any wide vars v t w h
  by_cases hk : 0 < kindL wide vars t
  · obtain ⟨_, _, _, h4, h5, r, hr, _⟩ := root_tree hk
    rw [depthL_yes hk hr, decide_eq_true hk]
    rw [decide_eq_true hk] at gg
    obtain ⟨hok, hlen, hN⟩ := h
    rcases hN with ⟨rfl, _⟩ | ⟨b, off, cap, rfl, hlt, hc⟩
    · simp at h4
    have GD : Hid (∀ (i : Int) (w1 : World), i.toNat = t.length - 1 → 0 ≤ i → Below w.heap.size w w1 → Calls Tryd.prog 51 #[.slice (some ⟨b, off, none⟩) t.length cap, .int .i64 i] w1 fun e w' => e = .returned (.int .i64 (trDepth r : Int)) ∧ w' = w1) := by
      intro i w1 hi h0 hb
      have hc1 : Cells w1 b off t := by
        intro i x hx
        rw [hb.cell (p := ⟨b, off + i * 2, none⟩) hlt, hb.cell (p := ⟨b, off + i * 2 + 1, none⟩) hlt]
        exact hc i x hx
      have g := l3Depth_any (wide := wide) (vars := vars) b off cap t (by omega) w1 hc1 (t.length - 1) (t.length - 1) (Nat.le_refl _) ⟨0, r.kind, r⟩ ⟨[], by rw [show t.length - 1 + 1 = t.length from by omega]; exact hr⟩
      rw [show ((t.length - 1 : Nat) : Int) = i from by omega] at g
      exact g
    clear hr hk hc hok
    generalize trDepth r = D at *
    go_enter Tryd.func27, Tryd.ntmps27
    go_wp2_with fail
    refine gg.mono ?_
    rintro e w1 ⟨rfl, hb⟩
    have HB : Hid _ := hb
    clear gg hb
    go_wp2_with fail
    refine (GD.out _ _ (by omega) (by omega) HB.out).mono ?_
    rintro e w2 ⟨rfl, rfl⟩
    go_wp2_with fail
    go_ret2
    exact ⟨rfl, HB.out⟩
  · rw [depthL_no hk, decide_eq_false hk]
    rw [decide_eq_false hk] at gg
    clear hk h
    go_enter Tryd.func27, Tryd.ntmps27
    go_wp2_with fail
    refine gg.mono ?_
    rintro e w1 ⟨rfl, hb⟩
    have HB : Hid _ := hb
    clear gg hb
    go_wp2_with fail
    go_ret2
    exact ⟨rfl, HB.out⟩
end Go.Proofs.YtkfplichekebdaaDoor

namespace Go.Proofs.YtkfplichekebdaaDoor
open Go Go.RowKit
open M
set_option linter.unusedVariables false

/-- texts one behind the other -/
theorem add_tx (a b : Tx) (h : a.length + b.length ≤ 100000) (w : World) : (Op.stringOp .add (⟨a.toArray⟩ : ByteArray) ⟨b.toArray⟩).run Tryd.prog w = .ok (tx (a ++ b)) w := by
  have h1 := run_string_add_sum (P := Tryd.prog) w ⟨a.toArray⟩ ⟨b.toArray⟩ (by simp [ByteArray.size]; omega)
  rw [ByteArray.mk_append_mk] at h1
  exact h1
/-- a tree's own text, where its numbers are words -/
theorem treeT_wd {wide vars : Int} {t : List Nd} (hok : ∀ x ∈ t, NdOk x) : ∀ (n k : Nat), k ≤ n → ∀ e : Ent Tr, TreeAt wide vars Tr.leaf Tr.one Tr.two t k e → Wd e.val
  | n, k, hk, e, ht => by
    obtain ⟨x, hx, n1, n2, hcase⟩ := tree_cases ht
    have hxo := hok x (List.mem_of_getElem? hx)
    rcases hcase with ⟨m0, rfl⟩ | ⟨m1, hk1, d, hd, _, hdk, rfl⟩ | ⟨m2, hk1, d, c, hd, _, hd1, hdk, hcc, _, hck, rfl⟩
    · exact ⟨hxo.2.2.1, by have := hxo.2.2.2; omega⟩
    · match n, hk with
      | 0, hk => omega
      | n' + 1, hk => exact treeT_wd hok n' (k - 1) (by omega) d hd
    · match n, hk with
      | 0, hk => omega
      | n' + 1, hk => exact ⟨treeT_wd hok n' (d.at0 - 1) (by omega) c hcc, treeT_wd hok n' (k - 1) (by omega) d hd⟩
section
variable {b off cap : Nat} {t : List Nd}
set_option maxRecDepth 100000 in
set_option maxHeartbeats 1000000 in
theorem l3Text_leaf (j : Nat) (op n : Int) (hj : j < t.length) (hl : t.length ≤ 48) (h0 : 0 ≤ n) (h1 : n < 18446744073709551616) (hop : op = 1 ∨ op = 2 ∧ n < 4 ∨ op = 20 ∧ n ≤ 1) (w : World)
    (c0 : w.cell? ⟨b, off + j * 2, none⟩ = some (.int .i64 op)) (c1 : w.cell? ⟨b, off + j * 2 + 1, none⟩ = some (.int .u64 n)) :
    Calls Tryd.prog 39 #[.slice (some ⟨b, off, none⟩) t.length cap, .int .i64 j] w fun e w' => e = .returned (tx (leafL (op, n))) ∧ Below w.heap.size w w' := by
  obtain ⟨m, rfl⟩ := Int.eq_ofNat_of_zero_le h0
  have g := l2Need_any op (w.alloc (.cells #[.int .i64 op, .int .u64 (m : Int)] 62))
  have HB : Hid (Below w.heap.size w (w.alloc (.cells #[.int .i64 op, .int .u64 (m : Int)] 62))) := (Below.refl _ _).alloc (Nat.le_refl _) _
  rcases hop with rfl | ⟨rfl, hv⟩ | ⟨rfl, hv⟩
  · have e1 : leafL (1, (m : Int)) = numL m := rfl
    have GN : Hid (∀ w1 : World, Calls Tryd.prog 29 #[.int .u64 (m : Int)] w1 fun e w' => e = .returned (tx (numL m)) ∧ Below w1.heap.size w1 w') := fun w1 => l1Num_any m (by omega) w1
    rw [e1]
    generalize numL m = l at *
    generalize (m : Int) = n at *
    go_enter Tryd.func39, Tryd.ntmps39
    go_wp2_with fail
    refine g.mono ?_
    rintro e w1 ⟨rfl, rfl⟩
    clear g
    have g2 := GN.out (w.alloc (.cells #[.int .i64 1, .int .u64 n] 62))
    go_wp2_with fail
    refine g2.mono ?_
    rintro e w2 ⟨rfl, hb2⟩
    have HB2 : Hid (Below w.heap.size w w2) := HB.out.trans (hb2.mono HB.out.size)
    clear g2 hb2
    go_wp2_with fail
    go_ret
    exact ⟨rfl, HB2.out⟩
  · have e1 : leafL (2, (m : Int)) = nameL m := rfl
    have GN : Hid (∀ w1 : World, Calls Tryd.prog 66 #[.int .i64 (m : Int)] w1 fun e w' => e = .returned (tx (nameL m)) ∧ Below w1.heap.size w1 w') := fun w1 => l3Name_any m (by omega) w1
    rw [e1]
    generalize nameL m = l at *
    go_enter Tryd.func39, Tryd.ntmps39
    go_wp2_with fail
    refine g.mono ?_
    rintro e w1 ⟨rfl, rfl⟩
    clear g
    have g2 := GN.out (w.alloc (.cells #[.int .i64 2, .int .u64 (m : Int)] 62))
    go_wp2_with fail
    refine g2.mono ?_
    rintro e w2 ⟨rfl, hb2⟩
    have HB2 : Hid (Below w.heap.size w w2) := HB.out.trans (hb2.mono HB.out.size)
    clear g2 hb2
    go_wp2_with fail
    go_ret
    exact ⟨rfl, HB2.out⟩
  · rcases (show m = 0 ∨ m = 1 by omega) with rfl | rfl
    · have e1 : leafL (20, ((0 : Nat) : Int)) = noL := rfl
      rw [e1]
      go_enter Tryd.func39, Tryd.ntmps39
      go_wp2_with fail
      refine g.mono ?_
      rintro e w1 ⟨rfl, rfl⟩
      clear g
      go_wp2_with fail
      go_ret
      exact ⟨rfl, HB.out⟩
    · have e1 : leafL (20, ((1 : Nat) : Int)) = yesL := rfl
      rw [e1]
      go_enter Tryd.func39, Tryd.ntmps39
      go_wp2_with fail
      refine g.mono ?_
      rintro e w1 ⟨rfl, rfl⟩
      clear g
      go_wp2_with fail
      go_ret
      exact ⟨rfl, HB.out⟩
set_option maxRecDepth 100000 in
set_option maxHeartbeats 1000000 in
theorem l3Text_one (j : Nat) (op n : Int) (la : Tx) (hla : la.length ≤ 2000) (hj : j < t.length) (hj1 : 1 ≤ j) (hl : t.length ≤ 48) (hop : op = 13 ∨ op = 19) (w : World)
    (c0 : w.cell? ⟨b, off + j * 2, none⟩ = some (.int .i64 op)) (c1 : w.cell? ⟨b, off + j * 2 + 1, none⟩ = some (.int .u64 n))
    (ih : ∀ (i : Int) (w1 : World), i.toNat = j - 1 → 0 ≤ i → Below w.heap.size w w1 → Calls Tryd.prog 39 #[.slice (some ⟨b, off, none⟩) t.length cap, .int .i64 i] w1 fun e w' => e = .returned (tx la) ∧ Below w1.heap.size w1 w') :
    Calls Tryd.prog 39 #[.slice (some ⟨b, off, none⟩) t.length cap, .int .i64 j] w fun e w' => e = .returned (tx (signL op ++ la)) ∧ Below w.heap.size w w' := by
  have g := l2Need_any op (w.alloc (.cells #[.int .i64 op, .int .u64 n] 62))
  have HB : Hid (Below w.heap.size w (w.alloc (.cells #[.int .i64 op, .int .u64 n] 62))) := (Below.refl _ _).alloc (Nat.le_refl _) _
  have GS : Hid (∀ w1 : World, Calls Tryd.prog 58 #[.int .i64 op] w1 fun e w' => e = .returned (tx (signL op)) ∧ w' = w1) := fun w1 => l3Sign_any op w1
  have ha := fun w : World => add_tx (signL op) la (by have := signL_len op; omega) w
  have IH : Hid _ := ih
  clear ih
  rw [show manyOf op = 1 from by unfold manyOf; rw [if_pos hop]] at g
  have e2 : (op == 2) = false := beq_eq_false_iff_ne.2 (by omega)
  have e20 : (op == 20) = false := beq_eq_false_iff_ne.2 (by omega)
  generalize signL op = sg at *
  generalize hsum : sg ++ la = S at *
  clear hsum hop
  generalize ownOf op = o at *
  generalize partOf op = q at *
  go_enter Tryd.func39, Tryd.ntmps39
  go_wp2_with fail
  refine g.mono ?_
  rintro e w1 ⟨rfl, rfl⟩
  clear g
  go_wp2_with fail
  refine (GS.out _).mono ?_
  rintro e w1 ⟨rfl, rfl⟩
  clear GS
  go_wp2_with fail
  refine (IH.out _ _ (by omega) (by omega) HB.out).mono ?_
  rintro e w2 ⟨rfl, hb2⟩
  have HB2 : Hid (Below w.heap.size w w2) := HB.out.trans (hb2.mono HB.out.size)
  clear hb2 IH
  go_wp2_with fail
  go_ret
  exact ⟨rfl, HB2.out⟩
set_option maxRecDepth 100000 in
set_option maxHeartbeats 2000000 in
theorem l3Text_two (j da : Nat) (op n : Int) (la lb : Tx) (hla : la.length ≤ 2000) (hlb : lb.length ≤ 2000) (hj : j < t.length) (hj1 : 1 ≤ j) (hd1 : 1 ≤ da) (hdj : da ≤ j - 1) (hl : t.length ≤ 48) (hop : (3 ≤ op ∧ op ≤ 12) ∨ (14 ≤ op ∧ op ≤ 18)) (w : World)
    (c0 : w.cell? ⟨b, off + j * 2, none⟩ = some (.int .i64 op)) (c1 : w.cell? ⟨b, off + j * 2 + 1, none⟩ = some (.int .u64 n))
    (ihf : ∀ (i : Int) (w1 : World), i.toNat = j - 1 → 0 ≤ i → Below w.heap.size w w1 → Calls Tryd.prog 67 #[.slice (some ⟨b, off, none⟩) t.length cap, .int .i64 i] w1 fun e w' => e = .returned (.int .i64 da) ∧ w' = w1)
    (ihc : ∀ (i : Int) (w1 : World), i.toNat = da - 1 → 0 ≤ i → Below w.heap.size w w1 → Calls Tryd.prog 39 #[.slice (some ⟨b, off, none⟩) t.length cap, .int .i64 i] w1 fun e w' => e = .returned (tx la) ∧ Below w1.heap.size w1 w')
    (ihd : ∀ (i : Int) (w1 : World), i.toNat = j - 1 → 0 ≤ i → Below w.heap.size w w1 → Calls Tryd.prog 39 #[.slice (some ⟨b, off, none⟩) t.length cap, .int .i64 i] w1 fun e w' => e = .returned (tx lb) ∧ Below w1.heap.size w1 w') :
    Calls Tryd.prog 39 #[.slice (some ⟨b, off, none⟩) t.length cap, .int .i64 j] w fun e w' => e = .returned (tx ([40] ++ la ++ signL op ++ lb ++ [41])) ∧ Below w.heap.size w w' := by
  have g := l2Need_any op (w.alloc (.cells #[.int .i64 op, .int .u64 n] 62))
  have HB : Hid (Below w.heap.size w (w.alloc (.cells #[.int .i64 op, .int .u64 n] 62))) := (Below.refl _ _).alloc (Nat.le_refl _) _
  have GS : Hid (∀ w1 : World, Calls Tryd.prog 58 #[.int .i64 op] w1 fun e w' => e = .returned (tx (signL op)) ∧ w' = w1) := fun w1 => l3Sign_any op w1
  have hsl := signL_len op
  have ha1 := fun w : World => add_tx [40] la (by simp; omega) w
  have ha2 := fun w : World => add_tx ([40] ++ la) (signL op) (by simp; omega) w
  have ha3 := fun w : World => add_tx ([40] ++ la ++ signL op) lb (by simp; omega) w
  have ha4 := fun w : World => add_tx ([40] ++ la ++ signL op ++ lb) [41] (by simp; omega) w
  have HC : Hid (∀ w2, Below (w.heap.size + 1) (w.alloc (.cells #[.int .i64 op, .int .u64 n] 62)) w2 → w2.cell? ⟨w.heap.size, 0, none⟩ = some (.int .i64 op)) := by
    intro w2 hb
    rw [hb.cell (p := ⟨w.heap.size, 0, none⟩) (by simp), World.cell?_alloc_new]
    rfl
  have IHF : Hid _ := ihf
  have IHC : Hid _ := ihc
  have IHD : Hid _ := ihd
  clear ihf ihc ihd
  rw [show manyOf op = 2 from by unfold manyOf; rw [if_neg (by omega), if_pos (by omega)]] at g
  have e2 : (op == 2) = false := beq_eq_false_iff_ne.2 (by omega)
  have e20 : (op == 20) = false := beq_eq_false_iff_ne.2 (by omega)
  generalize h4 : [40] ++ la ++ signL op ++ lb ++ [41] = S4 at *
  generalize h3 : [40] ++ la ++ signL op ++ lb = S3 at *
  generalize h2 : [40] ++ la ++ signL op = S2 at *
  generalize h1 : [40] ++ la = S1 at *
  generalize signL op = sg at *
  clear h1 h2 h3 h4 hop
  generalize ownOf op = o at *
  generalize partOf op = q at *
  go_enter Tryd.func39, Tryd.ntmps39
  go_wp2_with fail
  refine g.mono ?_
  rintro e w1 ⟨rfl, rfl⟩
  clear g
  go_wp2_with fail
  go_region_with (first | (go_at_call 67; refine (IHF.out _ _ (by first | omega | (rw [IntWalk.i64_in _ ⟨by omega, by omega⟩]; omega)) (by first | omega | (rw [IntWalk.i64_in _ ⟨by omega, by omega⟩]; omega)) (by first | exact HB.out | exact HB.out.drew | exact HB.out.drew.drew)).mono ?_; rintro e w2 ⟨rfl, rfl⟩) | (go_at_call 58; refine (GS.out _).mono ?_; rintro e w2 ⟨rfl, rfl⟩) | (go_at_call 39; refine (IHC.out _ _ (by first | omega | (rw [IntWalk.i64_in _ ⟨by omega, by omega⟩]; omega)) (by first | omega | (rw [IntWalk.i64_in _ ⟨by omega, by omega⟩]; omega)) (by first | exact HB.out | exact HB.out.drew | exact HB.out.drew.drew)).mono ?_; rintro e w2 ⟨rfl, hb2⟩; have R2 : Hid (Below (w.heap.size + 1) (w.alloc (.cells #[.int .i64 op, .int .u64 n] 62)) w2) := (by first | exact hb2.mono (by simp) | exact (Below.refl _ _).drew.trans (hb2.mono (by simp)) | exact (Below.refl _ _).drew.drew.trans (hb2.mono (by simp))); have HB2 : Hid (Below w.heap.size w w2) := HB.out.trans (R2.out.mono (by omega)); have cell2 := HC.out w2 R2.out; clear hb2) | (go_at_call 39; refine (IHD.out _ _ (by first | omega | (rw [IntWalk.i64_in _ ⟨by omega, by omega⟩]; omega)) (by first | omega | (rw [IntWalk.i64_in _ ⟨by omega, by omega⟩]; omega)) (by first | exact HB2.out | exact HB2.out.drew | exact HB2.out.drew.drew)).mono ?_; rintro e w3 ⟨rfl, hb3⟩; have HB3 : Hid (Below w.heap.size w w3) := (by first | exact HB2.out.trans (hb3.mono HB2.out.size) | exact HB2.out.drew.trans (hb3.mono HB2.out.size)); clear hb3))
  all_goals
    clear IHF IHC IHD GS HC
    go_wp2_with fail
    go_ret
    exact ⟨rfl, Hid.out (p := Below w.heap.size w w3) (by assumption)⟩
end
end Go.Proofs.YtkfplichekebdaaDoor

namespace Go.Proofs.YtkfplichekebdaaDoor
open Go Go.RowKit
open M
set_option linter.unusedVariables false

theorem leaf_ops {wide vars op n : Int} (hv : vars ≤ 4) (n1 : ¬ ownOf op = 0) (n2 : okN wide vars op n = true) (m0 : manyOf op = 0) : op = 1 ∨ op = 2 ∧ n < 4 ∨ op = 20 ∧ n ≤ 1 := by
  have hop : op = 1 ∨ op = 2 ∨ op = 20 := by
    unfold manyOf at m0
    unfold ownOf at n1
    split at m0
    · omega
    · split at m0
      · omega
      · split at n1
        · omega
        · split at n1 <;> omega
  rcases hop with rfl | rfl | rfl
  · exact Or.inl rfl
  · unfold okN at n2
    simp at n2
    exact Or.inr (Or.inl ⟨rfl, by omega⟩)
  · unfold okN at n2
    simp at n2
    exact Or.inr (Or.inr ⟨rfl, by omega⟩)
theorem one_ops {op : Int} (m1 : manyOf op = 1) : op = 13 ∨ op = 19 := by
  unfold manyOf at m1
  split at m1
  · assumption
  · split at m1 <;> omega
theorem two_ops {op : Int} (m2 : manyOf op = 2) : (3 ≤ op ∧ op ≤ 12) ∨ (14 ≤ op ∧ op ≤ 18) := by
  unfold manyOf at m2
  split at m2
  · cases m2
  · split at m2 <;> omega
theorem treeT_text {wide vars : Int} {t : List Nd} (hok : ∀ x ∈ t, NdOk x) (hl : t.length ≤ 48) {k : Nat} {e : Ent Tr} (h : TreeAt wide vars Tr.leaf Tr.one Tr.two t k e) : (trText e.val).length ≤ 960 := by
  have h1 := trText_len e.val (treeT_wd hok k k (Nat.le_refl _) e h)
  have h2 := treeT_len h
  omega
theorem l3Text_any {wide vars : Int} {b off cap : Nat} {t : List Nd} (hv : vars ≤ 4) (hok : ∀ x ∈ t, NdOk x) (hl : t.length ≤ 48) :
    ∀ (m j : Nat), j ≤ m → ∀ (e0 : Ent Tr), TreeAt wide vars Tr.leaf Tr.one Tr.two t j e0 → ∀ (w : World), b < w.heap.size → Cells w b off t →
    Calls Tryd.prog 39 #[.slice (some ⟨b, off, none⟩) t.length cap, .int .i64 j] w fun e w' => e = .returned (tx (trText e0.val)) ∧ Below w.heap.size w w'
  | m, j, hjm, e0, ht, w, hlt, hc => by
    have hcb : ∀ w1, Below w.heap.size w w1 → Cells w1 b off t := fun w1 hb i x hx => by
      rw [hb.cell (p := ⟨b, off + i * 2, none⟩) hlt, hb.cell (p := ⟨b, off + i * 2 + 1, none⟩) hlt]
      exact hc i x hx
    obtain ⟨⟨op, n⟩, hx, n1, n2, hcase⟩ := tree_cases ht
    have hj : j < t.length := (List.getElem?_eq_some_iff.1 hx).1
    have hno := hok (op, n) (List.mem_of_getElem? hx)
    obtain ⟨c0, c1⟩ := hc j (op, n) hx
    simp only at hcase n1 n2 c0 c1
    have hn0 := hno.2.2.1
    have hn1 := hno.2.2.2
    simp only at hn0 hn1
    rcases hcase with ⟨m0, rfl⟩ | ⟨m1, hj1, d, hd, hdk, hdj, rfl⟩ | ⟨m2, hj1, d, c, hd, hdk, hd1, hdj, hcc, hck, hcd, rfl⟩
    · exact l3Text_leaf j op n hj hl hn0 (by omega) (leaf_ops hv n1 n2 m0) w c0 c1
    · match m, hjm with
      | 0, hjm => omega
      | m' + 1, hjm =>
        have hta := treeT_text hok hl hd
        exact l3Text_one j op n (trText d.val) (by omega) hj hj1 hl (one_ops m1) w c0 c1 (fun i w1 hi h0 hb => by
          have g := l3Text_any hv hok hl (cap := cap) m' (j - 1) (by omega) d hd w1 (Nat.lt_of_lt_of_le hlt hb.size) (hcb w1 hb)
          rw [show ((j - 1 : Nat) : Int) = i from by omega] at g
          exact g)
    · match m, hjm with
      | 0, hjm => omega
      | m' + 1, hjm =>
        have hta := treeT_text hok hl hcc
        have htb := treeT_text hok hl hd
        exact l3Text_two j d.at0 op n (trText c.val) (trText d.val) (by omega) (by omega) hj hj1 hd1 hdj hl (two_ops m2) w c0 c1 (fun i w1 hi h0 hb => by
          have g := l2From_any b off cap t (by omega) w1 (hcb w1 hb) (j - 1) (j - 1) (Nat.le_refl _) d hd
          rw [show ((j - 1 : Nat) : Int) = i from by omega] at g
          exact g) (fun i w1 hi h0 hb => by
          have g := l3Text_any hv hok hl (cap := cap) m' (d.at0 - 1) (by omega) c hcc w1 (Nat.lt_of_lt_of_le hlt hb.size) (hcb w1 hb)
          rw [show ((d.at0 - 1 : Nat) : Int) = i from by omega] at g
          exact g) (fun i w1 hi h0 hb => by
          have g := l3Text_any hv hok hl (cap := cap) m' (j - 1) (by omega) d hd w1 (Nat.lt_of_lt_of_le hlt hb.size) (hcb w1 hb)
          rw [show ((j - 1 : Nat) : Int) = i from by omega] at g
          exact g)
/-- the text of a good term whose text is not too long, and whether there is one -/
def textB (wide vars : Int) (t : List Nd) : Bool :=
  decide (0 < kindL wide vars t) && (match pileT wide vars t t.length with | some [e] => decide ((trText e.val).length ≤ 800) | _ => false)
def textL (wide vars : Int) (t : List Nd) : Tx :=
  if textB wide vars t = true then (match pileT wide vars t t.length with | some [e] => trText e.val | _ => []) else []
theorem textB_no {wide vars : Int} {t : List Nd} (hk : ¬ 0 < kindL wide vars t) : textB wide vars t = false ∧ textL wide vars t = [] := by
  have h : textB wide vars t = false := by unfold textB; rw [decide_eq_false hk]; rfl
  exact ⟨h, by unfold textL; rw [h]; rfl⟩
theorem textB_yes {wide vars : Int} {t : List Nd} {r : Tr} (hk : 0 < kindL wide vars t) (hr : pileT wide vars t t.length = some [⟨0, r.kind, r⟩]) (hl : (trText r).length ≤ 800) : textB wide vars t = true ∧ textL wide vars t = trText r := by
  have h : textB wide vars t = true := by unfold textB; rw [decide_eq_true hk, hr]; simp [hl]
  exact ⟨h, by unfold textL; rw [h, hr]; rfl⟩
theorem textB_long {wide vars : Int} {t : List Nd} {r : Tr} (hk : 0 < kindL wide vars t) (hr : pileT wide vars t t.length = some [⟨0, r.kind, r⟩]) (hl : ¬ (trText r).length ≤ 800) : textB wide vars t = false ∧ textL wide vars t = [] := by
  have h : textB wide vars t = false := by unfold textB; rw [decide_eq_true hk, hr]; simp [hl]
  exact ⟨h, by unfold textL; rw [h]; rfl⟩
set_option maxRecDepth 100000 in
theorem termText_any (wide vars : Int) (v : Value) (t : List Nd) (w : World) (h : NodesAt w v t) :
    Calls Tryd.prog 19 #[.int .i64 wide, .int .i64 vars, v] w fun e w' => e = .returned (.tuple #[tx (textL wide vars t), .bool (textB wide vars t)]) ∧ Below w.heap.size w w' := by
  have gg := goodTerm_any wide vars v t w h
  by_cases hk : 0 < kindL wide vars t
  · obtain ⟨_, _, hv4, h4, h5, r, hr, _⟩ := root_tree hk
    rw [decide_eq_true hk] at gg
    obtain ⟨hok, hlen, hN⟩ := h
    rcases hN with ⟨rfl, _⟩ | ⟨b, off, cap, rfl, hlt, hc⟩
    · simp at h4
    have htr : TreeAt wide vars Tr.leaf Tr.one Tr.two t (t.length - 1) ⟨0, r.kind, r⟩ := ⟨[], by rw [show t.length - 1 + 1 = t.length from by omega]; exact hr⟩
    have hbd := treeT_text hok h5 htr
    have GD : Hid (∀ (i : Int) (w1 : World), i.toNat = t.length - 1 → 0 ≤ i → Below w.heap.size w w1 → Calls Tryd.prog 39 #[.slice (some ⟨b, off, none⟩) t.length cap, .int .i64 i] w1 fun e w' => e = .returned (tx (trText r)) ∧ Below w1.heap.size w1 w') := by
      intro i w1 hi h0 hb
      have hc1 : Cells w1 b off t := by
        intro i x hx
        rw [hb.cell (p := ⟨b, off + i * 2, none⟩) hlt, hb.cell (p := ⟨b, off + i * 2 + 1, none⟩) hlt]
        exact hc i x hx
      have g := l3Text_any (cap := cap) hv4 hok h5 (t.length - 1) (t.length - 1) (Nat.le_refl _) ⟨0, r.kind, r⟩ htr w1 (Nat.lt_of_lt_of_le hlt hb.size) hc1
      rw [show ((t.length - 1 : Nat) : Int) = i from by omega] at g
      exact g
    by_cases h8 : (trText r).length ≤ 800
    · obtain ⟨e1, e2⟩ := textB_yes hk hr h8
      rw [e1, e2]
      simp only at hbd
      clear hr hk hc hok htr e1 e2
      generalize trText r = D at *
      go_enter Tryd.func19, Tryd.ntmps19
      go_wp2_with fail
      refine gg.mono ?_
      rintro e w1 ⟨rfl, hb⟩
      have HB : Hid _ := hb
      clear gg hb
      go_wp2_with fail
      refine (GD.out _ _ (by omega) (by omega) HB.out).mono ?_
      rintro e w2 ⟨rfl, hb2⟩
      have HB2 : Hid (Below w.heap.size w w2) := HB.out.trans (hb2.mono HB.out.size)
      clear hb2 GD
      go_wp2_with fail
      go_ret2
      exact ⟨rfl, HB2.out⟩
    · obtain ⟨e1, e2⟩ := textB_long hk hr h8
      rw [e1, e2]
      simp only at hbd
      clear hr hk hc hok htr e1 e2
      generalize trText r = D at *
      go_enter Tryd.func19, Tryd.ntmps19
      go_wp2_with fail
      refine gg.mono ?_
      rintro e w1 ⟨rfl, hb⟩
      have HB : Hid _ := hb
      clear gg hb
      go_wp2_with fail
      refine (GD.out _ _ (by omega) (by omega) HB.out).mono ?_
      rintro e w2 ⟨rfl, hb2⟩
      have HB2 : Hid (Below w.heap.size w w2) := HB.out.trans (hb2.mono HB.out.size)
      clear hb2 GD
      go_wp2_with fail
      go_ret2
      exact ⟨rfl, HB2.out⟩
  · obtain ⟨e1, e2⟩ := textB_no hk
    rw [e1, e2]
    rw [decide_eq_false hk] at gg
    clear hk h e1 e2
    go_enter Tryd.func19, Tryd.ntmps19
    go_wp2_with fail
    refine gg.mono ?_
    rintro e w1 ⟨rfl, hb⟩
    have HB : Hid _ := hb
    clear gg hb
    go_wp2_with fail
    go_ret2
    exact ⟨rfl, HB.out⟩
end Go.Proofs.YtkfplichekebdaaDoor

namespace Go.Proofs.YtkfplichekebdaaDoor
open Go Go.RowKit
open M
set_option linter.unusedVariables false

/-- a row of nodes is read in one way -/
theorem flat_one_way {wide vars wide' vars' : Int} : ∀ (T1 : Tr) (s1 s2 : List Nd) (T2 : Tr), T1.Ok wide vars → T2.Ok wide' vars' → s1 ++ T1.flat = s2 ++ T2.flat → T1 = T2 ∧ s1 = s2
  | .leaf x, s1, s2, T2, h1, h2, e => by
    have e' := e
    rw [Tr.flat_eq T2, ← List.append_assoc] at e'
    obtain ⟨e1, e2⟩ := List.append_inj' (show s1 ++ [x] = (s2 ++ T2.parts.flatMap Tr.flat) ++ [T2.nd] from e') rfl
    have hx : x = T2.nd := by simpa using e2
    have hm := (Tr.ok_nd h2).2.2
    rw [← hx, h1.2.2] at hm
    cases T2 with
    | leaf y =>
      simp [Tr.nd] at hx
      subst hx
      exact ⟨rfl, by simpa [Tr.parts] using e1⟩
    | one y a => simp [Tr.parts] at hm
    | two y a b => simp [Tr.parts] at hm
  | .one x a, s1, s2, T2, h1, h2, e => by
    have e' := e
    rw [Tr.flat_eq T2, ← List.append_assoc] at e'
    obtain ⟨e1, e2⟩ := List.append_inj' (show (s1 ++ a.flat) ++ [x] = (s2 ++ T2.parts.flatMap Tr.flat) ++ [T2.nd] from by rw [← e']; simp [Tr.flat]) rfl
    have hx : x = T2.nd := by simpa using e2
    have hm := (Tr.ok_nd h2).2.2
    rw [← hx, h1.2.2.1] at hm
    cases T2 with
    | leaf y => simp [Tr.parts] at hm
    | one y c =>
      simp [Tr.nd] at hx
      subst hx
      obtain ⟨f1, f2⟩ := flat_one_way a s1 s2 c h1.2.2.2.2 h2.2.2.2.2 (by simpa [Tr.parts] using e1)
      exact ⟨by rw [f1], f2⟩
    | two y c d => simp [Tr.parts] at hm
  | .two x a b, s1, s2, T2, h1, h2, e => by
    have e' := e
    rw [Tr.flat_eq T2, ← List.append_assoc] at e'
    obtain ⟨e1, e2⟩ := List.append_inj' (show (s1 ++ a.flat ++ b.flat) ++ [x] = (s2 ++ T2.parts.flatMap Tr.flat) ++ [T2.nd] from by rw [← e']; simp [Tr.flat]) rfl
    have hx : x = T2.nd := by simpa using e2
    have hm := (Tr.ok_nd h2).2.2
    rw [← hx, h1.2.2.1] at hm
    cases T2 with
    | leaf y => simp [Tr.parts] at hm
    | one y c => simp [Tr.parts] at hm
    | two y c d =>
      simp [Tr.nd] at hx
      subst hx
      obtain ⟨f1, f2⟩ := flat_one_way b (s1 ++ a.flat) (s2 ++ c.flat) d h1.2.2.2.2.2.2 h2.2.2.2.2.2.2 (by simpa [Tr.parts] using e1)
      obtain ⟨f3, f4⟩ := flat_one_way a s1 s2 c h1.2.2.2.2.2.1 h2.2.2.2.2.2.1 f2
      exact ⟨by rw [f1, f3], f4⟩
/-- the tree of the row of a good tree is that tree -/
theorem root_of_flat {wide vars : Int} {T : Tr} (h : T.Ok wide vars) (hw : wideB wide = true) (h1 : 1 ≤ vars) (h4 : vars ≤ 4) (hs : T.size ≤ 48) : 0 < kindL wide vars T.flat ∧ pileT wide vars T.flat T.flat.length = some [⟨0, T.kind, T⟩] := by
  have hk := Tr.kindL_eq h hw h1 h4 hs
  have hp : 0 < kindL wide vars T.flat := by
    rw [hk]
    have := Tr.kind_pos h
    omega
  obtain ⟨_, _, _, _, _, r, hr, k1, k2, _⟩ := root_tree hp
  obtain ⟨e, _⟩ := flat_one_way r [] [] T k1 h (by simpa using k2)
  subst e
  exact ⟨hp, hr⟩
/-- the value of the row of a good tree -/
theorem value_of_flat {k : Nat} {st : List Int} {T : Tr} (h : T.Ok k st.length) (hk1 : 1 ≤ k) (hk : k ≤ 64) (h1 : 1 ≤ st.length) (h4 : st.length ≤ 4) (hs : T.size ≤ 48) (hst : ∀ s ∈ st, goodB k s = true) : saidV k T.flat st = true ∧ valueL k T.flat st = trVal k st T := by
  obtain ⟨p1, p2⟩ := root_of_flat h (decide_eq_true (by omega)) (by omega) (by omega) hs
  have hs1 : saidV k T.flat st = true := by
    unfold saidV
    rw [decide_eq_true p1, Bool.true_and]
    exact List.all_eq_true.2 hst
  refine ⟨hs1, ?_⟩
  have := valueL_tree hs1 p2
  simpa using this
theorem saidV_open {wide : Int} {t : List Nd} {st : List Int} (h : saidV wide t st = true) : 0 < kindL wide st.length t ∧ ∀ s ∈ st, goodB wide s = true := by
  unfold saidV at h
  rw [Bool.and_eq_true] at h
  exact ⟨of_decide_eq_true h.1, List.all_eq_true.1 h.2⟩
/-- what is said of a folded term: it comes to the same with the same variables and of the same kind, and is folded already -/
theorem folded_said {k : Nat} {t : List Nd} {st : List Int} (hok : ∀ x ∈ t, NdOk x) (h : saidV k t st = true) :
    0 < kindL k st.length t ∧ saidV k (foldL k st.length t) st = true ∧ valueL k (foldL k st.length t) st = valueL k t st ∧ kindL k st.length (foldL k st.length t) = kindL k st.length t ∧ foldL k st.length (foldL k st.length t) = foldL k st.length t ∧ varsInL k st.length (foldL k st.length t) = varsInL k st.length t := by
  obtain ⟨hp, hst⟩ := saidV_open h
  obtain ⟨g1, g2, g3, g4, g5, r, hr, k1, k2, k3⟩ := root_tree hp
  obtain ⟨k', e, hk1, hk64⟩ := wideB_true g1
  obtain rfl : k = k' := by omega
  have hpos : Pos r := by
    intro x hx
    rw [k2] at hx
    exact (hok x hx).2.2.1
  obtain ⟨f1, f2⟩ := trFold_ok hk1 hk64 r k1 hpos
  have hsz : r.size ≤ 48 := by
    have := r.flat_len
    rw [k2] at this
    omega
  have fsz : (trFold k r).size ≤ 48 := Nat.le_trans (trFold_size k r) hsz
  have hf : foldL k st.length t = (trFold k r).flat := by
    have := foldL_tree hp hr
    simpa using this
  obtain ⟨q1, q2⟩ := root_of_flat f1 g1 g2 g3 fsz
  obtain ⟨v1, v2⟩ := value_of_flat f1 hk1 hk64 (by omega) (by omega) fsz hst
  have hvt : valueL k t st = trVal k st r := by
    have := valueL_tree h hr
    simpa using this
  have hv4 : ∀ x ∈ r.flat, x.1 = 2 → 0 ≤ x.2 ∧ x.2 < 4 := by
    intro x hx h2
    have h3 := ok_vars k1 x hx h2
    have h4 := hpos x hx
    omega
  have hv4' : ∀ x ∈ (trFold k r).flat, x.1 = 2 → 0 ≤ x.2 ∧ x.2 < 4 := by
    intro x hx h2
    have h3 := ok_vars f1 x hx h2
    have h4 := f2 x hx
    omega
  refine ⟨hp, ?_, ?_, ?_, ?_, ?_⟩
  · rw [hf]
    exact v1
  · rw [hf, v2, hvt]
    exact trFold_val k st r
  · rw [hf, Tr.kindL_eq f1 g1 g2 g3 fsz, trFold_kind k r k1]
    exact k3
  · rw [hf]
    have := foldL_tree q1 q2
    rw [this]
    simp only [Int.toNat_natCast]
    rw [trFold_again]
  · rw [hf]
    unfold varsInL
    rw [if_pos q1, if_pos hp, varsL_sorted _ _ rfl hv4', varsL_sorted t.length t rfl (by rw [← k2]; exact hv4)]
    congr 1
    funext i
    apply decide_eq_decide.2
    rw [← k2]
    exact trFold_mem k i r k1
end Go.Proofs.YtkfplichekebdaaDoor
