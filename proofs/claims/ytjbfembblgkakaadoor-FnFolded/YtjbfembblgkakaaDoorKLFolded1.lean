/-
  The walk of the exact law of ValueOf, out of what the program's own function does.
  What a tree comes to in a state: the program's value and ValueOf.
  The program's ValueOf.
  The walk of the exact law of VarsIn, out of what the program's own function does.
  The variables of a tree: the program's nameVars, hasVars and VarsIn.
  The program's hasVars and VarsIn.
  The walk of the exact law of FoldTerm, out of what the program's own function does.
  A tree that is folded: the program's hasVars, leafOf, fold and FoldTerm.
  The program's leafOf, fold and FoldTerm.
  The program's FoldTerm.
  The program's GoodTerm and KindOf.
  The walk of the law of folded terms.
-/
import Derived.Test.YtjbfembblgkakaaDoorLGood
import Derived.Test.YtjbfembblgkakaaDoorU64
import Derived.Test.YtjbfembblgkakaaDoorINum
import Derived.Test.YtjbfembblgkakaaDoorILay2
import Derived.Test.YtjbfembblgkakaaDoorTreeM
import Derived.Test.YtjbfembblgkakaaDoorVars
import Derived.Test.YtjbfembblgkakaaDoorLTurn
import Derived.Test.YtjbfembblgkakaaDoorFold5
import Derived.Test.YtjbfembblgkakaaDoorTreeM2
import Derived.Test.YtjbfembblgkakaaDoorIRoot
import Derived.Test.YtjbfembblgkakaaDoorDrawD
import Derived.Test.YtjbfembblgkakaaDoorTreeM3
namespace Go.Proofs.YtjbfembblgkakaaDoor
open Go Go.RowKit
open M
set_option linter.unusedVariables false

/-- what the program's ValueOf is to do -/
def DoesValueOf : Prop := ∀ (wide : Int) (v sv : Value) (t : List Nd) (st : List Int) (w : World), Tab w → NodesAt w v t → t.length ≤ 1048576 → StAt w sv st → StOk st →
  Calls Tryd.prog 20 #[.int .i64 wide, v, sv] w fun e w' => e = .returned (.tuple #[.int .u64 (valueL wide t st), .bool (saidV wide t st)]) ∧ Below w.heap.size w w'
end Go.Proofs.YtjbfembblgkakaaDoor

namespace Go.Proofs.YtjbfembblgkakaaDoor
open Go Go.RowKit
open M
set_option linter.unusedVariables false

/-- what value does with a tree -/
def ValP (k : Nat) (vars : Int) (st : List Int) (sv : Value) (r : Tr) : Prop := ∀ (b : Nat) (w : World), Tab w → TrAt w (Old w) r b → StAt w sv st → r.Ok k vars → Pos r → VarsBelow r st.length →
  Calls Tryd.prog 81 #[ptr b, .int .i64 k, sv] w fun e w' => e = .returned (.int .u64 (trVal k st r)) ∧ Below w.heap.size w w'
set_option maxRecDepth 100000 in
set_option maxHeartbeats 1000000 in
theorem value_lit (k : Nat) (sv : Value) (b : Nat) (op n : Int) (w : World) (hop : op = 1 ∨ op = 20) (c0 : w.cell? ⟨b, 0, none⟩ = some (.int .i64 op)) (c1 : w.cell? ⟨b, 1, none⟩ = some (.int .u64 n)) :
    Calls Tryd.prog 81 #[ptr b, .int .i64 k, sv] w fun e w' => e = .returned (.int .u64 n) ∧ w' = w := by
  rcases hop with rfl | rfl
  all_goals
    go_enter Tryd.func81, Tryd.ntmps81
    go_wp2_with fail
    go_ret
    exact ⟨rfl, rfl⟩
set_option maxRecDepth 100000 in
set_option maxHeartbeats 1000000 in
theorem value_var (k : Nat) (sv : Value) (st : List Int) (b i : Nat) (s : Int) (w : World) (hst : st.length ≤ 1048576) (hs : StAt w sv st) (hi : st[i]? = some s) (c0 : w.cell? ⟨b, 0, none⟩ = some (.int .i64 2)) (c1 : w.cell? ⟨b, 1, none⟩ = some (.int .u64 i)) :
    Calls Tryd.prog 81 #[ptr b, .int .i64 k, sv] w fun e w' => e = .returned (.int .u64 s) ∧ w' = w := by
  have hil : i < st.length := (List.getElem?_eq_some_iff.1 hi).1
  rcases hs with ⟨rfl, _⟩ | ⟨sb, so, sc, rfl, hsb, hcs⟩
  · simp at hil
  · have cs := hcs i s hi
    clear hcs hi
    go_enter Tryd.func81, Tryd.ntmps81
    go_wp2_with fail
    go_ret
    exact ⟨rfl, rfl⟩
/-- the two values of parts, 0 where there is none -/
def twoOf (l : List Int) : Array Value := #[.int .u64 (l.getD 0 0), .int .u64 (l.getD 1 0)]
theorem twoOf_put (l : List Int) (v : Int) (h : l.length < 2) : (twoOf l).setIfInBounds l.length (.int .u64 v) = twoOf (l ++ [v]) := by
  match l, h with
  | [], _ => rfl
  | [a], _ => rfl
  | _ :: _ :: _, h => simp at h; omega
set_option maxRecDepth 100000 in
set_option maxHeartbeats 4000000 in
theorem value_parts (k : Nat) (vars : Int) (st : List Int) (sv : Value) (r : Tr) (ih : ∀ q ∈ r.parts, ValP k vars st sv q) (hne : r.parts ≠ []) (Z : Int)
    (hfin : (r.kind = 1 ∧ ∀ w1, Tab w1 → Calls Tryd.prog 142 #[.int .i64 k, .int .i64 r.nd.1, .int .u64 ((r.parts.map (trVal k st)).getD 0 0), .int .u64 ((r.parts.map (trVal k st)).getD 1 0)] w1 fun e w' => e = .returned (.int .u64 Z) ∧ (w' = w1 ∨ w' = w1.drew)) ∨
      (r.kind = 2 ∧ ∀ w1, Tab w1 → Calls Tryd.prog 141 #[.int .i64 k, .int .i64 r.nd.1, .int .u64 ((r.parts.map (trVal k st)).getD 0 0), .int .u64 ((r.parts.map (trVal k st)).getD 1 0)] w1 fun e w' => ∃ p : Bool, e = .returned (.bool p) ∧ (if p = true then 1 else 0) = Z ∧ w' = w1))
    (b : Nat) (w : World) (hT : Tab w) (htr : TrAt w (Old w) r b) (hs : StAt w sv st) (hok : r.Ok k vars) (hp : Pos r) (hv : VarsBelow r st.length) :
    Calls Tryd.prog 81 #[ptr b, .int .i64 k, sv] w fun e w' => e = .returned (.int .u64 Z) ∧ Below w.heap.size w w' := by
  obtain ⟨ps, ⟨hb, n0, n1, n2, _, pvl, n4, hpv⟩, hpt⟩ := trAt_open htr
  have hmany := (Tr.ok_nd hok).2.2
  have hpl2 : ps.length ≤ 2 := by
    have h2 : r.parts.length ≤ 2 := by cases r <;> simp [Tr.parts]
    have := hpt.1
    omega
  have hm0 : manyOf r.nd.1 ≠ 0 := by
    rw [hmany]
    intro e
    exact hne (List.length_eq_zero_iff.1 e)
  have hops := many_ops hm0
  have e1 : (r.nd.1 == 1) = false := beq_eq_false_iff_ne.2 (by omega)
  have e20 : (r.nd.1 == 20) = false := beq_eq_false_iff_ne.2 (by omega)
  have e2 : (r.nd.1 == 2) = false := beq_eq_false_iff_ne.2 (by omega)
  have HIH : Hid (∀ (j q' : Nat) (q : Tr) (w1 : World), r.parts[j]? = some q → ps[j]? = some q' → Below w.heap.size w w1 → Calls Tryd.prog 81 #[ptr q', .int .i64 k, sv] w1 fun e w' => e = .returned (.int .u64 (trVal k st q)) ∧ Below w1.heap.size w1 w') := by
    intro j q' q w1 hq hq' hb1
    have hmem := List.mem_of_getElem? hq
    have hfl : ∀ x ∈ q.flat, x ∈ r.flat := by
      intro x hx
      rw [Tr.flat_eq r]
      exact List.mem_append_left _ (List.mem_flatMap.2 ⟨q, hmem, hx⟩)
    exact ih q hmem q' w1 (hT.below hb1 hT.some) ((hpt.2 j q q' hq hq').below hb1) (hs.below hb1) (Tr.ok_parts hok q hmem).2 (fun x hx => hp x (hfl x hx)) (fun x hx => hv x (hfl x hx))
  obtain ⟨pa, pc, hpsh⟩ := hpv.shape
  have HPV : Hid _ := hpv
  have HL : Hid (r.parts.length = ps.length) := hpt.1
  have HT : Hid (Tab w) := hT
  have HFIN : Hid _ := hfin
  have HN0 : Hid _ := n0
  have HN2 : Hid _ := n2
  have HBD : Hid (b < w.heap.size) := hb
  clear ih hpt hpv htr hs hp hv hok hT hfin hne hmany hm0 hops hb
  subst hpsh
  have n4a : (w.alloc (.cells #[.int .u64 0, .int .u64 0] 179)).cell? ⟨b, 4, none⟩ = some (.slice pa ps.length pc) := by
    rw [← n4]
    exact World.cell?_of_block (w := w) (a := ⟨b, 4, none⟩) (Below.heap_alloc _ _ _ HBD.out)
  generalize r.nd.1 = op at *
  go_enter Tryd.func81, Tryd.ntmps81
  go_wp2_with fail
  go_loopw [38] (fun i wr => ∃ j : Nat, j ≤ ps.length ∧ i = .int .i64 j ∧ Hid (wr.heap[w.heap.size]? = some (.cells (twoOf ((r.parts.take j).map (trVal k st))) 179 (0, 0))) ∧ Hid (Below w.heap.size w wr)) (fun i _ => ps.length - (intOf i).toNat)
  case atStart =>
    refine ⟨0, by omega, rfl, ?_, (Below.refl _ _).alloc (Nat.le_refl _) _⟩
    show (w.heap.push _)[w.heap.size]? = _
    simp [twoOf]
  case round =>
    obtain ⟨j, hj, rfl, HH, HB⟩ := hrel
    by_cases hlt' : j < ps.length
    · obtain ⟨p, hp⟩ : ∃ p, ps[j]? = some p := ⟨ps[j], List.getElem?_eq_getElem hlt'⟩
      obtain ⟨q, hq⟩ : ∃ q, r.parts[j]? = some q := ⟨r.parts[j]'(by have := HL.out; omega), List.getElem?_eq_getElem _⟩
      obtain ⟨g, off, rfl, hg, c0⟩ := PtrsAt.at HPV.out hp
      rw [← HB.out.cell (p := ⟨g, off + j, none⟩) hg] at c0
      have gI := HIH.out j p q wr hq hp HB.out
      have HE : Hid ((r.parts.take (j + 1)).map (trVal k st) = (r.parts.take j).map (trVal k st) ++ [trVal k st q] ∧ ((r.parts.take j).map (trVal k st)).length = j) := by
        constructor
        · rw [List.take_add_one, hq]
          simp
        · have := HL.out
          simp
          omega
      have hlw : w.heap.size < wr.heap.size := (Array.getElem?_eq_some_iff.1 HH.out).1
      clear hp hq hg
      generalize trVal k st q = vq at *
      generalize (r.parts.take j).map (trVal k st) = vj at *
      go_wp2_with fail
      refine gI.mono ?_
      rintro e w2 ⟨rfl, hb2⟩
      have HH2 : Hid (w2.heap[w.heap.size]? = some (.cells (twoOf vj) 179 (0, 0))) := by
        show w2.heap[w.heap.size]? = _
        rw [hb2.block _ hlw]
        exact HH.out
      have HB2 : Hid (Below w.heap.size w w2) := HB.out.trans (hb2.mono HB.out.size)
      have d0 : w2.cell? ⟨w.heap.size, j, none⟩ = some (.int .u64 (vj.getD j 0)) := by
        rw [cell_heap HH2.out]
        rcases (show j = 0 ∨ j = 1 by omega) with rfl | rfl <;> rfl
      have f0 := frozen_heap (o := j) HH2.out
      have HH3 : Hid ((w2.setCell ⟨w.heap.size, j, none⟩ (.int .u64 vq)).heap[w.heap.size]? = some (.cells (twoOf ((r.parts.take (j + 1)).map (trVal k st))) 179 (0, 0))) := by
        show (w2.setCell ⟨w.heap.size, j, none⟩ (.int .u64 vq)).heap[w.heap.size]? = _
        rw [heap_set HH2.out, HE.out.1]
        have h := twoOf_put vj vq (by have := HE.out.2; omega)
        rw [HE.out.2] at h
        rw [h]
      have HB3 : Hid (Below w.heap.size w (w2.setCell ⟨w.heap.size, j, none⟩ (.int .u64 vq))) := HB2.out.setCell (p := ⟨w.heap.size, j, none⟩) (Nat.le_refl _) _
      clear gI hb2
      go_wp2_with fail
      go_roundw
      case rel => exact ⟨j + 1, by omega, by go_num, HH3, HB3⟩
      case measure => simp [intOf]; omega
    · obtain rfl : j = ps.length := by omega
      have hh : wr.heap[w.heap.size]? = some (.cells (twoOf (r.parts.map (trVal k st))) 179 (0, 0)) := by
        have h1 := HH.out
        rw [show r.parts.take ps.length = r.parts from by rw [← HL.out, List.take_length]] at h1
        exact h1
      have d0 := cell_heap (o := 0) hh
      have d1 := cell_heap (o := 1) hh
      simp only [twoOf, List.getElem?_toArray, List.getElem?_cons_succ, List.getElem?_cons_zero] at d0 d1
      have m0 : wr.cell? ⟨b, 0, none⟩ = some (.int .i64 op) := by
        rw [HB.out.cell (p := ⟨b, 0, none⟩) HBD.out]
        exact HN0.out
      have m2 : wr.cell? ⟨b, 2, none⟩ = some (.int .i64 r.kind) := by
        rw [HB.out.cell (p := ⟨b, 2, none⟩) HBD.out]
        exact HN2.out
      have HTr : Hid (Tab wr) := HT.out.below HB.out HT.out.some
      clear HH hh HIH HPV HL
      generalize (r.parts.map (trVal k st)).getD 0 0 = x0 at *
      generalize (r.parts.map (trVal k st)).getD 1 0 = x1 at *
      rcases HFIN.out with ⟨hk, gN⟩ | ⟨hk, gH⟩
      · rw [hk] at m2
        have g9 := gN wr.drew HTr.out
        clear hk gN HFIN
        go_wp2_with fail
        go_region_with (go_at_call 142; refine g9.mono ?_; rintro e w9 ⟨rfl, hw9⟩; have HB9 : Hid (Below w.heap.size w w9) := (by rcases hw9 with rfl | rfl; exact HB.out.drew; exact HB.out.drew.drew); clear hw9)
        all_goals
          clear g9
          go_wp2_with fail
          go_ret
          exact ⟨rfl, HB9.out⟩
      · rw [hk] at m2
        have g9 := gH wr.drew HTr.out
        have gB : ∀ p : Bool, (if p = true then (1 : Int) else 0) = Z → Calls Tryd.prog 140 #[.bool p] wr.drew fun e w' => e = .returned (.int .u64 Z) ∧ w' = wr.drew := fun p hz => by rw [← hz]; exact bitOf_any p wr.drew
        have GB : Hid _ := gB
        clear gB
        clear hk gH HFIN
        go_wp2_with fail
        go_region_with (first | (go_at_call 141; refine g9.mono ?_; rintro e w9 ⟨pz, rfl, hz9, rfl⟩; have HZ9 : Hid _ := hz9; clear hz9) | (go_at_call 140; refine (GB.out _ HZ9.out).mono ?_; rintro e w9 ⟨rfl, rfl⟩))
        all_goals
          clear g9 GB
          go_wp2_with fail
          go_ret
          exact ⟨rfl, HB.out.drew⟩
theorem value_any (k : Nat) (hk1 : 1 ≤ k) (hk : k ≤ 64) (vars : Int) (st : List Int) (sv : Value) (hst : ∀ s ∈ st, 0 ≤ s ∧ s < pw k) (hsl : st.length ≤ 1048576) : ∀ r : Tr, ValP k vars st sv r := by
  apply Tr.ind
  intro r ih
  cases r with
  | leaf x =>
    intro b w hT htr hs hok hp hv
    obtain ⟨op, n⟩ := x
    obtain ⟨_, n0, n1, _⟩ := htr
    obtain ⟨h1, h2, m0⟩ := hok
    have hn0 := hp (op, n) (by simp [Tr.flat])
    have hvv := hv (op, n) (by simp [Tr.flat])
    simp only at h1 h2 m0 hn0 hvv n0 n1
    have hop : op = 1 ∨ op = 2 ∨ op = 20 := by
      unfold manyOf at m0
      unfold ownOf at h1
      split at m0
      · omega
      · split at m0
        · omega
        · split at h1
          · omega
          · split at h1 <;> omega
    by_cases h2' : op = 2
    · subst h2'
      obtain ⟨i, rfl⟩ := Int.eq_ofNat_of_zero_le hn0
      have hlt := hvv rfl
      have hi : st[i]? = some (trVal k st (.leaf (2, (i : Int)))) := by
        show st[i]? = some (st.getD ((i : Int).toNat) 0)
        rw [Int.toNat_natCast] at hlt ⊢
        rw [List.getD_eq_getElem?_getD, List.getElem?_eq_getElem hlt]
        rfl
      refine (value_var k sv st b i _ w hsl hs hi n0 n1).mono ?_
      rintro e w' ⟨he, rfl⟩
      exact ⟨he, Below.refl _ _⟩
    · have e : trVal k st (.leaf (op, n)) = n := by
        show val0 st (op, n) = n
        unfold val0
        rw [if_neg h2']
      rw [e]
      refine (value_lit k sv b op n w (by omega) n0 n1).mono ?_
      rintro e w' ⟨he, rfl⟩
      exact ⟨he, Below.refl _ _⟩
  | one x a =>
    intro b w hT htr hs hok hp hv
    obtain ⟨op, n⟩ := x
    obtain ⟨_, _, m1, hka, ha⟩ := id hok
    have hvo := trVal_ok hk1 hk hst ha (fun x hx => hp x (by simp [Tr.flat, hx])) (fun x hx => hv x (by simp [Tr.flat, hx]))
    simp only at m1 hka
    have hop : op = 13 ∨ op = 19 := by
      unfold manyOf at m1
      split at m1
      · assumption
      · split at m1 <;> omega
    refine value_parts k vars st sv (.one (op, n) a) ih (by simp [Tr.parts]) _ ?_ b w hT htr hs hok hp hv
    rcases hop with rfl | rfl
    · left
      rcases hvo with ⟨_, h0, h1⟩ | ⟨h2, _⟩
      · exact ⟨rfl, fun w1 hT1 => numberOf_flip k hk1 hk (trVal k st a) 0 h0 h1 w1 hT1⟩
      · simp only at h2
        rw [h2] at hka
        cases hka
    · right
      rcases hvo with ⟨h2, _⟩ | ⟨_, h0⟩
      · simp only at h2
        rw [h2] at hka
        cases hka
      · exact ⟨rfl, fun w1 hT1 => holdsOf_no k (trVal k st a) 0 h0 w1⟩
  | two x a c =>
    intro b w hT htr hs hok hp hv
    obtain ⟨op, n⟩ := x
    obtain ⟨_, _, m2, hka, hkc, ha, hc⟩ := id hok
    have hva := trVal_ok hk1 hk hst ha (fun x hx => hp x (by simp [Tr.flat, hx])) (fun x hx => hv x (by simp [Tr.flat, hx]))
    have hvc := trVal_ok hk1 hk hst hc (fun x hx => hp x (by simp [Tr.flat, hx])) (fun x hx => hv x (by simp [Tr.flat, hx]))
    simp only at m2 hka hkc
    have hop : (3 ≤ op ∧ op ≤ 12) ∨ (14 ≤ op ∧ op ≤ 16) ∨ (op = 17 ∨ op = 18) := by
      unfold manyOf at m2
      split at m2
      · cases m2
      · split at m2 <;> omega
    have wa := hva.word hk1
    have wc := hvc.word hk1
    simp only at wa wc
    refine value_parts k vars st sv (.two (op, n) a c) ih (by simp [Tr.parts]) _ ?_ b w hT htr hs hok hp hv
    rcases hop with hop | hop | hop
    · left
      exact ⟨by show ownOf op = 1; unfold ownOf; rw [if_pos (by omega)], fun w1 hT1 => numberOf_any op hop k hk1 hk (trVal k st a) (trVal k st c) wa.1 wa.2 wc.1 wc.2 w1 hT1⟩
    · right
      refine ⟨by show ownOf op = 2; unfold ownOf; rw [if_neg (by omega), if_pos (by omega)], fun w1 hT1 => ?_⟩
      rcases (show op = 14 ∨ op = 15 ∨ op = 16 by omega) with rfl | rfl | rfl
      · exact holdsOf_14 k hk1 hk (trVal k st a) (trVal k st c) wa.1 wa.2 wc.1 wc.2 w1 hT1
      · exact holdsOf_15 k hk1 hk (trVal k st a) (trVal k st c) wa.1 wa.2 wc.1 wc.2 w1 hT1
      · exact holdsOf_16 k hk1 hk (trVal k st a) (trVal k st c) wa.1 wa.2 wc.1 wc.2 w1 hT1
    · right
      have hp2 : partOf op = 2 := by
        unfold partOf
        rw [if_neg (by omega), if_pos (by omega)]
      rw [hp2] at hka hkc
      have v1 : trVal k st a = 0 ∨ trVal k st a = 1 := by
        rcases hva with ⟨h, _⟩ | ⟨_, h⟩
        · simp only at h
          rw [h] at hka
          cases hka
        · exact h
      have v2 : trVal k st c = 0 ∨ trVal k st c = 1 := by
        rcases hvc with ⟨h, _⟩ | ⟨_, h⟩
        · simp only at h
          rw [h] at hkc
          cases hkc
        · exact h
      refine ⟨by show ownOf op = 2; unfold ownOf; rw [if_neg (by omega), if_pos (by omega)], fun w1 hT1 => ?_⟩
      rcases hop with rfl | rfl
      · exact holdsOf_17 k (trVal k st a) (trVal k st c) v1 v2 w1
      · exact holdsOf_18 k (trVal k st a) (trVal k st c) v1 v2 w1
end Go.Proofs.YtjbfembblgkakaaDoor

namespace Go.Proofs.YtjbfembblgkakaaDoor
open Go Go.RowKit
open M
set_option linter.unusedVariables false

set_option maxRecDepth 100000 in
set_option maxHeartbeats 2000000 in
theorem impl_ValueOf : DoesValueOf := by
  intro wide v sv t st w hT h hl hs hok
  obtain ⟨hsl, hsb⟩ := hok
  obtain ⟨sa, sc, rfl⟩ : ∃ sa sc, sv = .slice sa st.length sc := by
    rcases hs with ⟨rfl, a, cap, h⟩ | ⟨b, off, cap, h, _⟩
    · exact ⟨a, cap, h⟩
    · exact ⟨_, cap, h⟩
  have HC : Hid (∀ (j : Nat) (s : Int), st[j]? = some s → ∃ b off : Nat, sa = some ⟨b, off, none⟩ ∧ b < w.heap.size ∧ w.cell? ⟨b, off + j, none⟩ = some (.int .u64 s)) := by
    intro j s hj
    rcases hs with ⟨rfl, _⟩ | ⟨b, off, cap, he, hlt, hc⟩
    · simp at hj
    · simp at he
      exact ⟨b, off, he.1, hlt, hc j s hj⟩
  by_cases hk : 0 < kindL wide st.length t
  · obtain ⟨g1, g2, g3, g4, g5, r, hr, k1, k2, k3⟩ := root_tree hk
    have g := rootOf_yes wide st.length v t w hT h r hk hr
    obtain ⟨k, rfl, hk1, hk64⟩ := wideB_true g1
    have HV : Hid (∀ (b : Nat) (w1 : World), Below w.heap.size w w1 → TrAt w1 (Old w1) r b → (∀ s ∈ st, goodB k s = true) → Calls Tryd.prog 81 #[ptr b, .int .i64 k, .slice sa st.length sc] w1 fun e w' => e = .returned (.int .u64 (trVal k st r)) ∧ Below w1.heap.size w1 w') := by
      intro b w1 hb htr hall
      have hst : ∀ s ∈ st, 0 ≤ s ∧ s < pw k := by
        intro s hs'
        obtain ⟨k', e, _, _, h3⟩ := goodB_true (hall s hs')
        obtain rfl : k = k' := by omega
        exact ⟨(hsb s hs').1, h3⟩
      refine value_any k hk1 hk64 st.length st _ hst hsl r b w1 (hT.below hb hT.some) htr (hs.below hb) k1 ?_ ?_
      · intro x hx
        rw [k2] at hx
        exact (h.1 x hx).2.2.1
      · intro x hx h2
        have h3 := ok_vars k1 x hx h2
        rw [k2] at hx
        have h4 := (h.1 x hx).2.2.1
        omega
    have HT : Hid (Tab w) := hT
    have HSV : Hid ((∀ s ∈ st, goodB k s = true) → saidV k t st = true ∧ valueL k t st = trVal k st r) := by
      intro hall
      have hs1 : saidV k t st = true := by
        unfold saidV
        rw [decide_eq_true hk, Bool.true_and]
        exact List.all_eq_true.2 hall
      refine ⟨hs1, ?_⟩
      have := valueL_tree hs1 hr
      simpa using this
    have HSN : Hid ((∃ s ∈ st, goodB k s = false) → saidV k t st = false ∧ valueL k t st = 0) := by
      rintro ⟨s, hs1, hs2⟩
      have hs3 : saidV k t st = false := by
        unfold saidV
        rw [decide_eq_true hk, Bool.true_and]
        exact List.all_eq_false.2 ⟨s, hs1, by rw [hs2]; decide⟩
      refine ⟨hs3, ?_⟩
      unfold valueL
      rw [hs3]
      rfl
    have HSB : Hid _ := hsb
    generalize hVL : valueL k t st = VL
    generalize hSV : saidV k t st = SV
    rw [hVL, hSV] at HSV HSN
    clear hT h hs hk hr k1 k2 k3 g1 hsb hVL hSV
    go_enter Tryd.func20, Tryd.ntmps20
    go_wp2_with fail
    refine g.mono ?_
    rintro e w1 ⟨b, rfl, htr, hb1⟩
    have HTR : Hid _ := htr
    have HB1 : Hid _ := hb1
    clear g htr hb1
    go_wp2_with fail
    go_loop [20] (fun i => ∃ j : Nat, j ≤ st.length ∧ i = .int .i64 j ∧ Hid (∀ s ∈ st.take j, goodB k s = true)) (fun i => st.length - (intOf i).toNat)
    case atStart => exact ⟨0, by omega, rfl, (fun s hs => by simp at hs : ∀ s ∈ st.take 0, goodB k s = true)⟩
    case round =>
      obtain ⟨j, hj, rfl, HA⟩ := hrel
      by_cases hlt' : j < st.length
      · obtain ⟨s, hs⟩ : ∃ s, st[j]? = some s := ⟨st[j], List.getElem?_eq_getElem hlt'⟩
        obtain ⟨sb, so, rfl, hblt, cs⟩ := HC.out j s hs
        rw [← HB1.out.cell (p := ⟨sb, so + j, none⟩) hblt] at cs
        have gG := iGoodWord_any k s w1 (HT.out.below HB1.out HT.out.some)
        have HS : Hid (st[j]? = some s) := hs
        clear hs
        cases hgd : goodB k s with
        | true =>
          rw [hgd] at gG
          have HA2 : Hid (∀ s ∈ st.take (j + 1), goodB k s = true) := by
            intro x hx
            rw [List.take_add_one, HS.out] at hx
            rcases List.mem_append.1 hx with hx | hx
            · exact HA.out x hx
            · simp at hx
              subst hx
              exact hgd
          clear hgd HA
          go_wp2_with fail
          refine gG.mono ?_
          rintro e w2 ⟨rfl, rfl⟩
          clear gG
          go_wp2_with fail
          go_round
          case rel => exact ⟨j + 1, by omega, by go_num, HA2⟩
          case measure => simp [intOf]; omega
        | false =>
          rw [hgd] at gG
          have HN := HSN.out ⟨s, List.mem_of_getElem? HS.out, hgd⟩
          obtain ⟨h1, h2⟩ := HN
          subst h1 h2
          clear hgd HA
          go_wp2_with fail
          refine gG.mono ?_
          rintro e w2 ⟨rfl, rfl⟩
          clear gG
          go_wp2_with fail
          go_ret2
          exact ⟨rfl, HB1.out⟩
      · obtain rfl : j = st.length := by omega
        have hall : ∀ s ∈ st, goodB k s = true := by
          have h := HA.out
          rw [List.take_length] at h
          exact h
        obtain ⟨h1, h2⟩ := HSV.out hall
        have g9 := HV.out b w1 HB1.out HTR.out hall
        rw [← h2] at g9
        subst h1
        clear hall h2 HA HSV HSN HV
        go_wp2_with fail
        refine g9.mono ?_
        rintro e w2 ⟨rfl, hb2⟩
        have HB2 : Hid (Below w.heap.size w w2) := HB1.out.trans (hb2.mono HB1.out.size)
        clear g9 hb2
        go_wp2_with fail
        go_ret2
        exact ⟨rfl, HB2.out⟩
  · have g := rootOf_no wide st.length v t w hT h hk
    have hs1 : saidV wide t st = false := by
      unfold saidV
      rw [decide_eq_false hk, Bool.false_and]
    have hv1 : valueL wide t st = 0 := by
      unfold valueL
      rw [hs1]
      rfl
    rw [hs1, hv1]
    clear hT h hs hk hs1 hv1 hsb HC
    go_enter Tryd.func20, Tryd.ntmps20
    go_wp2_with fail
    refine g.mono ?_
    rintro e w1 ⟨rfl, hb1⟩
    have HB1 : Hid _ := hb1
    clear g hb1
    go_wp2_with fail
    go_ret2
    exact ⟨rfl, HB1.out⟩
end Go.Proofs.YtjbfembblgkakaaDoor

namespace Go.Proofs.YtjbfembblgkakaaDoor
open Go Go.RowKit
open M
set_option linter.unusedVariables false

theorem varsL_len (t : List Nd) : (varsL t).length ≤ t.length := by
  have h : ∀ n : Nat, n ≤ t.length → (varsL (t.take n)).length ≤ n := by
    intro n
    induction n with
    | zero => intro _; simp [varsL]
    | succ n ih =>
      intro hn
      obtain ⟨x, hx⟩ : ∃ x, t[n]? = some x := ⟨t[n], List.getElem?_eq_getElem (by omega)⟩
      have e : t.take (n + 1) = t.take n ++ [x] := by
        rw [List.take_add_one, hx]
        rfl
      rw [e, varsL_snoc]
      have i1 := ih (by omega)
      split
      · have := (putL_len (varsL (t.take n)) x.2).1
        omega
      · omega
  have h2 := h t.length (Nat.le_refl _)
  rw [List.take_length] at h2
  exact h2
theorem varsIn_len0 (wide vars : Int) (t : List Nd) : (varsInL wide vars t).length ≤ t.length := by
  unfold varsInL
  split
  · exact varsL_len t
  · simp
theorem varsIn_reads0 (wide vars : Int) (t : List Nd) (hwide0 : -9223372036854775808 ≤ wide) (hwide1 : wide ≤ 9223372036854775807) (hvars0 : -9223372036854775808 ≤ vars) (hvars1 : vars ≤ 9223372036854775807) (hok : ∀ x ∈ t, NdOk x) (hl : t.length ≤ 1048576) :
    ∀ (w1 : World) (B : Nat) (v1 : Value), OwnInts w1 B v1 (varsInL wide vars t) → IntsAt w1 v1 (varsInL wide vars t) := by
  intro w1 B v1 ho
  have := varsIn_len0 wide vars t
  exact ints_of_own (by omega) ho
/-- what the program's VarsIn is to do -/
def DoesVarsIn : Prop := ∀ (wide : Int) (vars : Int) (tv : Value) (t : List Nd) (w : World), Tab w → NodesAt w tv t → t.length ≤ 1048576 → -9223372036854775808 ≤ wide → wide ≤ 9223372036854775807 → -9223372036854775808 ≤ vars → vars ≤ 9223372036854775807 →
  Calls Tryd.prog 25 #[.int .i64 wide, .int .i64 vars, tv] w fun e w' => ∃ r0' : Value, e = .returned (.tuple #[r0', .bool (decide (0 < kindL wide vars t))]) ∧ OwnInts w' w.heap.size r0' (varsInL wide vars t) ∧ Below w.heap.size w w'
set_option maxRecDepth 100000 in
set_option maxHeartbeats 4000000 in
theorem varsIn_small (hI : DoesVarsIn) (wide : Int) (vars : Int) (hwide0 : -9223372036854775808 ≤ wide) (hwide1 : wide ≤ 9223372036854775807) (hvars0 : -9223372036854775808 ≤ vars) (hvars1 : vars ≤ 9223372036854775807) (tv : Value) (t : List Nd) (htot : t.length ≤ 1048576) (w : World) (hT : Tab w) (h_t : NodesAt w tv t) :
    Calls Tryd.prog 7 #[.int .i64 wide, .int .i64 vars, tv] w fun e w' => e = .returned (.bool true) ∧ Below w.heap.size w w' := by
  have hl_t : t.length ≤ 1048576 := by omega
  have z0 : Calls Tryd.prog 60 #[tv, .int .i64 (1048576)] w fun e w' => e = .returned (.int .i64 (1048576 - (t.length : Int))) ∧ w' = w := by
    obtain ⟨ad, cap, hsh⟩ := h_t.shape
    have g := szNodeS_any ad t.length cap (1048576) (by omega) (by omega) (by omega) w
    rw [if_neg (by omega), ← hsh] at g
    exact g
  have GT_t : Hid (∀ w1 : World, Below w.heap.size w w1 → Calls Tryd.prog 61 #[tv] w1 fun e w' => ∃ v', e = .returned v' ∧ OwnNodes w' w1.heap.size v' t ∧ Below w1.heap.size w1 w') := fun w1 hb => toNodeS_any tv t hl_t w1 (h_t.below hb)
  have HN_t : Hid (∀ (w1 : World) (B : Nat) (v1 : Value), OwnNodes w1 B v1 t → NodesAt w1 v1 t) := fun w1 B v1 ho => nodes_of_own h_t.1 (by omega) ho
  have GS : Hid (∀ (t1 : Value) (w1 : World), NodesAt w1 t1 t → Calls Tryd.prog 29 #[.int .i64 wide, .int .i64 vars, t1] w1 fun e w' => ∃ r0' : Value, e = .returned (.tuple #[r0', .bool (decide (0 < kindL wide vars t))]) ∧ OwnInts w' w1.heap.size r0' (varsInL wide vars t) ∧ Below w1.heap.size w1 w') := fun t1 w1 n_t => varsIn_any wide vars t1 t w1 n_t
  have GI : Hid (∀ (t1 : Value) (w1 : World), Below w.heap.size w w1 → NodesAt w1 t1 t → Calls Tryd.prog 25 #[.int .i64 wide, .int .i64 vars, t1] w1 fun e w' => ∃ r0' : Value, e = .returned (.tuple #[r0', .bool (decide (0 < kindL wide vars t))]) ∧ OwnInts w' w1.heap.size r0' (varsInL wide vars t) ∧ Below w1.heap.size w1 w') := fun t1 w1 hb n_t => hI wide vars t1 t w1 (hT.below hb hT.some) n_t hl_t hwide0 hwide1 hvars0 hvars1
  have HR0 : Hid (∀ (w1 : World) (B : Nat) (v1 : Value), OwnInts w1 B v1 (varsInL wide vars t) → IntsAt w1 v1 (varsInL wide vars t)) := varsIn_reads0 wide vars t hwide0 hwide1 hvars0 hvars1 h_t.1 hl_t
  have hlr0 := varsIn_len0 wide vars t
  clear hI hT h_t
  generalize varsInL wide vars t = R0 at *
  generalize decide (0 < kindL wide vars t) = R1 at *
  go_enter Tryd.func7, Tryd.ntmps7
  go_wp2_with fail
  refine z0.mono ?_
  rintro e w' ⟨rfl, rfl⟩
  clear z0
  have hb_0_0 := Below.refl w'.heap.size w'
  have g1 := GT_t.out _ hb_0_0
  go_wp2_with fail
  refine g1.mono ?_
  rintro e w1 ⟨kst, rfl, ho_new, hstep⟩
  clear g1
  have hb_0_1 := Below.step hb_0_0 hb_0_0.size hstep
  clear hb_0_0
  have hsz_1 := hstep.size
  clear hstep
  have ho_kst_1 := ho_new
  clear ho_new
  have g2 := GS.out kst _ (HN_t.out _ _ _ ho_kst_1)
  go_wp2_with fail
  refine g2.mono ?_
  clear ho_kst_1
  rintro e w2 ⟨u0, rfl, ho_u0, hstep⟩
  clear g2
  have hb_0_2 := Below.step hb_0_1 hb_0_1.size hstep
  clear hb_0_1
  have hsz_2 := hstep.size
  clear hstep
  have HU0 : Hid (∀ w_ : World, Below w2.heap.size w2 w_ → IntsAt w_ u0 R0) := fun w_ hb => (HR0.out _ _ _ ho_u0).below hb
  clear ho_u0
  have hb_A_2 := Below.refl w2.heap.size w2
  have g3 := GT_t.out _ hb_0_2
  go_wp2_with fail
  refine g3.mono ?_
  rintro e w3 ⟨kxt, rfl, ho_new, hstep⟩
  clear g3
  have hb_0_3 := Below.step hb_0_2 hb_0_2.size hstep
  clear hb_0_2
  have hb_A_3 := Below.step hb_A_2 hb_A_2.size hstep
  clear hb_A_2
  have hsz_3 := hstep.size
  clear hstep
  have ho_kxt_3 := ho_new
  clear ho_new
  have hblk_kxt := fun k hk => own_block ho_kxt_3 (k := k) hk
  have hsA := hb_A_3.size
  have hs0 := hb_0_3.size
  have hb_X_3 := Below.refl w3.heap.size w3
  have g4 := GI.out kxt _ hb_0_3 (HN_t.out _ _ _ ho_kxt_3)
  go_wp2_with fail
  refine g4.mono ?_
  rintro e w4 ⟨y0, rfl, ho_n0, hstep⟩
  clear g4
  have ho_kxt_4 := owns_below ho_kxt_3 hstep
  clear ho_kxt_3
  have hb_0_4 := Below.step hb_0_3 hb_0_3.size hstep
  clear hb_0_3
  have hb_A_4 := Below.step hb_A_3 hb_A_3.size hstep
  clear hb_A_3
  have hb_X_4 := Below.step hb_X_3 hb_X_3.size hstep
  clear hb_X_3
  have hsz_4 := hstep.size
  clear hstep
  have ho_y0_4 := ho_n0
  clear ho_n0
  have hblk_y0 := fun k hk => own_block ho_y0_4 (k := k) hk
  have hsX := hb_X_4.size
  have g5 := eqIntS_any y0 u0 R0 R0 _ (HR0.out _ _ _ ho_y0_4) (HU0.out _ hb_A_4)
  rw [decide_eq_true rfl] at g5
  go_wp2_with fail
  refine g5.mono ?_
  rintro e w5 ⟨rfl, hstep⟩
  clear g5
  have ho_kxt_5 := owns_below ho_kxt_4 hstep
  clear ho_kxt_4
  have ho_y0_5 := owns_below ho_y0_4 hstep
  clear ho_y0_4
  have hb_0_5 := Below.step hb_0_4 hb_0_4.size hstep
  clear hb_0_4
  have hb_A_5 := Below.step hb_A_4 hb_A_4.size hstep
  clear hb_A_4
  have hb_X_5 := Below.step hb_X_4 hb_X_4.size hstep
  clear hb_X_4
  clear hstep
  have g6 := GT_t.out _ hb_0_5
  go_wp2_with fail
  refine g6.mono ?_
  rintro e w6 ⟨c_, rfl, ho_new, hstep⟩
  clear g6
  have ho_kxt_6 := owns_below ho_kxt_5 hstep
  clear ho_kxt_5
  have ho_y0_6 := owns_below ho_y0_5 hstep
  clear ho_y0_5
  have hb_0_6 := Below.step hb_0_5 hb_0_5.size hstep
  clear hb_0_5
  have hb_A_6 := Below.step hb_A_5 hb_A_5.size hstep
  clear hb_A_5
  have hb_X_6 := Below.step hb_X_5 hb_X_5.size hstep
  clear hb_X_5
  clear hstep
  have g7 := eqNodeS_any kxt c_ t t _ (HN_t.out _ _ _ ho_kxt_6) (HN_t.out _ _ _ ho_new)
  rw [decide_eq_true rfl] at g7
  clear ho_new
  go_wp2_with fail
  refine g7.mono ?_
  rintro e w7 ⟨rfl, hstep⟩
  clear g7
  have ho_kxt_7 := owns_below ho_kxt_6 hstep
  clear ho_kxt_6
  have ho_y0_7 := owns_below ho_y0_6 hstep
  clear ho_y0_6
  have hb_0_7 := Below.step hb_0_6 hb_0_6.size hstep
  clear hb_0_6
  have hb_A_7 := Below.step hb_A_6 hb_A_6.size hstep
  clear hb_A_6
  have hb_X_7 := Below.step hb_X_6 hb_X_6.size hstep
  clear hb_X_6
  clear hstep
  have g8 := markNodeS_any kxt _ t.length _ _ (1) (by omega) (by omega) (by omega) _ ho_kxt_7
  go_wp2_with fail
  refine g8.mono ?_
  rintro e w8 ⟨rfl, ho_m, hgr⟩
  clear g8
  have ho_y0_8 := own_other ho_y0_7 hgr (fun k hk => by have := hblk_kxt k hk; omega)
  clear ho_y0_7
  have hb_0_8 := Below.grown hb_0_7 hgr hb_0_7.size (fun k hk => by have := hblk_kxt k hk; omega)
  clear hb_0_7
  have hb_A_8 := Below.grown hb_A_7 hgr hb_A_7.size (fun k hk => by have := hblk_kxt k hk; omega)
  clear hb_A_7
  clear hb_X_7
  clear ho_kxt_7 hgr
  have ho_mkxt := ho_m
  clear ho_m
  clear ho_mkxt
  have g9 := eqIntS_any y0 u0 R0 R0 _ (HR0.out _ _ _ ho_y0_8) (HU0.out _ hb_A_8)
  rw [decide_eq_true rfl] at g9
  go_wp2_with fail
  refine g9.mono ?_
  rintro e w9 ⟨rfl, hstep⟩
  clear g9
  have ho_y0_9 := owns_below ho_y0_8 hstep
  clear ho_y0_8
  have hb_0_9 := Below.step hb_0_8 hb_0_8.size hstep
  clear hb_0_8
  have hb_A_9 := Below.step hb_A_8 hb_A_8.size hstep
  clear hb_A_8
  clear hstep
  have g10 := markIntS_any y0 _ R0.length _ _ (1) (by omega) (by omega) (by omega) _ ho_y0_9
  go_wp2_with fail
  refine g10.mono ?_
  rintro e w10 ⟨rfl, ho_m, hgr⟩
  clear g10
  have hb_0_10 := Below.grown hb_0_9 hgr hb_0_9.size (fun k hk => by have := hblk_y0 k hk; omega)
  clear hb_0_9
  have hb_A_10 := Below.grown hb_A_9 hgr hb_A_9.size (fun k hk => by have := hblk_y0 k hk; omega)
  clear hb_A_9
  clear ho_y0_9 hgr
  have ho_my0 := ho_m
  clear ho_m
  have g11 := heldIntS_any y0 _ R0.length _ (1) (by omega) (by omega) (by omega) _ ho_my0
  go_wp2_with fail
  refine g11.mono ?_
  rintro e w_ ⟨rfl, rfl⟩
  clear g11
  have g12 := GT_t.out _ hb_0_10
  go_wp2_with fail
  refine g12.mono ?_
  rintro e w11 ⟨ktt, rfl, ho_new, hstep⟩
  clear g12
  have ho_y0_11 := owns_below ho_my0 hstep
  clear ho_my0
  have hb_0_11 := Below.step hb_0_10 hb_0_10.size hstep
  clear hb_0_10
  have hb_A_11 := Below.step hb_A_10 hb_A_10.size hstep
  clear hb_A_10
  clear hstep
  have ho_ktt_11 := ho_new
  clear ho_new
  have g13 := GI.out ktt _ hb_0_11 (HN_t.out _ _ _ ho_ktt_11)
  go_wp2_with fail
  refine g13.mono ?_
  rintro e w12 ⟨h0, rfl, ho_n0, hstep⟩
  clear g13
  have ho_y0_12 := owns_below ho_y0_11 hstep
  clear ho_y0_11
  have ho_ktt_12 := owns_below ho_ktt_11 hstep
  clear ho_ktt_11
  have hb_0_12 := Below.step hb_0_11 hb_0_11.size hstep
  clear hb_0_11
  have hb_A_12 := Below.step hb_A_11 hb_A_11.size hstep
  clear hb_A_11
  clear hstep
  have ho_h0_12 := ho_n0
  clear ho_n0
  clear ho_ktt_12
  have g14 := eqIntS_any h0 u0 R0 R0 _ (HR0.out _ _ _ ho_h0_12) (HU0.out _ hb_A_12)
  rw [decide_eq_true rfl] at g14
  go_wp2_with fail
  refine g14.mono ?_
  rintro e w13 ⟨rfl, hstep⟩
  clear g14
  have ho_y0_13 := owns_below ho_y0_12 hstep
  clear ho_y0_12
  have ho_h0_13 := owns_below ho_h0_12 hstep
  clear ho_h0_12
  have hb_0_13 := Below.step hb_0_12 hb_0_12.size hstep
  clear hb_0_12
  have hb_A_13 := Below.step hb_A_12 hb_A_12.size hstep
  clear hb_A_12
  clear hstep
  clear ho_h0_13
  have g15 := heldIntS_any y0 _ R0.length _ (1) (by omega) (by omega) (by omega) _ ho_y0_13
  go_wp2_with fail
  refine g15.mono ?_
  rintro e w_ ⟨rfl, rfl⟩
  clear g15
  have HB : Hid (Below w'.heap.size w' _) := hb_0_13
  clear ho_y0_13
  go_wp2_with fail
  go_ret
  exact ⟨rfl, HB.out⟩
set_option maxRecDepth 100000 in
theorem varsIn_big0 (wide : Int) (vars : Int) (tv : Value) (t : List Nd) (ha : 0 ≤ 1048576) (hz : 1048576 < t.length) (w : World) (h_t : NodesAt w tv t) :
    Calls Tryd.prog 7 #[.int .i64 wide, .int .i64 vars, tv] w fun e w' => e = .returned (.bool true) ∧ Below w.heap.size w w' := by
  have hn_t := h_t.2.1
  have z0 : Calls Tryd.prog 60 #[tv, .int .i64 (1048576)] w fun e w' => e = .returned (.int .i64 (-1)) ∧ w' = w := by
    obtain ⟨ad, cap, hsh⟩ := h_t.shape
    have g := szNodeS_any ad t.length cap (1048576) (by omega) (by omega) (by omega) w
    rw [if_pos (by omega), ← hsh] at g
    exact g
  clear h_t
  go_enter Tryd.func7, Tryd.ntmps7
  go_wp2_with fail
  refine z0.mono ?_
  rintro e w' ⟨rfl, rfl⟩
  clear z0
  go_wp2_with fail
  go_ret
  exact ⟨rfl, Below.refl _ _⟩
theorem varsIn_law (hI : DoesVarsIn) (wide : Int) (vars : Int) (hwide0 : -9223372036854775808 ≤ wide) (hwide1 : wide ≤ 9223372036854775807) (hvars0 : -9223372036854775808 ≤ vars) (hvars1 : vars ≤ 9223372036854775807) (tv : Value) (t : List Nd) (w : World) (hT : Tab w) (h_t : NodesAt w tv t) :
    Calls Tryd.prog 7 #[.int .i64 wide, .int .i64 vars, tv] w fun e w' => e = .returned (.bool true) ∧ Below w.heap.size w w' := by
  by_cases htot : t.length ≤ 1048576
  · exact varsIn_small hI wide vars hwide0 hwide1 hvars0 hvars1 tv t htot w hT h_t
  exact varsIn_big0 wide vars tv t (by omega) (by omega) w h_t
end Go.Proofs.YtjbfembblgkakaaDoor

namespace Go.Proofs.YtjbfembblgkakaaDoor
open Go Go.RowKit
open M
set_option linter.unusedVariables false

/-- of what lay there nothing but block g has turned -/
structure But (g : Nat) (w w' : World) : Prop where
  os : w'.os = w.os
  tape : w'.tape = w.tape
  output : w'.output = w.output
  size : w.heap.size ≤ w'.heap.size
  block : ∀ k, k ≠ g → k < w.heap.size → w'.heap[k]? = w.heap[k]?
theorem But.refl (g : Nat) (w : World) : But g w w := ⟨rfl, rfl, rfl, Nat.le_refl _, fun _ _ _ => rfl⟩
theorem But.trans {g : Nat} {u v w : World} (h : But g u v) (k : But g v w) : But g u w :=
  ⟨k.os.trans h.os, k.tape.trans h.tape, k.output.trans h.output, Nat.le_trans h.size k.size, fun i hi hs => (k.block i hi (Nat.lt_of_lt_of_le hs h.size)).trans (h.block i hi hs)⟩
theorem But.setCell {g : Nat} {u w : World} (h : But g u w) (o : Nat) (v : Value) : But g u (w.setCell ⟨g, o, none⟩ v) :=
  h.trans ⟨rfl, rfl, rfl, by simp [World.setCell], fun k hk _ => Below.heap_setCell _ _ _ _ hk⟩
theorem But.drew {g : Nat} {u w : World} (h : But g u w) : But g u w.drew := ⟨h.os, h.tape, h.output, h.size, h.block⟩
theorem But.below {B g : Nat} {w w' : World} (h : But g w w') (hB : B ≤ g) (hs : B ≤ w.heap.size) : Below B w w' :=
  ⟨h.os, h.tape, h.output, h.size, fun k hk => h.block k (by omega) (by omega)⟩
/-- four truths in memory -/
def bools (f : Int → Bool) : Array Value := #[.bool (f 0), .bool (f 1), .bool (f 2), .bool (f 3)]
theorem bools_put (f : Int → Bool) (i : Nat) (h : i < 4) : (bools f).setIfInBounds i (.bool true) = bools (fun j => f j || j == (i : Int)) := by
  match i, h with
  | 0, _ => simp [bools]
  | 1, _ => simp [bools]
  | 2, _ => simp [bools]
  | 3, _ => simp [bools]
abbrev OldNot (w : World) (g : Nat) : Nat → Prop := fun k => k < w.heap.size ∧ k ≠ g
/-- what nameVars does with a tree -/
def NameP (r : Tr) : Prop := ∀ (b g : Nat) (f : Int → Bool) (w : World), TrAt w (OldNot w g) r b → w.heap[g]? = some (.cells (bools f) 114 (0, 0)) → (∀ x ∈ r.flat, x.1 = 2 → 0 ≤ x.2 ∧ x.2 < 4) → (∃ wide vars : Int, r.Ok wide vars) →
  Calls Tryd.prog 88 #[ptr b, ptr g] w fun e w' => e = .returned (.tuple #[]) ∧ w'.heap[g]? = some (.cells (bools (fun i => f i || decide ((2, i) ∈ r.flat))) 114 (0, 0)) ∧ But g w w'
set_option maxRecDepth 100000 in
set_option maxHeartbeats 4000000 in
theorem nameVars_leaf (b g i : Nat) (f : Int → Bool) (w : World) (htr : TrAt w (OldNot w g) (.leaf (2, (i : Int))) b) (hh : w.heap[g]? = some (.cells (bools f) 114 (0, 0))) (hi : i < 4) :
    Calls Tryd.prog 88 #[ptr b, ptr g] w fun e w' => e = .returned (.tuple #[]) ∧ w'.heap[g]? = some (.cells (bools (fun j => f j || j == (i : Int))) 114 (0, 0)) ∧ But g w w' := by
  obtain ⟨hb, n0, n1, _, _, pvl, n4, hpv⟩ := htr
  obtain ⟨pa, pc, rfl⟩ := hpv.shape
  have d0 : w.cell? ⟨g, i, none⟩ = some (.bool (f (i : Int))) := by
    rw [cell_heap hh]
    rcases (show i = 0 ∨ i = 1 ∨ i = 2 ∨ i = 3 by omega) with rfl | rfl | rfl | rfl <;> rfl
  have f0 := frozen_heap (o := i) hh
  have m4 : (w.setCell ⟨g, i, none⟩ (.bool true)).cell? ⟨b, 4, none⟩ = some (.slice pa 0 pc) := by
    rw [cell_otherBlock (fun e => hb.2 e.symm)]
    exact n4
  have m4' : (w.setCell ⟨g, i, none⟩ (.bool true)).drew.cell? ⟨b, 4, none⟩ = some (.slice pa 0 pc) := m4
  have HH : Hid ((w.setCell ⟨g, i, none⟩ (.bool true)).drew.heap[g]? = some (.cells (bools (fun j => f j || j == (i : Int))) 114 (0, 0))) := by
    show (w.setCell ⟨g, i, none⟩ (.bool true)).heap[g]? = _
    rw [heap_set hh, bools_put f i hi]
  have HB : Hid (But g w (w.setCell ⟨g, i, none⟩ (.bool true)).drew) := ((But.refl g w).setCell i _).drew
  simp only at n0 n1
  clear hpv hh hb n4
  go_enter Tryd.func88, Tryd.ntmps88
  go_wp2_with fail
  go_region
  all_goals
    go_wp2_with fail
    go_loop [25] (fun i => i = .int .i64 0) (fun _ => 0)
    case atStart => rfl
    case round =>
      obtain rfl := hrel
      go_wp2_with fail
      go_end0
      exact ⟨rfl, HH.out, HB.out⟩
set_option maxRecDepth 100000 in
set_option maxHeartbeats 4000000 in
theorem nameVars_step (r : Tr) (ih : ∀ q ∈ r.parts, NameP q) : NameP r := by
  intro b g f w htr hh hv ⟨wide, vars, hok⟩
  by_cases h2 : r.nd.1 = 2
  · have hm := (Tr.ok_nd hok).2.2
    rw [h2] at hm
    cases r with
    | leaf x =>
      obtain ⟨op, n⟩ := x
      obtain rfl : op = 2 := h2
      have h4 := hv (2, n) (by simp [Tr.flat]) rfl
      simp only at h4
      obtain ⟨i, rfl⟩ := Int.eq_ofNat_of_zero_le h4.1
      refine (nameVars_leaf b g i f w htr hh (by omega)).mono ?_
      rintro e w' ⟨he, h5, h6⟩
      refine ⟨he, ?_, h6⟩
      rw [h5]
      have e2 : (fun j : Int => f j || j == (i : Int)) = fun j => f j || decide (((2, j) : Nd) ∈ (Tr.leaf (2, (i : Int))).flat) := by
        funext j
        simp [Tr.flat]
        rfl
      rw [e2]
    | one x a => exact absurd (show (0 : Nat) = 1 from hm) (by decide)
    | two x a c => exact absurd (show (0 : Nat) = 2 from hm) (by decide)
  · have e2 : (r.nd.1 == 2) = false := beq_eq_false_iff_ne.2 h2
    obtain ⟨ps, ⟨hb, n0, n1, _, _, pvl, n4, hpv⟩, hpt⟩ := trAt_open htr
    obtain ⟨pa, pc, hpsh⟩ := hpv.shape
    have hpl2 : ps.length ≤ 2 := by
      have h2 : r.parts.length ≤ 2 := by cases r <;> simp [Tr.parts]
      have := hpt.1
      omega
    have HIH : Hid (∀ (j q' : Nat) (q : Tr) (w1 : World) (f' : Int → Bool), r.parts[j]? = some q → ps[j]? = some q' → But g w w1 → w1.heap[g]? = some (.cells (bools f') 114 (0, 0)) → Calls Tryd.prog 88 #[ptr q', ptr g] w1 fun e w' => e = .returned (.tuple #[]) ∧ w'.heap[g]? = some (.cells (bools (fun i => f' i || decide ((2, i) ∈ q.flat))) 114 (0, 0)) ∧ But g w1 w') := by
      intro j q' q w1 f' hq hq' hb1 hh1
      have hmem := List.mem_of_getElem? hq
      have hfl : ∀ x ∈ q.flat, x ∈ r.flat := by
        intro x hx
        rw [Tr.flat_eq r]
        exact List.mem_append_left _ (List.mem_flatMap.2 ⟨q, hmem, hx⟩)
      exact ih q hmem q' g f' w1 (TrAt.frame (fun k hk => ⟨Nat.lt_of_lt_of_le hk.1 hb1.size, hk.2⟩) (fun k hk => hb1.block k hk.2 hk.1) (hpt.2 j q q' hq hq')) hh1 (fun x hx => hv x (hfl x hx)) ⟨wide, vars, (Tr.ok_parts hok q hmem).2⟩
    have HPV : Hid _ := hpv
    have HL : Hid (r.parts.length = ps.length) := hpt.1
    have HE : Hid (∀ i : Int, decide (((2, i) : Nd) ∈ r.flat) = decide (((2, i) : Nd) ∈ r.parts.flatMap Tr.flat)) := by
      intro i
      apply decide_eq_decide.2
      rw [Tr.flat_eq r]
      constructor
      · intro h
        rcases List.mem_append.1 h with h | h
        · exact h
        · simp at h
          exact absurd (by rw [← h]) h2
      · intro h
        exact List.mem_append_left _ h
    have HH0 : Hid _ := hh
    clear ih hpt hpv htr hh hv hok h2
    subst hpsh
    generalize r.nd.1 = op at *
    go_enter Tryd.func88, Tryd.ntmps88
    go_wp2_with fail
    go_loopw [25] (fun i wr => ∃ j : Nat, j ≤ ps.length ∧ i = .int .i64 j ∧ Hid (wr.heap[g]? = some (.cells (bools (fun i => f i || decide ((2, i) ∈ (r.parts.take j).flatMap Tr.flat))) 114 (0, 0))) ∧ Hid (But g w wr)) (fun i _ => ps.length - (intOf i).toNat)
    case atStart =>
      refine ⟨0, by omega, rfl, ?_, But.refl _ _⟩
      show w.heap[g]? = _
      rw [HH0.out]
      simp
    case round =>
      obtain ⟨j, hj, rfl, HH, HB⟩ := hrel
      by_cases hlt' : j < ps.length
      · obtain ⟨p, hp⟩ : ∃ p, ps[j]? = some p := ⟨ps[j], List.getElem?_eq_getElem hlt'⟩
        obtain ⟨q, hq⟩ : ∃ q, r.parts[j]? = some q := ⟨r.parts[j]'(by have := HL.out; omega), List.getElem?_eq_getElem _⟩
        obtain ⟨pg, off, rfl, hg, c0⟩ := PtrsAt.at HPV.out hp
        have c1 : wr.cell? ⟨pg, off + j, none⟩ = some (ptr p) := by
          rw [World.cell?_of_block (w := w) (a := ⟨pg, off + j, none⟩) (HB.out.block pg hg.2 hg.1)]
          exact c0
        have gI := HIH.out j p q wr _ hq hp HB.out HH.out
        have HF : Hid ((fun i : Int => (f i || decide (((2, i) : Nd) ∈ (r.parts.take j).flatMap Tr.flat)) || decide (((2, i) : Nd) ∈ q.flat)) = fun i => f i || decide (((2, i) : Nd) ∈ (r.parts.take (j + 1)).flatMap Tr.flat)) := by
          show _ = _
          funext i
          rw [flats_take hq, Bool.or_assoc]
          congr 1
          by_cases h1 : ((2, i) : Nd) ∈ (r.parts.take j).flatMap Tr.flat <;> by_cases h3 : ((2, i) : Nd) ∈ q.flat <;> simp [h1, h3]
        rw [HF.out] at gI
        clear hp hq hg c0 HF
        generalize hfn : (fun i : Int => f i || decide (((2, i) : Nd) ∈ (r.parts.take (j + 1)).flatMap Tr.flat)) = fn at *
        have HFN : Hid _ := hfn
        clear hfn
        go_wp2_with fail
        refine gI.mono ?_
        rintro e w2 ⟨rfl, hh2, hb2⟩
        have HH2 : Hid _ := hh2
        have HB2 : Hid (But g w w2) := HB.out.trans hb2
        clear gI hh2 hb2
        go_wp2_with fail
        go_roundw
        case rel => exact ⟨j + 1, by omega, by go_num, by rw [HFN.out]; exact HH2, HB2⟩
        case measure => simp [intOf]; omega
      · obtain rfl : j = ps.length := by omega
        have HR : Hid (wr.heap[g]? = some (.cells (bools (fun i => f i || decide ((2, i) ∈ r.flat))) 114 (0, 0))) := by
          show wr.heap[g]? = _
          rw [HH.out]
          have h1 : r.parts.take ps.length = r.parts := by rw [← HL.out, List.take_length]
          rw [h1]
          have h3 : (fun i : Int => f i || decide (((2, i) : Nd) ∈ r.parts.flatMap Tr.flat)) = fun i => f i || decide (((2, i) : Nd) ∈ r.flat) := by
            funext i
            rw [HE.out i]
          rw [h3]
        clear HH HIH HPV HE
        go_wp2_with fail
        go_end0
        exact ⟨rfl, HR.out, HB.out⟩
theorem nameVars_any : ∀ r : Tr, NameP r := Tr.ind nameVars_step
end Go.Proofs.YtjbfembblgkakaaDoor

namespace Go.Proofs.YtjbfembblgkakaaDoor
open Go Go.RowKit
open M
set_option linter.unusedVariables false

def only4 (f : Int → Bool) (j : Nat) : List Int := (([0, 1, 2, 3] : List Int).take j).filter f
theorem only4_next (f : Int → Bool) (j : Nat) (h : j < 4) : only4 f (j + 1) = only4 f j ++ (if f (j : Int) = true then [(j : Int)] else []) := by
  unfold only4
  rcases (show j = 0 ∨ j = 1 ∨ j = 2 ∨ j = 3 by omega) with rfl | rfl | rfl | rfl
  · cases h0 : f 0 <;> simp [h0]
  · cases h0 : f 0 <;> cases h1 : f 1 <;> simp [h0, h1]
  · cases h0 : f 0 <;> cases h1 : f 1 <;> cases h2 : f 2 <;> simp [h0, h1, h2]
  · cases h0 : f 0 <;> cases h1 : f 1 <;> cases h2 : f 2 <;> cases h3 : f 3 <;> simp [h0, h1, h2, h3]
theorem index4_0 (a b c d : Bool) (w : World) : Sem.run Tryd.prog (Instr.index 114 (.agg #[.bool a, .bool b, .bool c, .bool d]) (.int .i64 0)) w = .ok (.bool a) w := by kernel_rfl
theorem index4_1 (a b c d : Bool) (w : World) : Sem.run Tryd.prog (Instr.index 114 (.agg #[.bool a, .bool b, .bool c, .bool d]) (.int .i64 1)) w = .ok (.bool b) w := by kernel_rfl
theorem index4_2 (a b c d : Bool) (w : World) : Sem.run Tryd.prog (Instr.index 114 (.agg #[.bool a, .bool b, .bool c, .bool d]) (.int .i64 2)) w = .ok (.bool c) w := by kernel_rfl
theorem index4_3 (a b c d : Bool) (w : World) : Sem.run Tryd.prog (Instr.index 114 (.agg #[.bool a, .bool b, .bool c, .bool d]) (.int .i64 3)) w = .ok (.bool d) w := by kernel_rfl
theorem own_down2 {w : World} {B B' : Nat} {v : Value} {l : List Int} (h : OwnInts w B v l) (hB : B' ≤ B) : OwnInts w B' v l := by
  obtain ⟨h1, h2⟩ := h
  refine ⟨h1, ?_⟩
  rcases h2 with h2 | ⟨g, cap, cur, hv, hg, r⟩
  · exact Or.inl h2
  · exact Or.inr ⟨g, cap, cur, hv, Nat.le_trans hB hg, r⟩
set_option maxRecDepth 100000 in
set_option maxHeartbeats 2000000 in
theorem listV_any (F : Int → Bool) (w : World) :
    Calls Tryd.prog 89 #[.agg #[.bool (F 0), .bool (F 1), .bool (F 2), .bool (F 3)]] w fun e w' => ∃ v, e = .returned v ∧ OwnInts w' w.heap.size v (only4 F 4) ∧ Below w.heap.size w w' := by
  obtain ⟨i0, hi, hz0, hz1, hz2⟩ := info_parts infoInt
  have HB2 : Hid (Below w.heap.size w (w.alloc (.cells #[.bool (F 0), .bool (F 1), .bool (F 2), .bool (F 3)] 114))) := (Below.refl _ _).alloc (Nat.le_refl _) _
  go_enter Tryd.func89, Tryd.ntmps89
  go_wp2_with fail
  go_loopw [3, 7] (fun v i wr => ∃ j : Nat, j ≤ 4 ∧ i = .int .i64 j ∧ Hid (OwnInts wr w.heap.size v (only4 F j)) ∧ Hid (Below w.heap.size w wr)) (fun _ i _ => 4 - (intOf i).toNat)
  case atStart => exact ⟨0, by omega, rfl, World.ownsRow_nil _ _ _ _, HB2⟩
  case round =>
    obtain ⟨j, hj, rfl, HO, HB⟩ := hrel
    by_cases hlt' : j < 4
    · rcases (show j = 0 ∨ j = 1 ∨ j = 2 ∨ j = 3 by omega) with rfl | rfl | rfl | rfl
      · have hn := only4_next F 0 (by omega)
        have ix := index4_0
        cases hF : F 0 with
        | false =>
          have HE : Hid (only4 F 0 = only4 F 1) := by
            show _ = _
            rw [hn]
            simp [hF]
          clear hn
          go_wp2_with fail
          go_roundw
          case rel => exact ⟨1, by omega, by go_num, by rw [← HE.out]; exact HO, HB⟩
          case measure => simp [intOf]
        | true =>
          have HE : Hid (only4 F 1 = only4 F 0 ++ [0]) := by
            show _ = _
            rw [hn]
            simp [hF]
          have own1 : (wr.alloc (.cells #[.int .i64 0] 3)).ownsRow w.heap.size 3 1 u3 (only4 F 0).length ((only4 F 0).map (Value.int .i64)) := World.ownsRow.alloc HO.out _
          have hle : (only4 F 0).length ≤ 4 := Nat.le_trans (List.length_filter_le _ _) (by simp)
          have cellsN := oneI_cells wr 0
          have HOx : Hid (OwnInts wr w.heap.size u3 (only4 F 0)) := HO.out
          clear hn HO
          generalize only4 F 0 = R at *
          go_wp2_with (at_builtin; refine wpList_append_own _ rfl _ _ 34 rfl w.heap.size 3 i0 (.int .i64 0) 1 8 Tryd.underlying34 hi hz0 hz1 hz2 rfl (by decide) _ _ _ rfl own1 ⟨wr.heap.size, 0, none⟩ 1 1 [.int .i64 0] rfl rfl cellsN (ints_one [0]) (by unfold maxLen; omega) (by omega) (by have := HB.out.size; simp; omega) ?_)
          intro v7 w7 own7 grow7 _
          have HB7 : Hid (Below w.heap.size w w7) := (HB.out.alloc HB.out.size _).grown grow7 (by have := HB.out.size; simp; omega) (fun k hk => (HOx.out.lt k hk).1)
          have HO7 : Hid (OwnInts w7 w.heap.size v7 (only4 F 1)) := by
            show OwnInts _ _ _ _
            rw [HE.out]
            unfold OwnInts
            rw [List.map_append, List.length_append]
            exact own7
          clear own1 own7 grow7 cellsN
          go_wp2_with fail
          go_roundw
          case rel => exact ⟨1, by omega, by go_num, HO7, HB7⟩
          case measure => simp [intOf]
      · have hn := only4_next F 1 (by omega)
        have ix := index4_1
        cases hF : F 1 with
        | false =>
          have HE : Hid (only4 F 1 = only4 F 2) := by
            show _ = _
            rw [hn]
            simp [hF]
          clear hn
          go_wp2_with fail
          go_roundw
          case rel => exact ⟨2, by omega, by go_num, by rw [← HE.out]; exact HO, HB⟩
          case measure => simp [intOf]
        | true =>
          have HE : Hid (only4 F 2 = only4 F 1 ++ [1]) := by
            show _ = _
            rw [hn]
            simp [hF]
          have own1 : (wr.alloc (.cells #[.int .i64 1] 3)).ownsRow w.heap.size 3 1 u3 (only4 F 1).length ((only4 F 1).map (Value.int .i64)) := World.ownsRow.alloc HO.out _
          have hle : (only4 F 1).length ≤ 4 := Nat.le_trans (List.length_filter_le _ _) (by simp)
          have cellsN := oneI_cells wr 1
          have HOx : Hid (OwnInts wr w.heap.size u3 (only4 F 1)) := HO.out
          clear hn HO
          generalize only4 F 1 = R at *
          go_wp2_with (at_builtin; refine wpList_append_own _ rfl _ _ 34 rfl w.heap.size 3 i0 (.int .i64 0) 1 8 Tryd.underlying34 hi hz0 hz1 hz2 rfl (by decide) _ _ _ rfl own1 ⟨wr.heap.size, 0, none⟩ 1 1 [.int .i64 1] rfl rfl cellsN (ints_one [1]) (by unfold maxLen; omega) (by omega) (by have := HB.out.size; simp; omega) ?_)
          intro v7 w7 own7 grow7 _
          have HB7 : Hid (Below w.heap.size w w7) := (HB.out.alloc HB.out.size _).grown grow7 (by have := HB.out.size; simp; omega) (fun k hk => (HOx.out.lt k hk).1)
          have HO7 : Hid (OwnInts w7 w.heap.size v7 (only4 F 2)) := by
            show OwnInts _ _ _ _
            rw [HE.out]
            unfold OwnInts
            rw [List.map_append, List.length_append]
            exact own7
          clear own1 own7 grow7 cellsN
          go_wp2_with fail
          go_roundw
          case rel => exact ⟨2, by omega, by go_num, HO7, HB7⟩
          case measure => simp [intOf]
      · have hn := only4_next F 2 (by omega)
        have ix := index4_2
        cases hF : F 2 with
        | false =>
          have HE : Hid (only4 F 2 = only4 F 3) := by
            show _ = _
            rw [hn]
            simp [hF]
          clear hn
          go_wp2_with fail
          go_roundw
          case rel => exact ⟨3, by omega, by go_num, by rw [← HE.out]; exact HO, HB⟩
          case measure => simp [intOf]
        | true =>
          have HE : Hid (only4 F 3 = only4 F 2 ++ [2]) := by
            show _ = _
            rw [hn]
            simp [hF]
          have own1 : (wr.alloc (.cells #[.int .i64 2] 3)).ownsRow w.heap.size 3 1 u3 (only4 F 2).length ((only4 F 2).map (Value.int .i64)) := World.ownsRow.alloc HO.out _
          have hle : (only4 F 2).length ≤ 4 := Nat.le_trans (List.length_filter_le _ _) (by simp)
          have cellsN := oneI_cells wr 2
          have HOx : Hid (OwnInts wr w.heap.size u3 (only4 F 2)) := HO.out
          clear hn HO
          generalize only4 F 2 = R at *
          go_wp2_with (at_builtin; refine wpList_append_own _ rfl _ _ 34 rfl w.heap.size 3 i0 (.int .i64 0) 1 8 Tryd.underlying34 hi hz0 hz1 hz2 rfl (by decide) _ _ _ rfl own1 ⟨wr.heap.size, 0, none⟩ 1 1 [.int .i64 2] rfl rfl cellsN (ints_one [2]) (by unfold maxLen; omega) (by omega) (by have := HB.out.size; simp; omega) ?_)
          intro v7 w7 own7 grow7 _
          have HB7 : Hid (Below w.heap.size w w7) := (HB.out.alloc HB.out.size _).grown grow7 (by have := HB.out.size; simp; omega) (fun k hk => (HOx.out.lt k hk).1)
          have HO7 : Hid (OwnInts w7 w.heap.size v7 (only4 F 3)) := by
            show OwnInts _ _ _ _
            rw [HE.out]
            unfold OwnInts
            rw [List.map_append, List.length_append]
            exact own7
          clear own1 own7 grow7 cellsN
          go_wp2_with fail
          go_roundw
          case rel => exact ⟨3, by omega, by go_num, HO7, HB7⟩
          case measure => simp [intOf]
      · have hn := only4_next F 3 (by omega)
        have ix := index4_3
        cases hF : F 3 with
        | false =>
          have HE : Hid (only4 F 3 = only4 F 4) := by
            show _ = _
            rw [hn]
            simp [hF]
          clear hn
          go_wp2_with fail
          go_roundw
          case rel => exact ⟨4, by omega, by go_num, by rw [← HE.out]; exact HO, HB⟩
          case measure => simp [intOf]
        | true =>
          have HE : Hid (only4 F 4 = only4 F 3 ++ [3]) := by
            show _ = _
            rw [hn]
            simp [hF]
          have own1 : (wr.alloc (.cells #[.int .i64 3] 3)).ownsRow w.heap.size 3 1 u3 (only4 F 3).length ((only4 F 3).map (Value.int .i64)) := World.ownsRow.alloc HO.out _
          have hle : (only4 F 3).length ≤ 4 := Nat.le_trans (List.length_filter_le _ _) (by simp)
          have cellsN := oneI_cells wr 3
          have HOx : Hid (OwnInts wr w.heap.size u3 (only4 F 3)) := HO.out
          clear hn HO
          generalize only4 F 3 = R at *
          go_wp2_with (at_builtin; refine wpList_append_own _ rfl _ _ 34 rfl w.heap.size 3 i0 (.int .i64 0) 1 8 Tryd.underlying34 hi hz0 hz1 hz2 rfl (by decide) _ _ _ rfl own1 ⟨wr.heap.size, 0, none⟩ 1 1 [.int .i64 3] rfl rfl cellsN (ints_one [3]) (by unfold maxLen; omega) (by omega) (by have := HB.out.size; simp; omega) ?_)
          intro v7 w7 own7 grow7 _
          have HB7 : Hid (Below w.heap.size w w7) := (HB.out.alloc HB.out.size _).grown grow7 (by have := HB.out.size; simp; omega) (fun k hk => (HOx.out.lt k hk).1)
          have HO7 : Hid (OwnInts w7 w.heap.size v7 (only4 F 4)) := by
            show OwnInts _ _ _ _
            rw [HE.out]
            unfold OwnInts
            rw [List.map_append, List.length_append]
            exact own7
          clear own1 own7 grow7 cellsN
          go_wp2_with fail
          go_roundw
          case rel => exact ⟨4, by omega, by go_num, HO7, HB7⟩
          case measure => simp [intOf]
    · obtain rfl : j = 4 := by omega
      go_wp2_with fail
      go_ret
      exact ⟨_, rfl, HO.out, HB.out⟩
set_option maxRecDepth 100000 in
set_option maxHeartbeats 2000000 in
theorem impl_VarsIn : DoesVarsIn := by
  intro wide vars v t w hT h hl hw0 hw1 hv0 hv1
  unfold varsInL
  by_cases hk : 0 < kindL wide vars t
  · obtain ⟨g1, g2, g3, g4, g5, r, hr, k1, k2, k3⟩ := root_tree hk
    have g := rootOf_yes wide vars v t w hT h r hk hr
    have hv4 : ∀ x ∈ r.flat, x.1 = 2 → 0 ≤ x.2 ∧ x.2 < 4 := by
      intro x hx h2
      have h3 := ok_vars k1 x hx h2
      rw [k2] at hx
      have h4 := (h.1 x hx).2.2.1
      omega
    have hvl : varsL t = sorted4 (fun i => decide ((2, i) ∈ t)) := varsL_sorted t.length t rfl (by rw [← k2]; exact hv4)
    have HN : Hid (∀ (b g : Nat) (f : Int → Bool) (w : World), TrAt w (OldNot w g) r b → w.heap[g]? = some (.cells (bools f) 114 (0, 0)) →
      Calls Tryd.prog 88 #[ptr b, ptr g] w fun e w' => e = .returned (.tuple #[]) ∧ w'.heap[g]? = some (.cells (bools (fun i => f i || decide ((2, i) ∈ t))) 114 (0, 0)) ∧ But g w w') := by
      intro b g f w htr hh
      have h := nameVars_any r b g f w htr hh hv4 ⟨wide, vars, k1⟩
      rw [k2] at h
      exact h
    rw [if_pos hk, decide_eq_true hk, hvl]
    generalize hF0 : (fun i : Int => decide (((2, i) : Nd) ∈ t)) = F
    have HFE : Hid ((fun i : Int => decide (((2, i) : Nd) ∈ t)) = F) := hF0
    have HF : Hid (sorted4 F = only4 F 4) := rfl
    clear hF0
    have HLI : Hid (∀ w1 : World, Calls Tryd.prog 89 #[.agg #[.bool (F 0), .bool (F 1), .bool (F 2), .bool (F 3)]] w1 fun e w' => ∃ v, e = .returned v ∧ OwnInts w' w1.heap.size v (only4 F 4) ∧ Below w1.heap.size w1 w') := listV_any F
    clear hT h hk hr k1 k2 k3 hv4 hvl g1 g2 g3
    go_enter Tryd.func25, Tryd.ntmps25
    go_wp2_with fail
    refine g.mono ?_
    rintro e w1 ⟨b, rfl, htr, hb1⟩
    have gN := HN.out b w1.heap.size (fun _ => false) (w1.alloc (.cells #[.bool false, .bool false, .bool false, .bool false] 114)) (TrAt.frame (fun k hk => ⟨by simp; exact Nat.lt_succ_of_lt hk, Nat.ne_of_lt hk⟩) (fun k hk => Below.heap_alloc _ _ _ hk) htr) (by
      show (w1.heap.push _)[w1.heap.size]? = _
      rw [Array.getElem?_push_size]
      rfl)
    have HB1 : Hid (Below w.heap.size w (w1.alloc (.cells #[.bool false, .bool false, .bool false, .bool false] 114))) := hb1.alloc hb1.size _
    have HS1 : Hid (w.heap.size ≤ w1.heap.size) := hb1.size
    simp only [Bool.false_or] at gN
    clear g htr hb1
    rw [HFE.out] at gN
    go_wp2_with fail
    refine gN.mono ?_
    rintro e w2 ⟨rfl, hh2, hbt⟩
    have HB2 : Hid (Below w.heap.size w w2) := HB1.out.trans (hbt.below HS1.out HB1.out.size)
    have HH2 : Hid _ := hh2
    have d0 := cell_heap (o := 0) hh2
    have d1 := cell_heap (o := 1) hh2
    have d2 := cell_heap (o := 2) hh2
    have d3 := cell_heap (o := 3) hh2
    simp only [bools, List.getElem?_toArray, List.getElem?_cons_succ, List.getElem?_cons_zero] at d0 d1 d2 d3
    clear gN hh2 hbt
    go_wp2_with fail
    refine (HLI.out w2).mono ?_
    rintro e w3 ⟨vl, rfl, hol, hs3⟩
    have HB3 : Hid (Below w.heap.size w w3) := HB2.out.trans (hs3.mono HB2.out.size)
    have HO3 : Hid (OwnInts w3 w.heap.size vl (sorted4 F)) := by
      rw [HF.out]
      exact own_down2 hol HB2.out.size
    clear d0 d1 d2 d3 hol hs3
    go_wp2_with fail
    go_ret2
    exact ⟨_, rfl, HO3.out, HB3.out⟩
  · have g := rootOf_no wide vars v t w hT h hk
    rw [if_neg hk, decide_eq_false hk]
    clear hT h hk
    go_enter Tryd.func25, Tryd.ntmps25
    go_wp2_with fail
    refine g.mono ?_
    rintro e w1 ⟨rfl, hb1⟩
    have HB1 : Hid _ := hb1
    clear g hb1
    go_wp2_with fail
    go_ret2
    exact ⟨_, rfl, World.ownsRow_nil _ _ _ _, HB1.out⟩
end Go.Proofs.YtjbfembblgkakaaDoor

namespace Go.Proofs.YtjbfembblgkakaaDoor
open Go Go.RowKit
open M
set_option linter.unusedVariables false

/-- what the program's FoldTerm is to do -/
def DoesFoldTerm : Prop := ∀ (wide : Int) (vars : Int) (tv : Value) (t : List Nd) (w : World), Tab w → NodesAt w tv t → t.length ≤ 1048576 → CapOk tv → -9223372036854775808 ≤ wide → wide ≤ 9223372036854775807 → -9223372036854775808 ≤ vars → vars ≤ 9223372036854775807 →
  Calls Tryd.prog 22 #[.int .i64 wide, .int .i64 vars, tv] w fun e w' => ∃ r0' : Value, e = .returned (.tuple #[r0', .bool (decide (0 < kindL wide vars t))]) ∧ OwnNodes w' w.heap.size r0' (foldL wide vars t) ∧ Below w.heap.size w w'
set_option maxRecDepth 100000 in
set_option maxHeartbeats 4000000 in
theorem foldTerm_small (hI : DoesFoldTerm) (wide : Int) (vars : Int) (hwide0 : -9223372036854775808 ≤ wide) (hwide1 : wide ≤ 9223372036854775807) (hvars0 : -9223372036854775808 ≤ vars) (hvars1 : vars ≤ 9223372036854775807) (tv : Value) (t : List Nd) (htot : t.length ≤ 1048576) (w : World) (hT : Tab w) (h_t : NodesAt w tv t) :
    Calls Tryd.prog 8 #[.int .i64 wide, .int .i64 vars, tv] w fun e w' => e = .returned (.bool true) ∧ Below w.heap.size w w' := by
  have hl_t : t.length ≤ 1048576 := by omega
  have z0 : Calls Tryd.prog 60 #[tv, .int .i64 (1048576)] w fun e w' => e = .returned (.int .i64 (1048576 - (t.length : Int))) ∧ w' = w := by
    obtain ⟨ad, cap, hsh⟩ := h_t.shape
    have g := szNodeS_any ad t.length cap (1048576) (by omega) (by omega) (by omega) w
    rw [if_neg (by omega), ← hsh] at g
    exact g
  have GT_t : Hid (∀ w1 : World, Below w.heap.size w w1 → Calls Tryd.prog 61 #[tv] w1 fun e w' => ∃ v', e = .returned v' ∧ OwnNodes w' w1.heap.size v' t ∧ Below w1.heap.size w1 w') := fun w1 hb => toNodeS_any tv t hl_t w1 (h_t.below hb)
  have HN_t : Hid (∀ (w1 : World) (B : Nat) (v1 : Value), OwnNodes w1 B v1 t → NodesAt w1 v1 t) := fun w1 B v1 ho => nodes_of_own h_t.1 (by omega) ho
  have GS : Hid (∀ (t1 : Value) (w1 : World), NodesAt w1 t1 t → CapOk t1 → Calls Tryd.prog 23 #[.int .i64 wide, .int .i64 vars, t1] w1 fun e w' => ∃ r0' : Value, e = .returned (.tuple #[r0', .bool (decide (0 < kindL wide vars t))]) ∧ OwnNodes w' w1.heap.size r0' (foldL wide vars t) ∧ Below w1.heap.size w1 w') := fun t1 w1 n_t c_t => foldTerm_any wide vars t1 t w1 n_t c_t
  have GI : Hid (∀ (t1 : Value) (w1 : World), Below w.heap.size w w1 → NodesAt w1 t1 t → CapOk t1 → Calls Tryd.prog 22 #[.int .i64 wide, .int .i64 vars, t1] w1 fun e w' => ∃ r0' : Value, e = .returned (.tuple #[r0', .bool (decide (0 < kindL wide vars t))]) ∧ OwnNodes w' w1.heap.size r0' (foldL wide vars t) ∧ Below w1.heap.size w1 w') := fun t1 w1 hb n_t c_t => hI wide vars t1 t w1 (hT.below hb hT.some) n_t hl_t c_t hwide0 hwide1 hvars0 hvars1
  have HR0 : Hid (∀ (w1 : World) (B : Nat) (v1 : Value), OwnNodes w1 B v1 (foldL wide vars t) → NodesAt w1 v1 (foldL wide vars t)) := foldTerm_reads0 wide vars t hwide0 hwide1 hvars0 hvars1 h_t.1 hl_t
  have hlr0 := foldTerm_len0 wide vars t
  clear hI hT h_t
  generalize foldL wide vars t = R0 at *
  generalize decide (0 < kindL wide vars t) = R1 at *
  go_enter Tryd.func8, Tryd.ntmps8
  go_wp2_with fail
  refine z0.mono ?_
  rintro e w' ⟨rfl, rfl⟩
  clear z0
  have hb_0_0 := Below.refl w'.heap.size w'
  have g1 := GT_t.out _ hb_0_0
  go_wp2_with fail
  refine g1.mono ?_
  rintro e w1 ⟨kst, rfl, ho_new, hstep⟩
  clear g1
  have hb_0_1 := Below.step hb_0_0 hb_0_0.size hstep
  clear hb_0_0
  have hsz_1 := hstep.size
  clear hstep
  have ho_kst_1 := ho_new
  clear ho_new
  have g2 := GS.out kst _ (HN_t.out _ _ _ ho_kst_1) (cap_of_own ho_kst_1)
  go_wp2_with fail
  refine g2.mono ?_
  clear ho_kst_1
  rintro e w2 ⟨u0, rfl, ho_u0, hstep⟩
  clear g2
  have hb_0_2 := Below.step hb_0_1 hb_0_1.size hstep
  clear hb_0_1
  have hsz_2 := hstep.size
  clear hstep
  have HU0 : Hid (∀ w_ : World, Below w2.heap.size w2 w_ → NodesAt w_ u0 R0) := fun w_ hb => (HR0.out _ _ _ ho_u0).below hb
  clear ho_u0
  have hb_A_2 := Below.refl w2.heap.size w2
  have g3 := GT_t.out _ hb_0_2
  go_wp2_with fail
  refine g3.mono ?_
  rintro e w3 ⟨kxt, rfl, ho_new, hstep⟩
  clear g3
  have hb_0_3 := Below.step hb_0_2 hb_0_2.size hstep
  clear hb_0_2
  have hb_A_3 := Below.step hb_A_2 hb_A_2.size hstep
  clear hb_A_2
  have hsz_3 := hstep.size
  clear hstep
  have ho_kxt_3 := ho_new
  clear ho_new
  have hblk_kxt := fun k hk => own_block ho_kxt_3 (k := k) hk
  have hsA := hb_A_3.size
  have hs0 := hb_0_3.size
  have hb_X_3 := Below.refl w3.heap.size w3
  have g4 := GI.out kxt _ hb_0_3 (HN_t.out _ _ _ ho_kxt_3) (cap_of_own ho_kxt_3)
  go_wp2_with fail
  refine g4.mono ?_
  rintro e w4 ⟨y0, rfl, ho_n0, hstep⟩
  clear g4
  have ho_kxt_4 := owns_below ho_kxt_3 hstep
  clear ho_kxt_3
  have hb_0_4 := Below.step hb_0_3 hb_0_3.size hstep
  clear hb_0_3
  have hb_A_4 := Below.step hb_A_3 hb_A_3.size hstep
  clear hb_A_3
  have hb_X_4 := Below.step hb_X_3 hb_X_3.size hstep
  clear hb_X_3
  have hsz_4 := hstep.size
  clear hstep
  have ho_y0_4 := ho_n0
  clear ho_n0
  have hblk_y0 := fun k hk => own_block ho_y0_4 (k := k) hk
  have hsX := hb_X_4.size
  have g5 := eqNodeS_any y0 u0 R0 R0 _ (HR0.out _ _ _ ho_y0_4) (HU0.out _ hb_A_4)
  rw [decide_eq_true rfl] at g5
  go_wp2_with fail
  refine g5.mono ?_
  rintro e w5 ⟨rfl, hstep⟩
  clear g5
  have ho_kxt_5 := owns_below ho_kxt_4 hstep
  clear ho_kxt_4
  have ho_y0_5 := owns_below ho_y0_4 hstep
  clear ho_y0_4
  have hb_0_5 := Below.step hb_0_4 hb_0_4.size hstep
  clear hb_0_4
  have hb_A_5 := Below.step hb_A_4 hb_A_4.size hstep
  clear hb_A_4
  have hb_X_5 := Below.step hb_X_4 hb_X_4.size hstep
  clear hb_X_4
  clear hstep
  have g6 := GT_t.out _ hb_0_5
  go_wp2_with fail
  refine g6.mono ?_
  rintro e w6 ⟨c_, rfl, ho_new, hstep⟩
  clear g6
  have ho_kxt_6 := owns_below ho_kxt_5 hstep
  clear ho_kxt_5
  have ho_y0_6 := owns_below ho_y0_5 hstep
  clear ho_y0_5
  have hb_0_6 := Below.step hb_0_5 hb_0_5.size hstep
  clear hb_0_5
  have hb_A_6 := Below.step hb_A_5 hb_A_5.size hstep
  clear hb_A_5
  have hb_X_6 := Below.step hb_X_5 hb_X_5.size hstep
  clear hb_X_5
  clear hstep
  have g7 := eqNodeS_any kxt c_ t t _ (HN_t.out _ _ _ ho_kxt_6) (HN_t.out _ _ _ ho_new)
  rw [decide_eq_true rfl] at g7
  clear ho_new
  go_wp2_with fail
  refine g7.mono ?_
  rintro e w7 ⟨rfl, hstep⟩
  clear g7
  have ho_kxt_7 := owns_below ho_kxt_6 hstep
  clear ho_kxt_6
  have ho_y0_7 := owns_below ho_y0_6 hstep
  clear ho_y0_6
  have hb_0_7 := Below.step hb_0_6 hb_0_6.size hstep
  clear hb_0_6
  have hb_A_7 := Below.step hb_A_6 hb_A_6.size hstep
  clear hb_A_6
  have hb_X_7 := Below.step hb_X_6 hb_X_6.size hstep
  clear hb_X_6
  clear hstep
  have g8 := markNodeS_any kxt _ t.length _ _ (1) (by omega) (by omega) (by omega) _ ho_kxt_7
  go_wp2_with fail
  refine g8.mono ?_
  rintro e w8 ⟨rfl, ho_m, hgr⟩
  clear g8
  have ho_y0_8 := own_other ho_y0_7 hgr (fun k hk => by have := hblk_kxt k hk; omega)
  clear ho_y0_7
  have hb_0_8 := Below.grown hb_0_7 hgr hb_0_7.size (fun k hk => by have := hblk_kxt k hk; omega)
  clear hb_0_7
  have hb_A_8 := Below.grown hb_A_7 hgr hb_A_7.size (fun k hk => by have := hblk_kxt k hk; omega)
  clear hb_A_7
  clear hb_X_7
  clear ho_kxt_7 hgr
  have ho_mkxt := ho_m
  clear ho_m
  clear ho_mkxt
  have g9 := eqNodeS_any y0 u0 R0 R0 _ (HR0.out _ _ _ ho_y0_8) (HU0.out _ hb_A_8)
  rw [decide_eq_true rfl] at g9
  go_wp2_with fail
  refine g9.mono ?_
  rintro e w9 ⟨rfl, hstep⟩
  clear g9
  have ho_y0_9 := owns_below ho_y0_8 hstep
  clear ho_y0_8
  have hb_0_9 := Below.step hb_0_8 hb_0_8.size hstep
  clear hb_0_8
  have hb_A_9 := Below.step hb_A_8 hb_A_8.size hstep
  clear hb_A_8
  clear hstep
  have g10 := markNodeS_any y0 _ R0.length _ _ (1) (by omega) (by omega) (by omega) _ ho_y0_9
  go_wp2_with fail
  refine g10.mono ?_
  rintro e w10 ⟨rfl, ho_m, hgr⟩
  clear g10
  have hb_0_10 := Below.grown hb_0_9 hgr hb_0_9.size (fun k hk => by have := hblk_y0 k hk; omega)
  clear hb_0_9
  have hb_A_10 := Below.grown hb_A_9 hgr hb_A_9.size (fun k hk => by have := hblk_y0 k hk; omega)
  clear hb_A_9
  clear ho_y0_9 hgr
  have ho_my0 := ho_m
  clear ho_m
  have g11 := heldNodeS_any y0 _ R0.length _ (1) (by omega) (by omega) (by omega) _ ho_my0
  go_wp2_with fail
  refine g11.mono ?_
  rintro e w_ ⟨rfl, rfl⟩
  clear g11
  have g12 := GT_t.out _ hb_0_10
  go_wp2_with fail
  refine g12.mono ?_
  rintro e w11 ⟨ktt, rfl, ho_new, hstep⟩
  clear g12
  have ho_y0_11 := owns_below ho_my0 hstep
  clear ho_my0
  have hb_0_11 := Below.step hb_0_10 hb_0_10.size hstep
  clear hb_0_10
  have hb_A_11 := Below.step hb_A_10 hb_A_10.size hstep
  clear hb_A_10
  clear hstep
  have ho_ktt_11 := ho_new
  clear ho_new
  have g13 := GI.out ktt _ hb_0_11 (HN_t.out _ _ _ ho_ktt_11) (cap_of_own ho_ktt_11)
  go_wp2_with fail
  refine g13.mono ?_
  rintro e w12 ⟨h0, rfl, ho_n0, hstep⟩
  clear g13
  have ho_y0_12 := owns_below ho_y0_11 hstep
  clear ho_y0_11
  have ho_ktt_12 := owns_below ho_ktt_11 hstep
  clear ho_ktt_11
  have hb_0_12 := Below.step hb_0_11 hb_0_11.size hstep
  clear hb_0_11
  have hb_A_12 := Below.step hb_A_11 hb_A_11.size hstep
  clear hb_A_11
  clear hstep
  have ho_h0_12 := ho_n0
  clear ho_n0
  clear ho_ktt_12
  have g14 := eqNodeS_any h0 u0 R0 R0 _ (HR0.out _ _ _ ho_h0_12) (HU0.out _ hb_A_12)
  rw [decide_eq_true rfl] at g14
  go_wp2_with fail
  refine g14.mono ?_
  rintro e w13 ⟨rfl, hstep⟩
  clear g14
  have ho_y0_13 := owns_below ho_y0_12 hstep
  clear ho_y0_12
  have ho_h0_13 := owns_below ho_h0_12 hstep
  clear ho_h0_12
  have hb_0_13 := Below.step hb_0_12 hb_0_12.size hstep
  clear hb_0_12
  have hb_A_13 := Below.step hb_A_12 hb_A_12.size hstep
  clear hb_A_12
  clear hstep
  clear ho_h0_13
  have g15 := heldNodeS_any y0 _ R0.length _ (1) (by omega) (by omega) (by omega) _ ho_y0_13
  go_wp2_with fail
  refine g15.mono ?_
  rintro e w_ ⟨rfl, rfl⟩
  clear g15
  have HB : Hid (Below w'.heap.size w' _) := hb_0_13
  clear ho_y0_13
  go_wp2_with fail
  go_ret
  exact ⟨rfl, HB.out⟩
set_option maxRecDepth 100000 in
theorem foldTerm_big0 (wide : Int) (vars : Int) (tv : Value) (t : List Nd) (ha : 0 ≤ 1048576) (hz : 1048576 < t.length) (w : World) (h_t : NodesAt w tv t) :
    Calls Tryd.prog 8 #[.int .i64 wide, .int .i64 vars, tv] w fun e w' => e = .returned (.bool true) ∧ Below w.heap.size w w' := by
  have hn_t := h_t.2.1
  have z0 : Calls Tryd.prog 60 #[tv, .int .i64 (1048576)] w fun e w' => e = .returned (.int .i64 (-1)) ∧ w' = w := by
    obtain ⟨ad, cap, hsh⟩ := h_t.shape
    have g := szNodeS_any ad t.length cap (1048576) (by omega) (by omega) (by omega) w
    rw [if_pos (by omega), ← hsh] at g
    exact g
  clear h_t
  go_enter Tryd.func8, Tryd.ntmps8
  go_wp2_with fail
  refine z0.mono ?_
  rintro e w' ⟨rfl, rfl⟩
  clear z0
  go_wp2_with fail
  go_ret
  exact ⟨rfl, Below.refl _ _⟩
theorem foldTerm_law (hI : DoesFoldTerm) (wide : Int) (vars : Int) (hwide0 : -9223372036854775808 ≤ wide) (hwide1 : wide ≤ 9223372036854775807) (hvars0 : -9223372036854775808 ≤ vars) (hvars1 : vars ≤ 9223372036854775807) (tv : Value) (t : List Nd) (w : World) (hT : Tab w) (h_t : NodesAt w tv t) :
    Calls Tryd.prog 8 #[.int .i64 wide, .int .i64 vars, tv] w fun e w' => e = .returned (.bool true) ∧ Below w.heap.size w w' := by
  by_cases htot : t.length ≤ 1048576
  · exact foldTerm_small hI wide vars hwide0 hwide1 hvars0 hvars1 tv t htot w hT h_t
  exact foldTerm_big0 wide vars tv t (by omega) (by omega) w h_t
end Go.Proofs.YtjbfembblgkakaaDoor

namespace Go.Proofs.YtjbfembblgkakaaDoor
open Go Go.RowKit
open M
set_option linter.unusedVariables false

theorem equal4 (a b c d : Bool) (w : World) : Sem.run Tryd.prog (Op.equalIn 10000 114 (.agg #[.bool a, .bool b, .bool c, .bool d]) (.agg #[.bool false, .bool false, .bool false, .bool false])) w = .ok (!(a || b || c || d)) w := by
  cases a <;> cases b <;> cases c <;> cases d <;> kernel_rfl
set_option maxRecDepth 100000 in
set_option maxHeartbeats 1000000 in
theorem hasVars_any (r : Tr) (wide vars : Int) (hok : r.Ok wide vars) (hp : Pos r) (hv4 : vars ≤ 4) (b : Nat) (w : World) (htr : TrAt w (Old w) r b) :
    Calls Tryd.prog 150 #[ptr b] w fun e w' => e = .returned (.bool (trVar r)) ∧ Below w.heap.size w w' := by
  have hv : ∀ x ∈ r.flat, x.1 = 2 → 0 ≤ x.2 ∧ x.2 < 4 := by
    intro x hx h2
    have h3 := ok_vars hok x hx h2
    have h4 := hp x hx
    omega
  have gN := nameVars_any r b w.heap.size (fun _ => false) (w.alloc (.cells #[.bool false, .bool false, .bool false, .bool false] 114)) (TrAt.frame (fun k hk => ⟨by simp; exact Nat.lt_succ_of_lt hk, Nat.ne_of_lt hk⟩) (fun k hk => Below.heap_alloc _ _ _ hk) htr) (by
    show (w.heap.push _)[w.heap.size]? = _
    rw [Array.getElem?_push_size]
    rfl) hv ⟨wide, vars, hok⟩
  simp only [Bool.false_or] at gN
  have HB1 : Hid (Below w.heap.size w (w.alloc (.cells #[.bool false, .bool false, .bool false, .bool false] 114))) := (Below.refl _ _).alloc (Nat.le_refl _) _
  have HV : Hid (trVar r = (decide (((2, 0) : Nd) ∈ r.flat) || decide (((2, 1) : Nd) ∈ r.flat) || decide (((2, 2) : Nd) ∈ r.flat) || decide (((2, 3) : Nd) ∈ r.flat))) := by
    show _ = _
    rw [Bool.eq_iff_iff]
    simp only [Bool.or_eq_true, decide_eq_true_eq]
    rw [trVar_iff hok]
    constructor
    · rintro ⟨⟨op, n⟩, hx, h2⟩
      simp only at h2
      subst h2
      have h4 := hv (2, n) hx rfl
      simp only at h4
      rcases (show n = 0 ∨ n = 1 ∨ n = 2 ∨ n = 3 by omega) with rfl | rfl | rfl | rfl
      · exact Or.inl (Or.inl (Or.inl hx))
      · exact Or.inl (Or.inl (Or.inr hx))
      · exact Or.inl (Or.inr hx)
      · exact Or.inr hx
    · rintro (((h | h) | h) | h) <;> exact ⟨_, h, rfl⟩
  rw [HV.out]
  generalize hF0 : (fun i : Int => decide (((2, i) : Nd) ∈ r.flat)) = F at gN
  have h0 : decide (((2, 0) : Nd) ∈ r.flat) = F 0 := by rw [← hF0]
  have h1 : decide (((2, 1) : Nd) ∈ r.flat) = F 1 := by rw [← hF0]
  have h2 : decide (((2, 2) : Nd) ∈ r.flat) = F 2 := by rw [← hF0]
  have h3 : decide (((2, 3) : Nd) ∈ r.flat) = F 3 := by rw [← hF0]
  rw [h0, h1, h2, h3]
  clear h0 h1 h2 h3 hF0 HV hv htr hok hp
  go_enter Tryd.func150, Tryd.ntmps150
  go_wp2_with fail
  refine gN.mono ?_
  rintro e w2 ⟨rfl, hh2, hbt⟩
  have HB2 : Hid (Below w.heap.size w w2) := HB1.out.trans (hbt.below (Nat.le_refl _) HB1.out.size)
  have d0 := cell_heap (o := 0) hh2
  have d1 := cell_heap (o := 1) hh2
  have d2 := cell_heap (o := 2) hh2
  have d3 := cell_heap (o := 3) hh2
  simp only [bools, List.getElem?_toArray, List.getElem?_cons_succ, List.getElem?_cons_zero] at d0 d1 d2 d3
  have eq4 := equal4 (F 0) (F 1) (F 2) (F 3) w2
  clear gN hh2 hbt
  go_wp2_with fail
  go_ret
  exact ⟨rfl, HB2.out⟩
end Go.Proofs.YtjbfembblgkakaaDoor

namespace Go.Proofs.YtjbfembblgkakaaDoor
open Go Go.RowKit
open M
set_option linter.unusedVariables false

/-- the tree that nodeOver made, among all that lies there -/
theorem tr_all {w w' : World} {S : Nat → Prop} {t : Tr} {b : Nat} (hS : ∀ k, S k → k < w.heap.size) (hb : Below w.heap.size w w') (h : TrAt w' (fun k => S k ∨ (w.heap.size ≤ k ∧ k < w'.heap.size)) t b) : TrAt w' (Old w') t b :=
  TrAt.frame (fun k hk => by
    rcases hk with hk | hk
    · exact Nat.lt_of_lt_of_le (hS k hk) hb.size
    · exact hk.2) (fun _ _ => rfl) h
/-- blocks of S or made since w, which lie there and are not the row's -/
abbrev Mix (S : Nat → Prop) (w wr : World) (v : Value) : Nat → Prop := fun k => (S k ∨ w.heap.size ≤ k) ∧ OldBut wr v k
theorem mix_next {S : Nat → Prop} {w w3 w7 : World} {v v0 v7 : Value} {o : Obj} {l : List Tr} {ps : List Nat} (ht : TrsAt w3 (Mix S w w3 v) l ps) (grow : (w3.alloc o).grownBy w7 v0.ownBlock) (hat : v7.ownBlock = v0.ownBlock ∨ v7.ownBlock = some (w3.heap.size + 1)) (hvb : v0.ownBlock = v.ownBlock) : TrsAt w7 (Mix S w w7 v7) l ps := by
  have hs := grow.size
  rw [show (w3.alloc o).heap.size = w3.heap.size + 1 from by simp] at hs
  refine TrsAt.frame (fun k hk => ⟨hk.1, ?_, ?_⟩) (fun k hk => ?_) ht
  · have := hk.2.1
    omega
  · rcases hat with h | h
    · rw [h, hvb]
      exact hk.2.2
    · rw [h]
      intro e
      have := Option.some.inj e
      have := hk.2.1
      omega
  · rw [grow.block k (by have := hk.2.1; simp; omega) (by rw [hvb]; exact hk.2.2)]
    exact Below.heap_alloc _ _ _ hk.2.1
/-- S or made since w -/
abbrev New (S : Nat → Prop) (w w' : World) : Nat → Prop := fun k => S k ∨ (w.heap.size ≤ k ∧ k < w'.heap.size)
theorem new_low {S : Nat → Prop} {w w1 w' : World} {t : Tr} {b : Nat} (hs : w.heap.size ≤ w1.heap.size) (h : TrAt w' (New S w1 w') t b) : TrAt w' (New S w w') t b :=
  TrAt.frame (fun k hk => hk.elim Or.inl fun h => Or.inr ⟨Nat.le_trans hs h.1, h.2⟩) (fun _ _ => rfl) h
set_option maxRecDepth 100000 in
theorem leafOf_any (S : Nat → Prop) (kind n : Int) (hk : kind = 1 ∨ kind = 2) (w : World) (hS : ∀ k, S k → k < w.heap.size) :
    Calls Tryd.prog 151 #[.int .i64 kind, .int .u64 n] w fun e w' => ∃ b, e = .returned (ptr b) ∧ TrAt w' (New S w w') (.leaf (if kind = 2 then 20 else 1, n)) b ∧ Below w.heap.size w w' := by
  have G : Hid (∀ op : Int, op = 20 ∨ op = 1 → Calls Tryd.prog 139 #[.agg #[.int .i64 op, .int .u64 n], .slice none 0 0] w fun e w' => ∃ b, e = .returned (ptr b) ∧ TrAt w' (New S w w') (.leaf (op, n)) b ∧ Below w.heap.size w w') := by
    intro op hop
    refine (nodeOver_made op n [] [] (.slice none 0 0) w S hS ⟨by simp, Or.inl ⟨rfl, none, 0, rfl⟩⟩ ⟨rfl, fun i a p ha _ => by simp at ha⟩ (by rcases hop with rfl | rfl <;> decide) (by rcases hop with rfl | rfl <;> rfl) (fun q hq => by cases hq) (by simp [sizes])).mono ?_
    rintro e w' ⟨b, he, htr, hb⟩
    exact ⟨b, he, htr, hb⟩
  rcases hk with rfl | rfl
  · have g := G.out 1 (Or.inr rfl)
    clear G
    go_enter Tryd.func151, Tryd.ntmps151
    go_wp2_with fail
    refine g.mono ?_
    rintro e w1 ⟨b, rfl, htr, hb⟩
    have HT : Hid _ := htr
    have HB : Hid _ := hb
    clear g htr hb
    go_wp2_with fail
    go_ret
    exact ⟨_, rfl, HT.out, HB.out⟩
  · have g := G.out 20 (Or.inl rfl)
    clear G
    go_enter Tryd.func151, Tryd.ntmps151
    go_wp2_with fail
    refine g.mono ?_
    rintro e w1 ⟨b, rfl, htr, hb⟩
    have HT : Hid _ := htr
    have HB : Hid _ := hb
    clear g htr hb
    go_wp2_with fail
    go_ret
    exact ⟨_, rfl, HT.out, HB.out⟩
/-- what fold does with a tree -/
def FoldP (k : Nat) (vars : Int) (r : Tr) : Prop := ∀ (S : Nat → Prop) (b : Nat) (w : World), (∀ k, S k → k < w.heap.size) → Tab w → TrAt w (Old w) r b → r.Ok k vars → Pos r → r.size ≤ 100000 →
  Calls Tryd.prog 86 #[ptr b, .int .i64 k] w fun e w' => ∃ b', e = .returned (ptr b') ∧ TrAt w' (New S w w') (trFold k r) b' ∧ Below w.heap.size w w'
set_option maxRecDepth 100000 in
set_option maxHeartbeats 4000000 in
theorem fold_step (k : Nat) (hk1 : 1 ≤ k) (hk : k ≤ 64) (vars : Int) (hv4 : vars ≤ 4) (r : Tr) (ih : ∀ q ∈ r.parts, FoldP k vars q) : FoldP k vars r := by
  intro S b w hSW hT htr hok hp hsz
  have g1 := hasVars_any r k vars hok hp hv4 b w htr
  cases hv : trVar r with
  | false =>
    rw [hv] at g1
    rw [trFold_no k r hv]
    have gV : ∀ w1, Below w.heap.size w w1 → Calls Tryd.prog 81 #[ptr b, .int .i64 k, .slice none 0 0] w1 fun e w' => e = .returned (.int .u64 (trVal k [] r)) ∧ Below w1.heap.size w1 w' :=
      fun w1 hb => value_any k hk1 hk vars [] (.slice none 0 0) (by simp) (by simp) r b w1 (hT.below hb hT.some) (htr.below hb) (Or.inl ⟨rfl, none, 0, rfl⟩) hok hp (novar_below hok hv _)
    have gL : ∀ w1, Below w.heap.size w w1 → Calls Tryd.prog 151 #[.int .i64 r.kind, .int .u64 (trVal k [] r)] w1 fun e w' => ∃ b, e = .returned (ptr b) ∧ TrAt w' (New S w1 w') (.leaf (litN r.nd.1 (trVal k [] r))) b ∧ Below w1.heap.size w1 w' :=
      fun w1 hb => leafOf_any S r.kind (trVal k [] r) (Tr.kind_pos hok) w1 (fun k hk => Nat.lt_of_lt_of_le (hSW k hk) hb.size)
    obtain ⟨ps, ⟨hb0, _, _, n2, _⟩, _⟩ := trAt_open htr
    have GV : Hid _ := gV
    have GL : Hid _ := gL
    have HN2 : Hid (∀ w1, Below w.heap.size w w1 → w1.cell? ⟨b, 2, none⟩ = some (.int .i64 r.kind)) := fun w1 hb => by
      rw [hb.cell (p := ⟨b, 2, none⟩) hb0]
      exact n2
    clear ih hT htr hok hp hv gV gL n2
    generalize trVal k [] r = vv at *
    go_enter Tryd.func86, Tryd.ntmps86
    go_wp2_with fail
    refine g1.mono ?_
    rintro e w1 ⟨rfl, hb1⟩
    clear g1
    have n2 := HN2.out w1 hb1
    have HB1 : Hid _ := hb1
    clear hb1
    go_wp2_with fail
    go_region_with (first | (go_at_call 81; refine (GV.out _ HB1.out.drew).mono ?_; rintro e w2 ⟨rfl, hb2⟩; have HB2 : Hid (Below w.heap.size w w2) := HB1.out.drew.trans (hb2.mono HB1.out.size); have n2' := HN2.out w2 HB2.out; clear hb2) | (go_at_call 151; refine (GL.out _ HB2.out).mono ?_; rintro e w3 ⟨b3, rfl, ht3, hb3⟩; have HT3 : Hid _ := new_low HB2.out.size ht3; have HB3 : Hid (Below w.heap.size w w3) := HB2.out.trans (hb3.mono HB2.out.size); clear ht3 hb3))
    all_goals
      go_wp2_with fail
      go_ret
      exact ⟨_, rfl, HT3.out, HB3.out⟩
  | true =>
    rw [hv] at g1
    rw [trFold_yes k r hv]
    obtain ⟨ps, ⟨hb0, n0, n1, _, _, pvl, n4, hpv⟩, hpt⟩ := trAt_open htr
    obtain ⟨pa, pc, hpsh⟩ := hpv.shape
    have hpl2 : ps.length ≤ 2 := by
      have h2 : r.parts.length ≤ 2 := by cases r <;> simp [Tr.parts]
      have := hpt.1
      omega
    have HN : Hid (∀ w1, Below w.heap.size w w1 → w1.cell? ⟨b, 0, none⟩ = some (.int .i64 r.nd.1) ∧ w1.cell? ⟨b, 1, none⟩ = some (.int .u64 r.nd.2) ∧ w1.cell? ⟨b, 4, none⟩ = some pvl) := fun w1 hb => by
      refine ⟨?_, ?_, ?_⟩
      · rw [hb.cell (p := ⟨b, 0, none⟩) hb0]
        exact n0
      · rw [hb.cell (p := ⟨b, 1, none⟩) hb0]
        exact n1
      · rw [hb.cell (p := ⟨b, 4, none⟩) hb0]
        exact n4
    have HIH : Hid (∀ (j q' : Nat) (q : Tr) (w1 : World), r.parts[j]? = some q → ps[j]? = some q' → Below w.heap.size w w1 → Calls Tryd.prog 86 #[ptr q', .int .i64 k] w1 fun e w' => ∃ b', e = .returned (ptr b') ∧ TrAt w' (New S w1 w') (trFold k q) b' ∧ Below w1.heap.size w1 w') := by
      intro j q' q w1 hq hq' hb1
      have hmem := List.mem_of_getElem? hq
      have hfl : ∀ x ∈ q.flat, x ∈ r.flat := by
        intro x hx
        rw [Tr.flat_eq r]
        exact List.mem_append_left _ (List.mem_flatMap.2 ⟨q, hmem, hx⟩)
      have hqs : q.size ≤ r.size := by
        rw [Tr.size_eq r]
        have := size_le_sizes hmem
        omega
      exact ih q hmem S q' w1 (fun k hk => Nat.lt_of_lt_of_le (hSW k hk) hb1.size) (hT.below hb1 hT.some) ((hpt.2 j q q' hq hq').below hb1) (Tr.ok_parts hok q hmem).2 (fun x hx => hp x (hfl x hx)) (by omega)
    have HMADE : Hid (∀ (bs : List Nat) (v : Value) (w1 : World) (S1 : Nat → Prop), (∀ k, S1 k → k < w1.heap.size) → PtrsAt w1 (Old w1) v bs → TrsAt w1 S1 (r.parts.map (trFold k)) bs → Calls Tryd.prog 139 #[.agg #[.int .i64 r.nd.1, .int .u64 r.nd.2], v] w1 fun e w' => ∃ b', e = .returned (ptr b') ∧ TrAt w' (New S1 w1 w') (Tr.over r.nd (r.parts.map (trFold k))) b' ∧ Below w1.heap.size w1 w') := by
      intro bs v w1 S1 hS1 h1 h2
      obtain ⟨m1, m2, m3⟩ := Tr.ok_nd hok
      refine nodeOver_made r.nd.1 r.nd.2 (r.parts.map (trFold k)) bs v w1 S1 hS1 h1 h2 m1 (by simpa using m3) ?_ ?_
      · intro q hq
        obtain ⟨q0, hq0, rfl⟩ := List.mem_map.1 hq
        rw [trFold_kind k q0 (Tr.ok_parts hok q0 hq0).2]
        exact (Tr.ok_parts hok q0 hq0).1
      · have h3 : ∀ l : List Tr, sizes (l.map (trFold k)) ≤ sizes l := by
          intro l
          induction l with
          | nil => simp [sizes]
          | cons a l ihl =>
            have := trFold_size k a
            simp only [List.map_cons, sizes]
            omega
        have h4 := h3 r.parts
        have h5 := Tr.size_eq r
        omega
    have HPV : Hid _ := hpv
    have HL : Hid (r.parts.length = ps.length) := hpt.1
    have HSW : Hid _ := hSW
    obtain ⟨i0, hi, hz0, hz1, hz2⟩ := info_parts infoPtr
    clear ih hT htr hok hp hv hpv hpt n0 n1 n4 hb0 hSW
    subst hpsh
    generalize hTR : Tr.over r.nd (r.parts.map (trFold k)) = TR at *
    clear hTR
    generalize r.nd.1 = op at *
    generalize r.nd.2 = n at *
    go_enter Tryd.func86, Tryd.ntmps86
    go_wp2_with fail
    refine g1.mono ?_
    rintro e w1 ⟨rfl, hb1⟩
    clear g1
    obtain ⟨_, _, n4⟩ := HN.out w1 hb1
    have HB1 : Hid (Below w.heap.size w w1) := hb1
    clear hb1
    go_wp2_with fail
    go_loopw [5, 24] (fun v i wr => ∃ (j : Nat) (bs : List Nat), j ≤ ps.length ∧ i = .int .i64 j ∧ Hid (wr.ownsRow w.heap.size 101 1 v bs.length (ptrs bs)) ∧ Hid (TrsAt wr (Mix S w wr v) ((r.parts.take j).map (trFold k)) bs) ∧ Hid (Below w.heap.size w wr)) (fun _ i _ => ps.length - (intOf i).toNat)
    case atStart => exact ⟨0, [], by omega, rfl, World.ownsRow_nil _ _ _ _, ⟨rfl, fun i a p ha _ => by simp at ha⟩, HB1⟩
    case round =>
      obtain ⟨j, bs, hj, rfl, HO, HS, HB⟩ := hrel
      have hbl : bs.length = j := by
        have h1 := HS.out.1
        have h2 := HL.out
        simp at h1
        omega
      by_cases hlt' : j < ps.length
      · obtain ⟨p, hp⟩ : ∃ p, ps[j]? = some p := ⟨ps[j], List.getElem?_eq_getElem hlt'⟩
        obtain ⟨q, hq⟩ : ∃ q, r.parts[j]? = some q := ⟨r.parts[j]'(by have := HL.out; omega), List.getElem?_eq_getElem _⟩
        obtain ⟨g, off, rfl, hg, c0⟩ := PtrsAt.at HPV.out hp
        rw [← HB.out.cell (p := ⟨g, off + j, none⟩) hg] at c0
        have gI := HIH.out j p q wr hq hp HB.out
        have HE : Hid ((r.parts.take j).map (trFold k) ++ [trFold k q] = (r.parts.take (j + 1)).map (trFold k)) := by
          show _ = _
          rw [List.take_add_one, hq]
          simp
        obtain ⟨av, cv, hsv⟩ := own_shape HO.out
        have HBL : Hid (bs.length = j) := hbl
        have hb2' : bs.length ≤ 2 := by omega
        clear hp hq hg hbl
        generalize hNL : (r.parts.take (j + 1)).map (trFold k) = NL at *
        have HNL : Hid _ := hNL
        clear hNL
        generalize trFold k q = tq at *
        subst hsv
        go_wp2_with fail
        refine gI.mono ?_
        rintro e w2 ⟨b2, rfl, ht2, hb2⟩
        have HB2 : Hid (Below w.heap.size w w2) := HB.out.trans (hb2.mono HB.out.size)
        have HS2 : Hid (TrsAt w2 (Mix S w w2 (.slice av bs.length cv)) NL (bs ++ [b2])) := by
          show TrsAt _ _ _ _
          rw [← HE.out]
          refine trs_snoc (TrsAt.frame (fun k hk => ⟨hk.1, Nat.lt_of_lt_of_le hk.2.1 hb2.size, hk.2.2⟩) (fun k hk => hb2.block k hk.2.1) HS.out) (TrAt.frame (fun k hk => ?_) (fun _ _ => rfl) ht2)
          rcases hk with hk | hk
          · have h1 := HSW.out k hk
            have h2 := HB2.out.size
            exact ⟨Or.inl hk, by omega, fun e => by have := (HO.out.lt k e.symm).1; omega⟩
          · have h2 := HB.out.size
            exact ⟨Or.inr (by omega), hk.2, fun e => by have := (HO.out.lt k e.symm).2; omega⟩
        have own2 : w2.ownsRow w.heap.size 101 1 (.slice av bs.length cv) bs.length (ptrs bs) := owns_below HO.out hb2
        have HO2 : Hid _ := own2
        have HLX : Hid (ptrs bs ++ [ptr b2] = ptrs (bs ++ [b2]) ∧ bs.length + 1 = (bs ++ [b2]).length) := by
          constructor
          · simp [ptrs]
          · simp
        have own1 := own2.alloc (.cells #[ptr b2] 101)
        generalize ptrs bs = xs0 at own1 HLX
        generalize bs ++ [b2] = NB at *
        have HBx : Hid (Below w.heap.size w (w2.alloc (.cells #[ptr b2] 101))) := HB2.out.alloc HB2.out.size _
        have cellsN := onePtr_cells w2 b2
        clear gI ht2 hb2 own2
        go_wp2_with (at_builtin; refine wpList_append_own_at _ rfl _ _ 118 rfl w.heap.size 101 i0 (.pointer none) 1 8 Tryd.underlying118 hi hz0 hz1 hz2 rfl (by decide) _ _ _ rfl own1 ⟨w2.heap.size, 0, none⟩ 1 1 [ptr b2] rfl rfl cellsN (by intro u hu; simp at hu; subst hu; rfl) (by unfold maxLen; omega) (by omega) (by have h := HB2.out.size; simp; omega) ?_)
        intro v7 w7 own7 grow7 _ hat7
        have HO7 : Hid (w7.ownsRow w.heap.size 101 1 v7 NB.length (ptrs NB)) := by
          show World.ownsRow _ _ _ _ _ _ _
          rw [← HLX.out.1, ← HLX.out.2]
          exact own7
        have HT7 : Hid (TrsAt w7 (Mix S w w7 v7) NL NB) := mix_next HS2.out grow7 hat7 rfl
        have HB7 : Hid (Below w.heap.size w w7) := HBx.out.grown grow7 HBx.out.size (fun k hk => (World.ownsRow.lt HO2.out k hk).1)
        clear own1 own7 grow7 hat7 cellsN
        go_wp2_with fail
        go_roundw
        case rel => exact ⟨j + 1, NB, by omega, by go_num, HO7, by rw [HNL.out]; exact HT7, HB7⟩
        case measure => simp [intOf]; omega
      · obtain rfl : j = ps.length := by omega
        have hall : (r.parts.take ps.length).map (trFold k) = r.parts.map (trFold k) := by
          rw [← HL.out, List.take_length]
        have hS2 := HS.out
        rw [hall] at hS2
        obtain ⟨av, cv, hsv⟩ := own_shape HO.out
        have g9 := HMADE.out bs u5 wr (Mix S w wr u5) (fun k hk => hk.2.1) (ptrs_of_own HO.out (by omega)) hS2
        obtain ⟨n0, n1, _⟩ := HN.out wr HB.out
        clear hS2 hall HS HIH HPV HMADE hbl
        subst hsv
        go_wp2_with fail
        refine g9.mono ?_
        rintro e w9 ⟨b9, rfl, ht9, hb9⟩
        have HT9 : Hid (TrAt w9 (fun k => S k ∨ (w.heap.size ≤ k ∧ k < w9.heap.size)) TR b9) := by
          refine TrAt.frame (fun k hk => ?_) (fun _ _ => rfl) ht9
          have h2 := HB.out.size
          have h3 := hb9.size
          rcases hk with hk | hk
          · rcases hk.1 with h1 | h1
            · exact Or.inl h1
            · exact Or.inr ⟨h1, Nat.lt_of_lt_of_le hk.2.1 h3⟩
          · exact Or.inr ⟨by omega, hk.2⟩
        have HB9 : Hid (Below w.heap.size w w9) := HB.out.trans (hb9.mono HB.out.size)
        clear g9 ht9 hb9
        go_wp2_with fail
        go_ret
        exact ⟨_, rfl, HT9.out, HB9.out⟩
theorem fold_any (k : Nat) (hk1 : 1 ≤ k) (hk : k ≤ 64) (vars : Int) (hv4 : vars ≤ 4) : ∀ r : Tr, FoldP k vars r := Tr.ind (fold_step k hk1 hk vars hv4)
end Go.Proofs.YtjbfembblgkakaaDoor

namespace Go.Proofs.YtjbfembblgkakaaDoor
open Go Go.RowKit
open M
set_option linter.unusedVariables false

set_option maxRecDepth 100000 in
set_option maxHeartbeats 1000000 in
theorem impl_FoldTerm : DoesFoldTerm := by
  intro wide vars v t w hT h hl hcap hw0 hw1 hv0 hv1
  by_cases hk : 0 < kindL wide vars t
  · obtain ⟨g1, g2, g3, g4, g5, r, hr, k1, k2, k3⟩ := root_tree hk
    have g := rootOf_yes wide vars v t w hT h r hk hr
    have hfl := foldL_tree hk hr
    rw [decide_eq_true hk, hfl]
    obtain ⟨k, rfl, hk1, hk64⟩ := wideB_true g1
    rw [Int.toNat_natCast]
    have hsz : r.size ≤ 48 := by
      have := r.flat_len
      rw [k2] at this
      omega
    have hp : Pos r := by
      intro x hx
      rw [k2] at hx
      exact (h.1 x hx).2.2.1
    have GF : Hid (∀ (b : Nat) (w1 : World), Below w.heap.size w w1 → TrAt w1 (Old w1) r b → Calls Tryd.prog 86 #[ptr b, .int .i64 k] w1 fun e w' => ∃ b', e = .returned (ptr b') ∧ TrAt w' (New (fun _ => False) w1 w') (trFold k r) b' ∧ Below w1.heap.size w1 w') :=
      fun b w1 hb htr => fold_any k hk1 hk64 vars g3 r (fun _ => False) b w1 (fun k hk => hk.elim) (hT.below hb hT.some) htr k1 hp (by omega)
    have HSZ : Hid ((trFold k r).size ≤ 48) := Nat.le_trans (trFold_size k r) hsz
    generalize trFold k r = tf at *
    clear hT h hk hr k1 k2 k3 hfl hp hsz g1 hcap
    go_enter Tryd.func22, Tryd.ntmps22
    go_wp2_with fail
    refine g.mono ?_
    rintro e w1 ⟨b, rfl, htr, hb1⟩
    have g7 := GF.out b w1 hb1 htr
    have HB1 : Hid _ := hb1
    clear g htr hb1 GF
    go_wp2_with fail
    refine g7.mono ?_
    rintro e w2 ⟨b2, rfl, ht2, hb2⟩
    have g8 := nodesOf_yes tf b2 w2 (TrAt.frame (fun k hk => by
      rcases hk with hk | hk
      · exact hk.elim
      · exact hk.2) (fun _ _ => rfl) ht2) HSZ.out
    have HB2 : Hid (Below w.heap.size w w2) := HB1.out.trans (hb2.mono HB1.out.size)
    clear g7 ht2 hb2
    go_wp2_with fail
    refine g8.mono ?_
    rintro e w3 ⟨v3, rfl, ho3, hb3⟩
    have HO3 : Hid (OwnNodes w3 w.heap.size v3 tf.flat) := ho3.low HB2.out.size
    have HB3 : Hid (Below w.heap.size w w3) := HB2.out.trans (hb3.mono HB2.out.size)
    clear g8 ho3 hb3
    go_wp2_with fail
    go_ret2
    exact ⟨_, rfl, HO3.out, HB3.out⟩
  · have g := rootOf_no wide vars v t w hT h hk
    have e1 : foldL wide vars t = [] := by
      unfold foldL
      rw [if_neg hk]
    rw [decide_eq_false hk, e1]
    clear hT h hk e1 hcap
    go_enter Tryd.func22, Tryd.ntmps22
    go_wp2_with fail
    refine g.mono ?_
    rintro e w1 ⟨rfl, hb1⟩
    have HB1 : Hid _ := hb1
    clear g hb1
    go_wp2_with fail
    go_ret2
    exact ⟨_, rfl, World.ownsRow_nil _ _ _ _, HB1.out⟩
end Go.Proofs.YtjbfembblgkakaaDoor

namespace Go.Proofs.YtjbfembblgkakaaDoor
open Go Go.RowKit
open M
set_option linter.unusedVariables false

theorem impl_KindOf : DoesKindOf := by
  intro wide vars v t w hT h hl
  by_cases hk : 0 < kindL wide vars t
  · obtain ⟨_, _, _, _, _, r, hr, _, _, hrk⟩ := root_tree hk
    have g := rootOf_yes wide vars v t w hT h r hk hr
    rw [decide_eq_true hk, ← hrk]
    obtain ⟨kk, hkk⟩ : ∃ kk, r.kind = kk := ⟨_, rfl⟩
    rw [hkk]
    have HKK : Hid (r.kind = kk) := hkk
    clear hr hk hT h hrk hkk
    go_enter Tryd.func26, Tryd.ntmps26
    go_wp2_with fail
    refine g.mono ?_
    rintro e w' ⟨p, rfl, htr, hb⟩
    obtain ⟨ps, ⟨_, _, _, n2, _⟩, _⟩ := trAt_open htr
    have HB : Hid _ := hb
    clear g hb htr
    rw [HKK.out] at n2
    go_wp2_with fail
    go_ret2
    exact ⟨rfl, HB.out⟩
  · have g := rootOf_no wide vars v t w hT h hk
    rw [decide_eq_false hk, kindL_zero hk]
    clear hk hT h
    go_enter Tryd.func26, Tryd.ntmps26
    go_wp2_with fail
    refine g.mono ?_
    rintro e w' ⟨rfl, hb⟩
    have HB : Hid _ := hb
    clear g hb
    go_wp2_with fail
    go_ret2
    exact ⟨rfl, HB.out⟩
end Go.Proofs.YtjbfembblgkakaaDoor

namespace Go.Proofs.YtjbfembblgkakaaDoor
open Go Go.RowKit
open M
set_option linter.unusedVariables false

theorem CodeOk.up {B B' : Nat} {w : World} {sv : Value} (h : CodeOk B w sv) (hB : B ≤ B') : CodeOk B' w sv := by
  rcases h with h | ⟨cb, off, len, cap, h1, h2, h3, h4⟩
  · exact Or.inl h
  · exact Or.inr ⟨cb, off, len, cap, h1, by omega, h3, h4⟩
set_option maxRecDepth 100000 in
theorem folded_big (a0 a1 : Option Addr) (l0 c0 l1 c1 : Nat) (h0 : l0 ≤ 9223372036854775807) (h1 : l1 ≤ 9223372036854775807) (h : 1048576 < l0 + l1) (w : World) :
    Calls Tryd.prog 3 #[.slice a0 l0 c0, .slice a1 l1 c1] w fun e w' => e = .returned (.bool true) ∧ Below w.heap.size w w' := by
  have g0 := big_yes a0 a1 l0 c0 l1 c1 h0 h1 h w
  go_enter Tryd.func3, Tryd.ntmps3
  go_wp2_with fail
  refine g0.mono ?_
  rintro e w' ⟨rfl, rfl⟩
  clear g0
  go_wp2_with fail
  go_ret
  exact ⟨rfl, Below.refl _ _⟩
set_option maxRecDepth 100000 in
set_option maxHeartbeats 16000000 in
theorem folded_walk (a0 a1 : Option Addr) (l0 c0 l1 c1 : Nat) (h0 : l0 ≤ 9223372036854775807) (h1 : l1 ≤ 9223372036854775807) (w : World) (hT : Tab w) (hz : 0 < w.heap.size)
    (hc0 : CodeOk w.heap.size w (.slice a0 l0 c0)) (hc1 : CodeOk w.heap.size w (.slice a1 l1 c1)) :
    Calls Tryd.prog 3 #[.slice a0 l0 c0, .slice a1 l1 c1] w fun e w' => e = .returned (.bool true) ∧ Below w.heap.size w w' := by
  by_cases h : 1048576 < l0 + l1
  · exact folded_big a0 a1 l0 c0 l1 c1 h0 h1 h w
  have g0 := big_no a0 a1 l0 c0 l1 c1 h0 h1 (by omega) w
  have g1 := drawValueOf_any (.slice a0 l0 c0) w hc0
  have HT : Hid (∀ w', Below w.heap.size w w' → Tab w') := fun w' hb => hT.below hb hT.some
  have HC1 : Hid (∀ w', Below w.heap.size w w' → CodeOk w'.heap.size w' (.slice a1 l1 c1)) := fun w' hb => (hc1.below hb).up hb.size
  clear hT hz hc0 hc1 h
  go_enter Tryd.func3, Tryd.ntmps3
  go_wp2_with fail
  refine g0.mono ?_
  rintro e w' ⟨rfl, rfl⟩
  clear g0
  obtain ⟨w, rfl⟩ : ∃ w, w = w' := ⟨_, rfl⟩
  go_wp2_with fail
  refine g1.mono ?_
  rintro e w1 ⟨k, v, t, sv, st, rfl, ⟨hk1, hk⟩, hst5, hnd, hsd, hb1⟩
  clear g1
  obtain ⟨sa, sc, hsv⟩ := own_shape hsd.1
  have HW : Hid (∀ w', Below w1.heap.size w1 w' → Below w.heap.size w w') := fun w' hb => hb1.trans (hb.mono hb1.size)
  have H1 : Hid (Below w1.heap.size w1 w1) := Below.refl _ _
  have HND : Hid (∀ w', Below w1.heap.size w1 w' → NodesAt w' v t ∧ CapOk v) := fun w' hb => ⟨(hnd.below hb).at, cap_of_own hnd.1⟩
  have HTL : Hid (t.length ≤ 31) := hnd.2.2
  have HNK : Hid (∀ x ∈ t, NdOk x) := hnd.2.1
  have hstat := st_of_own hsd.1
  have HSD : Hid (∀ w', Below w1.heap.size w1 w' → StAt w' sv st) := fun w' hb => hstat.below hb
  have HSO : Hid (StOk st) := ⟨by omega, hsd.2⟩
  have HFR : Hid (∀ (w' : World) (B : Nat) (v' : Value), OwnNodes w' B v' (foldL k st.length t) → NodesAt w' v' (foldL k st.length t)) := foldTerm_reads0 k st.length t (by omega) (by omega) (by omega) (by omega) HNK.out (by have := HTL.out; omega)
  have HFL : Hid ((foldL k st.length t).length ≤ 31) := Nat.le_trans (foldTerm_len0 k st.length t) HTL.out
  have HVR : Hid (∀ (w' : World) (B : Nat) (v' : Value), OwnInts w' B v' (varsInL k st.length t) → IntsAt w' v' (varsInL k st.length t)) := fun w' B v' ho => ints_of_own (by have h1 := varsIn_len0 k st.length t; have h2 := HTL.out; omega) ho
  have GIV : Hid (∀ w', Below w1.heap.size w1 w' → Calls Tryd.prog 20 #[.int .i64 (k : Int), v, sv] w' fun e w'' => e = .returned (.tuple #[.int .u64 (valueL k t st), .bool (saidV k t st)]) ∧ Below w'.heap.size w' w'') := fun w' hb => impl_ValueOf k v sv t st w' (HT.out w' (HW.out w' hb)) (HND.out w' hb).1 (by have := HTL.out; omega) (HSD.out w' hb) HSO.out
  have GSV : Hid (∀ w', Below w1.heap.size w1 w' → Calls Tryd.prog 21 #[.int .i64 (k : Int), v, sv] w' fun e w'' => e = .returned (.tuple #[.int .u64 (valueL k t st), .bool (saidV k t st)]) ∧ Below w'.heap.size w' w'') := fun w' hb => valueOf_any k v sv t st HSO.out w' (HND.out w' hb).1 (HSD.out w' hb)
  have GIF : Hid (∀ w', Below w1.heap.size w1 w' → Calls Tryd.prog 22 #[.int .i64 (k : Int), .int .i64 (st.length : Int), v] w' fun e w'' => ∃ r : Value, e = .returned (.tuple #[r, .bool (decide (0 < kindL k st.length t))]) ∧ OwnNodes w'' w'.heap.size r (foldL k st.length t) ∧ Below w'.heap.size w' w'') := fun w' hb => impl_FoldTerm k st.length v t w' (HT.out w' (HW.out w' hb)) (HND.out w' hb).1 (by have := HTL.out; omega) (HND.out w' hb).2 (by omega) (by omega) (by omega) (by omega)
  have GSF : Hid (∀ w', Below w1.heap.size w1 w' → Calls Tryd.prog 23 #[.int .i64 (k : Int), .int .i64 (st.length : Int), v] w' fun e w'' => ∃ r : Value, e = .returned (.tuple #[r, .bool (decide (0 < kindL k st.length t))]) ∧ OwnNodes w'' w'.heap.size r (foldL k st.length t) ∧ Below w'.heap.size w' w'') := fun w' hb => foldTerm_any k st.length v t w' (HND.out w' hb).1 (HND.out w' hb).2
  have GIA : Hid (∀ w', Below w1.heap.size w1 w' → Calls Tryd.prog 25 #[.int .i64 (k : Int), .int .i64 (st.length : Int), v] w' fun e w'' => ∃ r : Value, e = .returned (.tuple #[r, .bool (decide (0 < kindL k st.length t))]) ∧ OwnInts w'' w'.heap.size r (varsInL k st.length t) ∧ Below w'.heap.size w' w'') := fun w' hb => impl_VarsIn k st.length v t w' (HT.out w' (HW.out w' hb)) (HND.out w' hb).1 (by have := HTL.out; omega) (by omega) (by omega) (by omega) (by omega)
  have GIK : Hid (∀ w', Below w1.heap.size w1 w' → Calls Tryd.prog 26 #[.int .i64 (k : Int), .int .i64 (st.length : Int), v] w' fun e w'' => e = .returned (.tuple #[.int .i64 (kindL k st.length t), .bool (decide (0 < kindL k st.length t))]) ∧ Below w'.heap.size w' w'') := fun w' hb => impl_KindOf k st.length v t w' (HT.out w' (HW.out w' hb)) (HND.out w' hb).1 (by have := HTL.out; omega)
  have HSAID : Hid (saidV k t st = true → decide (0 < kindL k st.length t) = true ∧ (∀ (fv : Value) (w' : World), Below w1.heap.size w1 w' → NodesAt w' fv (foldL k st.length t) → CapOk fv →
      Calls Tryd.prog 20 #[.int .i64 (k : Int), fv, sv] w' (fun e w'' => e = .returned (.tuple #[.int .u64 (valueL k t st), .bool true]) ∧ Below w'.heap.size w' w'') ∧
      Calls Tryd.prog 22 #[.int .i64 (k : Int), .int .i64 (st.length : Int), fv] w' (fun e w'' => ∃ r : Value, e = .returned (.tuple #[r, .bool true]) ∧ OwnNodes w'' w'.heap.size r (foldL k st.length t) ∧ Below w'.heap.size w' w'') ∧
      Calls Tryd.prog 25 #[.int .i64 (k : Int), .int .i64 (st.length : Int), fv] w' (fun e w'' => ∃ r : Value, e = .returned (.tuple #[r, .bool true]) ∧ OwnInts w'' w'.heap.size r (varsInL k st.length t) ∧ Below w'.heap.size w' w'') ∧
      Calls Tryd.prog 26 #[.int .i64 (k : Int), .int .i64 (st.length : Int), fv] w' (fun e w'' => e = .returned (.tuple #[.int .i64 (kindL k st.length t), .bool true]) ∧ Below w'.heap.size w' w''))) := by
    intro hs
    obtain ⟨p1, p2, p3, p4, p5, p6⟩ := folded_said HNK.out hs
    refine ⟨decide_eq_true p1, fun fv w' hb hn hcap => ?_⟩
    have hfl : (foldL k st.length t).length ≤ 1048576 := by have := HFL.out; omega
    have hT' := HT.out w' (HW.out w' hb)
    have hp4 : decide (0 < kindL k st.length (foldL k st.length t)) = true := decide_eq_true (by rw [p4]; exact p1)
    have q1 := impl_ValueOf k fv sv (foldL k st.length t) st w' hT' hn hfl (HSD.out w' hb) HSO.out
    rw [p2, p3] at q1
    have q2 := impl_FoldTerm k st.length fv (foldL k st.length t) w' hT' hn hfl hcap (by omega) (by omega) (by omega) (by omega)
    rw [hp4, p5] at q2
    have q3 := impl_VarsIn k st.length fv (foldL k st.length t) w' hT' hn hfl (by omega) (by omega) (by omega) (by omega)
    rw [hp4, p6] at q3
    have q4 := impl_KindOf k st.length fv (foldL k st.length t) w' hT' hn hfl
    rw [hp4, p4] at q4
    exact ⟨q1, q2, q3, q4⟩
  subst hsv
  clear hnd hsd hb1 hstat HND HTL HNK HSD HSO HFL
  generalize valueL k t st = VL at *
  generalize foldL k st.length t = FL at *
  generalize varsInL k st.length t = VI at *
  generalize kindL k st.length t = KD at *
  generalize decide (0 < KD) = KP at *
  cases hSV : saidV k t st with
  | false =>
    simp only [hSV] at GIV GSV HSAID
    clear hSV HSAID
    have g1_ := GIV.out w1 H1.out
    go_wp2_with fail
    refine g1_.mono ?_
    rintro e w2 ⟨rfl, hb2⟩
    clear g1_
    have H2 : Hid (Below w1.heap.size w1 w2) := H1.out.trans (hb2.mono H1.out.size)
    clear hb2
    have g2_ := GSV.out w2 H2.out
    go_wp2_with fail
    refine g2_.mono ?_
    rintro e w3 ⟨rfl, hb3⟩
    clear g2_
    have H3 : Hid (Below w1.heap.size w1 w3) := H2.out.trans (hb3.mono H2.out.size)
    clear hb3
    have g3_ := GIF.out w3 H3.out
    go_wp2_with fail
    refine g3_.mono ?_
    rintro e w4 ⟨f4, rfl, ho4, hb4⟩
    clear g3_
    have H4 : Hid (Below w1.heap.size w1 w4) := H3.out.trans (hb4.mono H3.out.size)
    have HF : Hid (∀ w', Below w4.heap.size w4 w' → NodesAt w' f4 FL ∧ CapOk f4) := fun w' hb => ⟨(HFR.out _ _ _ ho4).below hb, cap_of_own ho4⟩
    clear ho4 hb4
    have g4_ := GSF.out w4 H4.out
    go_wp2_with fail
    refine g4_.mono ?_
    rintro e w5 ⟨f5, rfl, ho5, hb5⟩
    clear g4_
    have H5 : Hid (Below w1.heap.size w1 w5) := H4.out.trans (hb5.mono H4.out.size)
    have J5 : Hid (Below w4.heap.size w4 w5) := hb5
    have g6 := sameNodes_any f4 f5 FL w5 (HF.out w5 hb5).1 (HFR.out _ _ _ ho5)
    clear ho5 hb5
    go_wp2_with fail
    refine g6.mono ?_
    rintro e w6 ⟨rfl, hb6⟩
    clear g6
    have J6 : Hid (Below w4.heap.size w4 w6) := J5.out.trans (hb6.mono J5.out.size)
    have H6 : Hid (Below w1.heap.size w1 w6) := H5.out.trans (hb6.mono H5.out.size)
    clear hb6
    have g5_ := drawVarsIn_any (.slice a1 l1 c1) w6 (HC1.out w6 (HW.out w6 H6.out))
    go_wp2_with fail
    refine g5_.mono ?_
    rintro e w20 ⟨k2, vars2, v2, t2, rfl, ⟨hk21, hk22⟩, ⟨hv20, hv25⟩, hd2, hb20⟩
    clear g5_
    have HD2 : Hid (∀ w', Below w20.heap.size w20 w' → NodesAt w' v2 t2) := fun w' hb => (hd2.below hb).at
    have HD2L : Hid (t2.length ≤ 31) := hd2.2.2
    have H20 : Hid (Below w1.heap.size w1 w20) := H6.out.trans (hb20.mono H6.out.size)
    clear hd2 hb20
    have HR2 : Hid (∀ (w' : World) (B : Nat) (v' : Value), OwnInts w' B v' (varsInL k2 vars2 t2) → IntsAt w' v' (varsInL k2 vars2 t2)) := fun w' B v' ho => ints_of_own (by have h1 := varsIn_len0 k2 vars2 t2; have h2 := HD2L.out; omega) ho
    have g21 := impl_VarsIn k2 vars2 v2 t2 w20 (HT.out w20 (HW.out w20 H20.out)) (HD2.out w20 (Below.refl _ _)) (by have := HD2L.out; omega) (by omega) (by omega) (by omega) (by omega)
    have HS2 : Hid (∀ w', Below w20.heap.size w20 w' → Calls Tryd.prog 29 #[.int .i64 (k2 : Int), .int .i64 vars2, v2] w' fun e w'' => ∃ v', e = .returned (.tuple #[v', .bool (decide (0 < kindL k2 vars2 t2))]) ∧ OwnInts w'' w'.heap.size v' (varsInL k2 vars2 t2) ∧ Below w'.heap.size w' w'') := fun w' hb => varsIn_any k2 vars2 v2 t2 w' (HD2.out w' hb)
    generalize decide (0 < kindL k2 vars2 t2) = KP2 at *
    generalize varsInL k2 vars2 t2 = VI2 at *
    go_wp2_with fail
    refine g21.mono ?_
    rintro e w21 ⟨r21, rfl, ho21, hb21⟩
    clear g21
    have HI21 : Hid (∀ w', Below w21.heap.size w21 w' → IntsAt w' r21 VI2) := fun w' hb => (HR2.out _ _ _ ho21).below hb
    have g22 := HS2.out w21 hb21
    have H21 : Hid (Below w1.heap.size w1 w21) := H20.out.trans (hb21.mono H20.out.size)
    clear ho21 hb21
    go_wp2_with fail
    refine g22.mono ?_
    rintro e w22 ⟨r22, rfl, ho22, hb22⟩
    clear g22
    have g23 := sameInts_any r21 r22 _ w22 (HI21.out w22 hb22) (HR2.out _ _ _ ho22)
    have H22 : Hid (Below w1.heap.size w1 w22) := H21.out.trans (hb22.mono H21.out.size)
    clear ho22 hb22
    go_wp2_with fail
    refine g23.mono ?_
    rintro e w23 ⟨rfl, hb23⟩
    clear g23
    have HE : Hid (Below w.heap.size w w23) := HW.out w23 (H22.out.trans (hb23.mono H22.out.size))
    clear hb23
    go_wp2_with fail
    go_ret
    exact ⟨rfl, HE.out⟩
  | true =>
    simp only [hSV] at GIV GSV HSAID
    obtain ⟨hKP, hX⟩ := HSAID.out trivial
    have HX : Hid _ := hX
    subst hKP
    clear hSV HSAID hX
    have g6_ := GIV.out w1 H1.out
    go_wp2_with fail
    refine g6_.mono ?_
    rintro e w2 ⟨rfl, hb2⟩
    clear g6_
    have H2 : Hid (Below w1.heap.size w1 w2) := H1.out.trans (hb2.mono H1.out.size)
    clear hb2
    have g7_ := GSV.out w2 H2.out
    go_wp2_with fail
    refine g7_.mono ?_
    rintro e w3 ⟨rfl, hb3⟩
    clear g7_
    have H3 : Hid (Below w1.heap.size w1 w3) := H2.out.trans (hb3.mono H2.out.size)
    clear hb3
    have g8_ := GIF.out w3 H3.out
    go_wp2_with fail
    refine g8_.mono ?_
    rintro e w4 ⟨f4, rfl, ho4, hb4⟩
    clear g8_
    have H4 : Hid (Below w1.heap.size w1 w4) := H3.out.trans (hb4.mono H3.out.size)
    have HF : Hid (∀ w', Below w4.heap.size w4 w' → NodesAt w' f4 FL ∧ CapOk f4) := fun w' hb => ⟨(HFR.out _ _ _ ho4).below hb, cap_of_own ho4⟩
    clear ho4 hb4
    have g9_ := GSF.out w4 H4.out
    go_wp2_with fail
    refine g9_.mono ?_
    rintro e w5 ⟨f5, rfl, ho5, hb5⟩
    clear g9_
    have H5 : Hid (Below w1.heap.size w1 w5) := H4.out.trans (hb5.mono H4.out.size)
    have J5 : Hid (Below w4.heap.size w4 w5) := hb5
    have g6 := sameNodes_any f4 f5 FL w5 (HF.out w5 hb5).1 (HFR.out _ _ _ ho5)
    clear ho5 hb5
    go_wp2_with fail
    refine g6.mono ?_
    rintro e w6 ⟨rfl, hb6⟩
    clear g6
    have J6 : Hid (Below w4.heap.size w4 w6) := J5.out.trans (hb6.mono J5.out.size)
    have H6 : Hid (Below w1.heap.size w1 w6) := H5.out.trans (hb6.mono H5.out.size)
    clear hb6
    have gq7 := (HX.out f4 w6 H6.out (HF.out w6 J6.out).1 (HF.out w6 J6.out).2).1
    go_wp2_with fail
    refine gq7.mono ?_
    rintro e w7 ⟨rfl, hb7⟩
    clear gq7
    have J7 : Hid (Below w4.heap.size w4 w7) := J6.out.trans (hb7.mono J6.out.size)
    have H7 : Hid (Below w1.heap.size w1 w7) := H6.out.trans (hb7.mono H6.out.size)
    clear hb7
    have gq8 := (HX.out f4 w7 H7.out (HF.out w7 J7.out).1 (HF.out w7 J7.out).2).2.1
    go_wp2_with fail
    refine gq8.mono ?_
    rintro e w8 ⟨f8, rfl, ho8, hb8⟩
    clear gq8
    have J8 : Hid (Below w4.heap.size w4 w8) := J7.out.trans (hb8.mono J7.out.size)
    have H8 : Hid (Below w1.heap.size w1 w8) := H7.out.trans (hb8.mono H7.out.size)
    have HF8 : Hid (∀ w', Below w8.heap.size w8 w' → NodesAt w' f8 FL) := fun w' hb => (HFR.out _ _ _ ho8).below hb
    have K8 : Hid (Below w8.heap.size w8 w8) := Below.refl _ _
    clear ho8
    clear hb8
    have g10_ := GIA.out w8 H8.out
    go_wp2_with fail
    refine g10_.mono ?_
    rintro e w9 ⟨i9, rfl, ho9, hb9⟩
    clear g10_
    have J9 : Hid (Below w4.heap.size w4 w9) := J8.out.trans (hb9.mono J8.out.size)
    have H9 : Hid (Below w1.heap.size w1 w9) := H8.out.trans (hb9.mono H8.out.size)
    have K9 : Hid (Below w8.heap.size w8 w9) := hb9
    have HI9 : Hid (∀ w', Below w9.heap.size w9 w' → IntsAt w' i9 VI) := fun w' hb => (HVR.out _ _ _ ho9).below hb
    clear ho9
    clear hb9
    have gq10 := (HX.out f4 w9 H9.out (HF.out w9 J9.out).1 (HF.out w9 J9.out).2).2.2.1
    go_wp2_with fail
    refine gq10.mono ?_
    rintro e w10 ⟨i10, rfl, ho10, hb10⟩
    clear gq10
    have J10 : Hid (Below w4.heap.size w4 w10) := J9.out.trans (hb10.mono J9.out.size)
    have H10 : Hid (Below w1.heap.size w1 w10) := H9.out.trans (hb10.mono H9.out.size)
    have K10 : Hid (Below w8.heap.size w8 w10) := K9.out.trans (hb10.mono K9.out.size)
    have L10 : Hid (Below w9.heap.size w9 w10) := hb10
    have HI10 : Hid (∀ w', Below w10.heap.size w10 w' → IntsAt w' i10 VI) := fun w' hb => (HVR.out _ _ _ ho10).below hb
    clear ho10
    clear hb10
    have g11_ := GIK.out w10 H10.out
    go_wp2_with fail
    refine g11_.mono ?_
    rintro e w11 ⟨rfl, hb11⟩
    clear g11_
    have J11 : Hid (Below w4.heap.size w4 w11) := J10.out.trans (hb11.mono J10.out.size)
    have H11 : Hid (Below w1.heap.size w1 w11) := H10.out.trans (hb11.mono H10.out.size)
    have K11 : Hid (Below w8.heap.size w8 w11) := K10.out.trans (hb11.mono K10.out.size)
    have L11 : Hid (Below w9.heap.size w9 w11) := L10.out.trans (hb11.mono L10.out.size)
    have M11 : Hid (Below w10.heap.size w10 w11) := hb11
    clear hb11
    have gq12 := (HX.out f4 w11 H11.out (HF.out w11 J11.out).1 (HF.out w11 J11.out).2).2.2.2
    go_wp2_with fail
    refine gq12.mono ?_
    rintro e w12 ⟨rfl, hb12⟩
    clear gq12
    have J12 : Hid (Below w4.heap.size w4 w12) := J11.out.trans (hb12.mono J11.out.size)
    have H12 : Hid (Below w1.heap.size w1 w12) := H11.out.trans (hb12.mono H11.out.size)
    have K12 : Hid (Below w8.heap.size w8 w12) := K11.out.trans (hb12.mono K11.out.size)
    have L12 : Hid (Below w9.heap.size w9 w12) := L11.out.trans (hb12.mono L11.out.size)
    have M12 : Hid (Below w10.heap.size w10 w12) := M11.out.trans (hb12.mono M11.out.size)
    clear hb12
    have gs13 := sameNodes_any f8 f4 FL w12 (HF8.out w12 K12.out) (HF.out w12 J12.out).1
    go_wp2_with fail
    refine gs13.mono ?_
    rintro e w13 ⟨rfl, hb13⟩
    clear gs13
    have L13 : Hid (Below w9.heap.size w9 w13) := L12.out.trans (hb13.mono L12.out.size)
    have M13 : Hid (Below w10.heap.size w10 w13) := M12.out.trans (hb13.mono M12.out.size)
    have H13 : Hid (Below w1.heap.size w1 w13) := H12.out.trans (hb13.mono H12.out.size)
    clear hb13
    have gs14 := sameInts_any i9 i10 VI w13 (HI9.out w13 L13.out) (HI10.out w13 M13.out)
    go_wp2_with fail
    refine gs14.mono ?_
    rintro e w14 ⟨rfl, hb14⟩
    clear gs14
    have H14 : Hid (Below w1.heap.size w1 w14) := H13.out.trans (hb14.mono H13.out.size)
    clear hb14
    have g12_ := drawVarsIn_any (.slice a1 l1 c1) w14 (HC1.out w14 (HW.out w14 H14.out))
    go_wp2_with fail
    refine g12_.mono ?_
    rintro e w20 ⟨k2, vars2, v2, t2, rfl, ⟨hk21, hk22⟩, ⟨hv20, hv25⟩, hd2, hb20⟩
    clear g12_
    have HD2 : Hid (∀ w', Below w20.heap.size w20 w' → NodesAt w' v2 t2) := fun w' hb => (hd2.below hb).at
    have HD2L : Hid (t2.length ≤ 31) := hd2.2.2
    have H20 : Hid (Below w1.heap.size w1 w20) := H14.out.trans (hb20.mono H14.out.size)
    clear hd2 hb20
    have HR2 : Hid (∀ (w' : World) (B : Nat) (v' : Value), OwnInts w' B v' (varsInL k2 vars2 t2) → IntsAt w' v' (varsInL k2 vars2 t2)) := fun w' B v' ho => ints_of_own (by have h1 := varsIn_len0 k2 vars2 t2; have h2 := HD2L.out; omega) ho
    have g21 := impl_VarsIn k2 vars2 v2 t2 w20 (HT.out w20 (HW.out w20 H20.out)) (HD2.out w20 (Below.refl _ _)) (by have := HD2L.out; omega) (by omega) (by omega) (by omega) (by omega)
    have HS2 : Hid (∀ w', Below w20.heap.size w20 w' → Calls Tryd.prog 29 #[.int .i64 (k2 : Int), .int .i64 vars2, v2] w' fun e w'' => ∃ v', e = .returned (.tuple #[v', .bool (decide (0 < kindL k2 vars2 t2))]) ∧ OwnInts w'' w'.heap.size v' (varsInL k2 vars2 t2) ∧ Below w'.heap.size w' w'') := fun w' hb => varsIn_any k2 vars2 v2 t2 w' (HD2.out w' hb)
    generalize decide (0 < kindL k2 vars2 t2) = KP2 at *
    generalize varsInL k2 vars2 t2 = VI2 at *
    go_wp2_with fail
    refine g21.mono ?_
    rintro e w21 ⟨r21, rfl, ho21, hb21⟩
    clear g21
    have HI21 : Hid (∀ w', Below w21.heap.size w21 w' → IntsAt w' r21 VI2) := fun w' hb => (HR2.out _ _ _ ho21).below hb
    have g22 := HS2.out w21 hb21
    have H21 : Hid (Below w1.heap.size w1 w21) := H20.out.trans (hb21.mono H20.out.size)
    clear ho21 hb21
    go_wp2_with fail
    refine g22.mono ?_
    rintro e w22 ⟨r22, rfl, ho22, hb22⟩
    clear g22
    have g23 := sameInts_any r21 r22 _ w22 (HI21.out w22 hb22) (HR2.out _ _ _ ho22)
    have H22 : Hid (Below w1.heap.size w1 w22) := H21.out.trans (hb22.mono H21.out.size)
    clear ho22 hb22
    go_wp2_with fail
    refine g23.mono ?_
    rintro e w23 ⟨rfl, hb23⟩
    clear g23
    have HE : Hid (Below w.heap.size w w23) := HW.out w23 (H22.out.trans (hb23.mono H22.out.size))
    clear hb23
    go_wp2_with fail
    go_ret
    exact ⟨rfl, HE.out⟩
end Go.Proofs.YtjbfembblgkakaaDoor
