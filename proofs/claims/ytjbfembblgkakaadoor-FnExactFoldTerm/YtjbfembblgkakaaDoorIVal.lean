/-
  What a tree comes to in a state: the program's value and ValueOf.
-/
import Derived.Test.YtjbfembblgkakaaDoorINum
import Derived.Test.YtjbfembblgkakaaDoorILay2
import Derived.Test.YtjbfembblgkakaaDoorTreeM
import Derived.Test.YtjbfembblgkakaaDoorLValue
namespace Go.Proofs.YtjbfembblgkakaaDoor
open Go Go.RowKit
open M
set_option linter.unusedVariables false

/-- what value does with a tree -/
def ValP (k : Nat) (vars : Int) (st : List Int) (sv : Value) (r : Tr) : Prop := ∀ (b : Nat) (w : World), Tab w → TrAt w (Old w) r b → StAt w sv st → r.Ok k vars → Pos r → VarsBelow r st.length →
  Calls Tryd.prog 81 #[ptr b, .int .i64 k, sv] w fun e w' => e = .returned (.int .u64 (trVal k st r)) ∧ Below w.heap.size w w'
set_option maxRecDepth 100000 in
set_option maxHeartbeats 1000000 in
theorem value_lit (k : Nat) (sv : Value) (b : Nat) (op n : Int) (w : World) (hop : op = 1 ∨ op = 20) (c0 : w.cell? ⟨b, 0, none⟩ = some (.int .i64 op)) (c1 : w.cell? ⟨b, 1, none⟩ = some (.int .u64 n)) :
    Calls Tryd.prog 81 #[ptr b, .int .i64 k, sv] w fun e w' => e = .returned (.int .u64 n) ∧ w' = w := by
  rcases hop with rfl | rfl
  all_goals
    go_enter Tryd.func81, Tryd.ntmps81
    go_wp2_with fail
    go_ret
    exact ⟨rfl, rfl⟩
set_option maxRecDepth 100000 in
set_option maxHeartbeats 1000000 in
theorem value_var (k : Nat) (sv : Value) (st : List Int) (b i : Nat) (s : Int) (w : World) (hst : st.length ≤ 1048576) (hs : StAt w sv st) (hi : st[i]? = some s) (c0 : w.cell? ⟨b, 0, none⟩ = some (.int .i64 2)) (c1 : w.cell? ⟨b, 1, none⟩ = some (.int .u64 i)) :
    Calls Tryd.prog 81 #[ptr b, .int .i64 k, sv] w fun e w' => e = .returned (.int .u64 s) ∧ w' = w := by
  have hil : i < st.length := (List.getElem?_eq_some_iff.1 hi).1
  rcases hs with ⟨rfl, _⟩ | ⟨sb, so, sc, rfl, hsb, hcs⟩
  · simp at hil
  · have cs := hcs i s hi
    clear hcs hi
    go_enter Tryd.func81, Tryd.ntmps81
    go_wp2_with fail
    go_ret
    exact ⟨rfl, rfl⟩
/-- the two values of parts, 0 where there is none -/
def twoOf (l : List Int) : Array Value := #[.int .u64 (l.getD 0 0), .int .u64 (l.getD 1 0)]
theorem twoOf_put (l : List Int) (v : Int) (h : l.length < 2) : (twoOf l).setIfInBounds l.length (.int .u64 v) = twoOf (l ++ [v]) := by
  match l, h with
  | [], _ => rfl
  | [a], _ => rfl
  | _ :: _ :: _, h => simp at h; omega
set_option maxRecDepth 100000 in
set_option maxHeartbeats 4000000 in
theorem value_parts (k : Nat) (vars : Int) (st : List Int) (sv : Value) (r : Tr) (ih : ∀ q ∈ r.parts, ValP k vars st sv q) (hne : r.parts ≠ []) (Z : Int)
    (hfin : (r.kind = 1 ∧ ∀ w1, Tab w1 → Calls Tryd.prog 142 #[.int .i64 k, .int .i64 r.nd.1, .int .u64 ((r.parts.map (trVal k st)).getD 0 0), .int .u64 ((r.parts.map (trVal k st)).getD 1 0)] w1 fun e w' => e = .returned (.int .u64 Z) ∧ (w' = w1 ∨ w' = w1.drew)) ∨
      (r.kind = 2 ∧ ∀ w1, Tab w1 → Calls Tryd.prog 141 #[.int .i64 k, .int .i64 r.nd.1, .int .u64 ((r.parts.map (trVal k st)).getD 0 0), .int .u64 ((r.parts.map (trVal k st)).getD 1 0)] w1 fun e w' => ∃ p : Bool, e = .returned (.bool p) ∧ (if p = true then 1 else 0) = Z ∧ w' = w1))
    (b : Nat) (w : World) (hT : Tab w) (htr : TrAt w (Old w) r b) (hs : StAt w sv st) (hok : r.Ok k vars) (hp : Pos r) (hv : VarsBelow r st.length) :
    Calls Tryd.prog 81 #[ptr b, .int .i64 k, sv] w fun e w' => e = .returned (.int .u64 Z) ∧ Below w.heap.size w w' := by
  obtain ⟨ps, ⟨hb, n0, n1, n2, _, pvl, n4, hpv⟩, hpt⟩ := trAt_open htr
  have hmany := (Tr.ok_nd hok).2.2
  have hpl2 : ps.length ≤ 2 := by
    have h2 : r.parts.length ≤ 2 := by cases r <;> simp [Tr.parts]
    have := hpt.1
    omega
  have hm0 : manyOf r.nd.1 ≠ 0 := by
    rw [hmany]
    intro e
    exact hne (List.length_eq_zero_iff.1 e)
  have hops := many_ops hm0
  have e1 : (r.nd.1 == 1) = false := beq_eq_false_iff_ne.2 (by omega)
  have e20 : (r.nd.1 == 20) = false := beq_eq_false_iff_ne.2 (by omega)
  have e2 : (r.nd.1 == 2) = false := beq_eq_false_iff_ne.2 (by omega)
  have HIH : Hid (∀ (j q' : Nat) (q : Tr) (w1 : World), r.parts[j]? = some q → ps[j]? = some q' → Below w.heap.size w w1 → Calls Tryd.prog 81 #[ptr q', .int .i64 k, sv] w1 fun e w' => e = .returned (.int .u64 (trVal k st q)) ∧ Below w1.heap.size w1 w') := by
    intro j q' q w1 hq hq' hb1
    have hmem := List.mem_of_getElem? hq
    have hfl : ∀ x ∈ q.flat, x ∈ r.flat := by
      intro x hx
      rw [Tr.flat_eq r]
      exact List.mem_append_left _ (List.mem_flatMap.2 ⟨q, hmem, hx⟩)
    exact ih q hmem q' w1 (hT.below hb1 hT.some) ((hpt.2 j q q' hq hq').below hb1) (hs.below hb1) (Tr.ok_parts hok q hmem).2 (fun x hx => hp x (hfl x hx)) (fun x hx => hv x (hfl x hx))
  obtain ⟨pa, pc, hpsh⟩ := hpv.shape
  have HPV : Hid _ := hpv
  have HL : Hid (r.parts.length = ps.length) := hpt.1
  have HT : Hid (Tab w) := hT
  have HFIN : Hid _ := hfin
  have HN0 : Hid _ := n0
  have HN2 : Hid _ := n2
  have HBD : Hid (b < w.heap.size) := hb
  clear ih hpt hpv htr hs hp hv hok hT hfin hne hmany hm0 hops hb
  subst hpsh
  have n4a : (w.alloc (.cells #[.int .u64 0, .int .u64 0] 179)).cell? ⟨b, 4, none⟩ = some (.slice pa ps.length pc) := by
    rw [← n4]
    exact World.cell?_of_block (w := w) (a := ⟨b, 4, none⟩) (Below.heap_alloc _ _ _ HBD.out)
  generalize r.nd.1 = op at *
  go_enter Tryd.func81, Tryd.ntmps81
  go_wp2_with fail
  go_loopw [38] (fun i wr => ∃ j : Nat, j ≤ ps.length ∧ i = .int .i64 j ∧ Hid (wr.heap[w.heap.size]? = some (.cells (twoOf ((r.parts.take j).map (trVal k st))) 179 (0, 0))) ∧ Hid (Below w.heap.size w wr)) (fun i _ => ps.length - (intOf i).toNat)
  case atStart =>
    refine ⟨0, by omega, rfl, ?_, (Below.refl _ _).alloc (Nat.le_refl _) _⟩
    show (w.heap.push _)[w.heap.size]? = _
    simp [twoOf]
  case round =>
    obtain ⟨j, hj, rfl, HH, HB⟩ := hrel
    by_cases hlt' : j < ps.length
    · obtain ⟨p, hp⟩ : ∃ p, ps[j]? = some p := ⟨ps[j], List.getElem?_eq_getElem hlt'⟩
      obtain ⟨q, hq⟩ : ∃ q, r.parts[j]? = some q := ⟨r.parts[j]'(by have := HL.out; omega), List.getElem?_eq_getElem _⟩
      obtain ⟨g, off, rfl, hg, c0⟩ := PtrsAt.at HPV.out hp
      rw [← HB.out.cell (p := ⟨g, off + j, none⟩) hg] at c0
      have gI := HIH.out j p q wr hq hp HB.out
      have HE : Hid ((r.parts.take (j + 1)).map (trVal k st) = (r.parts.take j).map (trVal k st) ++ [trVal k st q] ∧ ((r.parts.take j).map (trVal k st)).length = j) := by
        constructor
        · rw [List.take_add_one, hq]
          simp
        · have := HL.out
          simp
          omega
      have hlw : w.heap.size < wr.heap.size := (Array.getElem?_eq_some_iff.1 HH.out).1
      clear hp hq hg
      generalize trVal k st q = vq at *
      generalize (r.parts.take j).map (trVal k st) = vj at *
      go_wp2_with fail
      refine gI.mono ?_
      rintro e w2 ⟨rfl, hb2⟩
      have HH2 : Hid (w2.heap[w.heap.size]? = some (.cells (twoOf vj) 179 (0, 0))) := by
        show w2.heap[w.heap.size]? = _
        rw [hb2.block _ hlw]
        exact HH.out
      have HB2 : Hid (Below w.heap.size w w2) := HB.out.trans (hb2.mono HB.out.size)
      have d0 : w2.cell? ⟨w.heap.size, j, none⟩ = some (.int .u64 (vj.getD j 0)) := by
        rw [cell_heap HH2.out]
        rcases (show j = 0 ∨ j = 1 by omega) with rfl | rfl <;> rfl
      have f0 := frozen_heap (o := j) HH2.out
      have HH3 : Hid ((w2.setCell ⟨w.heap.size, j, none⟩ (.int .u64 vq)).heap[w.heap.size]? = some (.cells (twoOf ((r.parts.take (j + 1)).map (trVal k st))) 179 (0, 0))) := by
        show (w2.setCell ⟨w.heap.size, j, none⟩ (.int .u64 vq)).heap[w.heap.size]? = _
        rw [heap_set HH2.out, HE.out.1]
        have h := twoOf_put vj vq (by have := HE.out.2; omega)
        rw [HE.out.2] at h
        rw [h]
      have HB3 : Hid (Below w.heap.size w (w2.setCell ⟨w.heap.size, j, none⟩ (.int .u64 vq))) := HB2.out.setCell (p := ⟨w.heap.size, j, none⟩) (Nat.le_refl _) _
      clear gI hb2
      go_wp2_with fail
      go_roundw
      case rel => exact ⟨j + 1, by omega, by go_num, HH3, HB3⟩
      case measure => simp [intOf]; omega
    · obtain rfl : j = ps.length := by omega
      have hh : wr.heap[w.heap.size]? = some (.cells (twoOf (r.parts.map (trVal k st))) 179 (0, 0)) := by
        have h1 := HH.out
        rw [show r.parts.take ps.length = r.parts from by rw [← HL.out, List.take_length]] at h1
        exact h1
      have d0 := cell_heap (o := 0) hh
      have d1 := cell_heap (o := 1) hh
      simp only [twoOf, List.getElem?_toArray, List.getElem?_cons_succ, List.getElem?_cons_zero] at d0 d1
      have m0 : wr.cell? ⟨b, 0, none⟩ = some (.int .i64 op) := by
        rw [HB.out.cell (p := ⟨b, 0, none⟩) HBD.out]
        exact HN0.out
      have m2 : wr.cell? ⟨b, 2, none⟩ = some (.int .i64 r.kind) := by
        rw [HB.out.cell (p := ⟨b, 2, none⟩) HBD.out]
        exact HN2.out
      have HTr : Hid (Tab wr) := HT.out.below HB.out HT.out.some
      clear HH hh HIH HPV HL
      generalize (r.parts.map (trVal k st)).getD 0 0 = x0 at *
      generalize (r.parts.map (trVal k st)).getD 1 0 = x1 at *
      rcases HFIN.out with ⟨hk, gN⟩ | ⟨hk, gH⟩
      · rw [hk] at m2
        have g9 := gN wr.drew HTr.out
        clear hk gN HFIN
        go_wp2_with fail
        go_region_with (go_at_call 142; refine g9.mono ?_; rintro e w9 ⟨rfl, hw9⟩; have HB9 : Hid (Below w.heap.size w w9) := (by rcases hw9 with rfl | rfl; exact HB.out.drew; exact HB.out.drew.drew); clear hw9)
        all_goals
          clear g9
          go_wp2_with fail
          go_ret
          exact ⟨rfl, HB9.out⟩
      · rw [hk] at m2
        have g9 := gH wr.drew HTr.out
        have gB : ∀ p : Bool, (if p = true then (1 : Int) else 0) = Z → Calls Tryd.prog 140 #[.bool p] wr.drew fun e w' => e = .returned (.int .u64 Z) ∧ w' = wr.drew := fun p hz => by rw [← hz]; exact bitOf_any p wr.drew
        have GB : Hid _ := gB
        clear gB
        clear hk gH HFIN
        go_wp2_with fail
        go_region_with (first | (go_at_call 141; refine g9.mono ?_; rintro e w9 ⟨pz, rfl, hz9, rfl⟩; have HZ9 : Hid _ := hz9; clear hz9) | (go_at_call 140; refine (GB.out _ HZ9.out).mono ?_; rintro e w9 ⟨rfl, rfl⟩))
        all_goals
          clear g9 GB
          go_wp2_with fail
          go_ret
          exact ⟨rfl, HB.out.drew⟩
theorem value_any (k : Nat) (hk1 : 1 ≤ k) (hk : k ≤ 64) (vars : Int) (st : List Int) (sv : Value) (hst : ∀ s ∈ st, 0 ≤ s ∧ s < pw k) (hsl : st.length ≤ 1048576) : ∀ r : Tr, ValP k vars st sv r := by
  apply Tr.ind
  intro r ih
  cases r with
  | leaf x =>
    intro b w hT htr hs hok hp hv
    obtain ⟨op, n⟩ := x
    obtain ⟨_, n0, n1, _⟩ := htr
    obtain ⟨h1, h2, m0⟩ := hok
    have hn0 := hp (op, n) (by simp [Tr.flat])
    have hvv := hv (op, n) (by simp [Tr.flat])
    simp only at h1 h2 m0 hn0 hvv n0 n1
    have hop : op = 1 ∨ op = 2 ∨ op = 20 := by
      unfold manyOf at m0
      unfold ownOf at h1
      split at m0
      · omega
      · split at m0
        · omega
        · split at h1
          · omega
          · split at h1 <;> omega
    by_cases h2' : op = 2
    · subst h2'
      obtain ⟨i, rfl⟩ := Int.eq_ofNat_of_zero_le hn0
      have hlt := hvv rfl
      have hi : st[i]? = some (trVal k st (.leaf (2, (i : Int)))) := by
        show st[i]? = some (st.getD ((i : Int).toNat) 0)
        rw [Int.toNat_natCast] at hlt ⊢
        rw [List.getD_eq_getElem?_getD, List.getElem?_eq_getElem hlt]
        rfl
      refine (value_var k sv st b i _ w hsl hs hi n0 n1).mono ?_
      rintro e w' ⟨he, rfl⟩
      exact ⟨he, Below.refl _ _⟩
    · have e : trVal k st (.leaf (op, n)) = n := by
        show val0 st (op, n) = n
        unfold val0
        rw [if_neg h2']
      rw [e]
      refine (value_lit k sv b op n w (by omega) n0 n1).mono ?_
      rintro e w' ⟨he, rfl⟩
      exact ⟨he, Below.refl _ _⟩
  | one x a =>
    intro b w hT htr hs hok hp hv
    obtain ⟨op, n⟩ := x
    obtain ⟨_, _, m1, hka, ha⟩ := id hok
    have hvo := trVal_ok hk1 hk hst ha (fun x hx => hp x (by simp [Tr.flat, hx])) (fun x hx => hv x (by simp [Tr.flat, hx]))
    simp only at m1 hka
    have hop : op = 13 ∨ op = 19 := by
      unfold manyOf at m1
      split at m1
      · assumption
      · split at m1 <;> omega
    refine value_parts k vars st sv (.one (op, n) a) ih (by simp [Tr.parts]) _ ?_ b w hT htr hs hok hp hv
    rcases hop with rfl | rfl
    · left
      rcases hvo with ⟨_, h0, h1⟩ | ⟨h2, _⟩
      · exact ⟨rfl, fun w1 hT1 => numberOf_flip k hk1 hk (trVal k st a) 0 h0 h1 w1 hT1⟩
      · simp only at h2
        rw [h2] at hka
        cases hka
    · right
      rcases hvo with ⟨h2, _⟩ | ⟨_, h0⟩
      · simp only at h2
        rw [h2] at hka
        cases hka
      · exact ⟨rfl, fun w1 hT1 => holdsOf_no k (trVal k st a) 0 h0 w1⟩
  | two x a c =>
    intro b w hT htr hs hok hp hv
    obtain ⟨op, n⟩ := x
    obtain ⟨_, _, m2, hka, hkc, ha, hc⟩ := id hok
    have hva := trVal_ok hk1 hk hst ha (fun x hx => hp x (by simp [Tr.flat, hx])) (fun x hx => hv x (by simp [Tr.flat, hx]))
    have hvc := trVal_ok hk1 hk hst hc (fun x hx => hp x (by simp [Tr.flat, hx])) (fun x hx => hv x (by simp [Tr.flat, hx]))
    simp only at m2 hka hkc
    have hop : (3 ≤ op ∧ op ≤ 12) ∨ (14 ≤ op ∧ op ≤ 16) ∨ (op = 17 ∨ op = 18) := by
      unfold manyOf at m2
      split at m2
      · cases m2
      · split at m2 <;> omega
    have wa := hva.word hk1
    have wc := hvc.word hk1
    simp only at wa wc
    refine value_parts k vars st sv (.two (op, n) a c) ih (by simp [Tr.parts]) _ ?_ b w hT htr hs hok hp hv
    rcases hop with hop | hop | hop
    · left
      exact ⟨by show ownOf op = 1; unfold ownOf; rw [if_pos (by omega)], fun w1 hT1 => numberOf_any op hop k hk1 hk (trVal k st a) (trVal k st c) wa.1 wa.2 wc.1 wc.2 w1 hT1⟩
    · right
      refine ⟨by show ownOf op = 2; unfold ownOf; rw [if_neg (by omega), if_pos (by omega)], fun w1 hT1 => ?_⟩
      rcases (show op = 14 ∨ op = 15 ∨ op = 16 by omega) with rfl | rfl | rfl
      · exact holdsOf_14 k hk1 hk (trVal k st a) (trVal k st c) wa.1 wa.2 wc.1 wc.2 w1 hT1
      · exact holdsOf_15 k hk1 hk (trVal k st a) (trVal k st c) wa.1 wa.2 wc.1 wc.2 w1 hT1
      · exact holdsOf_16 k hk1 hk (trVal k st a) (trVal k st c) wa.1 wa.2 wc.1 wc.2 w1 hT1
    · right
      have hp2 : partOf op = 2 := by
        unfold partOf
        rw [if_neg (by omega), if_pos (by omega)]
      rw [hp2] at hka hkc
      have v1 : trVal k st a = 0 ∨ trVal k st a = 1 := by
        rcases hva with ⟨h, _⟩ | ⟨_, h⟩
        · simp only at h
          rw [h] at hka
          cases hka
        · exact h
      have v2 : trVal k st c = 0 ∨ trVal k st c = 1 := by
        rcases hvc with ⟨h, _⟩ | ⟨_, h⟩
        · simp only at h
          rw [h] at hkc
          cases hkc
        · exact h
      refine ⟨by show ownOf op = 2; unfold ownOf; rw [if_neg (by omega), if_pos (by omega)], fun w1 hT1 => ?_⟩
      rcases hop with rfl | rfl
      · exact holdsOf_17 k (trVal k st a) (trVal k st c) v1 v2 w1
      · exact holdsOf_18 k (trVal k st a) (trVal k st c) v1 v2 w1
end Go.Proofs.YtjbfembblgkakaaDoor
