/-
  The program's LetterAt, UnrollOf, ifGood, TurnLoop, SuffixOf.
  The model's LetterAt, UnrollOf.
-/
import Derived.Test.YthamdefkcjfjpaaIGoodL
import Derived.Test.YthamdefkcjfjpaaICut
import Derived.Test.YthamdefkcjfjpaaSFirst
namespace Go.Proofs.Ythamdefkcjfjpaa
open Go Go.RowKit
open M
set_option linter.unusedVariables false
set_option linter.unusedSimpArgs false

def letR (l : La) (k : Int) : Int := if atB l k = true then letL l k.toNat else 0
def unrR (l : La) (k : Int) : List Int := if atB l k = true then unrL l 0 k.toNat else []
def sufR (l : La) (k : Int) : La := if atB l k = true then sufL l k.toNat else ([], [])
theorem at_parts {l : La} {k : Int} (h : atB l k = true) : goodLa l = true ∧ ∃ n : Nat, k = n ∧ n ≤ 1000 := by
  unfold atB at h
  rw [Bool.and_eq_true, decide_eq_true_eq] at h
  exact ⟨h.1, k.toNat, by omega, by omega⟩
set_option maxRecDepth 100000 in
theorem iLetterAt_any (v : Value) (l : La) (k : Int) (w : World) (h : AtLa w v l) :
    Calls Try.prog 30 #[v, .int .i64 k] w fun e w' => e = .returned (.tuple #[.int .i64 (letR l k), .bool (atB l k)]) ∧ Below w.heap.size w w' := by
  have HG : Hid (∀ w1 : World, Below w.heap.size w w1 → Calls Try.prog 58 #[v, .int .i64 k] w1 fun e w' => e = .returned (.bool (atB l k)) ∧ Below w1.heap.size w1 w') := fun w1 hb => goodAt_any v l k w1 (h.below hb)
  have HLT : Hid (atB l k = true → ∀ w1 : World, Below w.heap.size w w1 → Calls Try.prog 63 #[v, .int .i64 k] w1 fun e w' => e = .returned (.int .i64 (letR l k)) ∧ Below w1.heap.size w1 w') := fun hat w1 hb => by
    obtain ⟨hg, n, rfl, hn⟩ := at_parts hat
    unfold letR
    rw [if_pos hat, Int.toNat_natCast]
    exact letter_any v l hg n (by omega) w1 (h.below hb)
  have HN : Hid (atB l k = false → letR l k = 0) := fun e => by
    unfold letR
    rw [if_neg (by rw [e]; decide)]
  obtain ⟨ga, gn, gc, oa, on, oc, rfl⟩ := h.shape
  have HB0 : Hid (Below w.heap.size w (w.alloc (.cells #[.slice ga gn gc, .slice oa on oc] 26))) := (Below.refl _ _).alloc (Nat.le_refl _) _
  have x0 := box2_alloc w 26 (.slice ga gn gc) (.slice oa on oc)
  have HX0 : Hid _ := x0
  have g := HG.out _ HB0.out
  clear h HG x0
  generalize letR l k = LR at *
  generalize atB l k = AB at *
  cases AB with
  | false =>
    have HZ := HN.out rfl
    subst HZ
    clear HLT HN HX0
    go_enter Try.func30, Try.ntmps30
    go_wp2_with fail
    refine g.mono ?_
    rintro e w1 ⟨rfl, hs⟩
    have HB1 : Hid (Below w.heap.size w w1) := HB0.out.trans (hs.mono HB0.out.size)
    clear g hs
    go_wp2_with fail
    go_ret2
    exact ⟨rfl, HB1.out⟩
  | true =>
    have HL2 : Hid _ := HLT.out rfl
    clear HLT HN
    go_enter Try.func30, Try.ntmps30
    go_wp2_with fail
    refine g.mono ?_
    generalize w.alloc (.cells #[.slice ga gn gc, .slice oa on oc] 26) = w0 at *
    rintro e w1 ⟨rfl, hs⟩
    have HB1 : Hid (Below w.heap.size w w1) := HB0.out.trans (hs.mono HB0.out.size)
    have x1 := HX0.out.below hs HX0.out.lt
    obtain ⟨a0, a1⟩ := x1.cells
    have ah := x1.heap
    have al := x1.lt
    clear g hs x1 HX0
    have g2 := HL2.out _ HB1.out
    go_wp2_with fail
    refine g2.mono ?_
    rintro e w2 ⟨rfl, hs⟩
    have HB2 : Hid (Below w.heap.size w w2) := HB1.out.trans (hs.mono HB1.out.size)
    clear g2 hs a0 a1 ah al
    go_wp2_with fail
    go_ret2
    exact ⟨rfl, HB2.out⟩
set_option maxRecDepth 100000 in
theorem iUnrollOf_any (v : Value) (l : La) (k : Int) (w : World) (h : AtLa w v l) :
    Calls Try.prog 31 #[v, .int .i64 k] w fun e w' => ∃ r, e = .returned (.tuple #[r, .bool (atB l k)]) ∧ OwnOI w' w.heap.size w'.heap.size r (unrR l k) ∧ Below w.heap.size w w' := by
  have HG : Hid (∀ w1 : World, Below w.heap.size w w1 → Calls Try.prog 58 #[v, .int .i64 k] w1 fun e w' => e = .returned (.bool (atB l k)) ∧ Below w1.heap.size w1 w') := fun w1 hb => goodAt_any v l k w1 (h.below hb)
  have HLT : Hid (atB l k = true → ∀ w1 : World, Below w.heap.size w w1 → Calls Try.prog 47 #[v, .int .i64 0, .int .i64 k] w1 fun e w' => ∃ r, e = .returned r ∧ OwnOI w' w1.heap.size w'.heap.size r (unrR l k) ∧ Below w1.heap.size w1 w') := fun hat w1 hb => by
    obtain ⟨hg, n, rfl, hn⟩ := at_parts hat
    unfold unrR
    rw [if_pos hat, Int.toNat_natCast]
    exact between_any v l hg 0 n (Nat.zero_le _) (by omega) w1 (h.below hb)
  have HN : Hid (atB l k = false → unrR l k = []) := fun e => by
    unfold unrR
    rw [if_neg (by rw [e]; decide)]
  obtain ⟨ga, gn, gc, oa, on, oc, rfl⟩ := h.shape
  have HB0 : Hid (Below w.heap.size w (w.alloc (.cells #[.slice ga gn gc, .slice oa on oc] 26))) := (Below.refl _ _).alloc (Nat.le_refl _) _
  have x0 := box2_alloc w 26 (.slice ga gn gc) (.slice oa on oc)
  have HX0 : Hid _ := x0
  have g := HG.out _ HB0.out
  clear h HG x0
  generalize unrR l k = LR at *
  generalize atB l k = AB at *
  cases AB with
  | false =>
    have HZ := HN.out rfl
    subst HZ
    clear HLT HN HX0
    go_enter Try.func31, Try.ntmps31
    go_wp2_with fail
    refine g.mono ?_
    rintro e w1 ⟨rfl, hs⟩
    have HB1 : Hid (Below w.heap.size w w1) := HB0.out.trans (hs.mono HB0.out.size)
    have HE : Hid (OwnOI w1 w.heap.size w1.heap.size (.slice none 0 0) []) := ⟨Nat.le_refl _, Or.inl ⟨rfl, none, 0, rfl, fun _ => rfl, fun ad e => by cases e⟩⟩
    clear g hs
    go_wp2_with fail
    go_ret2
    exact ⟨_, rfl, HE.out, HB1.out⟩
  | true =>
    have HL2 : Hid _ := HLT.out rfl
    clear HLT HN
    go_enter Try.func31, Try.ntmps31
    go_wp2_with fail
    refine g.mono ?_
    generalize w.alloc (.cells #[.slice ga gn gc, .slice oa on oc] 26) = w0 at *
    rintro e w1 ⟨rfl, hs⟩
    have HB1 : Hid (Below w.heap.size w w1) := HB0.out.trans (hs.mono HB0.out.size)
    have x1 := HX0.out.below hs HX0.out.lt
    obtain ⟨a0, a1⟩ := x1.cells
    have ah := x1.heap
    have al := x1.lt
    clear g hs x1 HX0
    have g2 := HL2.out _ HB1.out
    go_wp2_with fail
    refine g2.mono ?_
    rintro e w2 ⟨r, rfl, ho, hs⟩
    have HB2 : Hid (Below w.heap.size w w2) := HB1.out.trans (hs.mono HB1.out.size)
    have HO2 : Hid (OwnOI w2 w.heap.size w2.heap.size r LR) := OffIn.weak ho HB1.out.size (Nat.le_refl _) (Nat.le_refl _)
    clear g2 hs a0 a1 ah al ho
    go_wp2_with fail
    go_ret2
    exact ⟨_, rfl, HO2.out, HB2.out⟩
end Go.Proofs.Ythamdefkcjfjpaa

namespace Go.Proofs.Ythamdefkcjfjpaa
open Go Go.RowKit
open M
set_option linter.unusedVariables false
set_option linter.unusedSimpArgs false

theorem unrR_ok (l : La) (n : Int) : (unrR l n).length ≤ 1048576 := by
  unfold unrR
  by_cases h : atB l n = true
  · rw [if_pos h, unrL_len]
    obtain ⟨_, m, rfl, hm⟩ := at_parts h
    rw [Int.toNat_natCast]
    omega
  · rw [if_neg h]
    simp
theorem own_oi2 {w : World} {B : Nat} {v : Value} {t : List Int} (h : OwnInts2 w B v t) : OwnOI w B w.heap.size v t := offIn_of h
set_option maxRecDepth 100000 in
set_option maxHeartbeats 2000000 in
theorem sLetterAt_any (v : Value) (l : La) (k : Int) (w : World) (h : AtLa w v l) :
    Calls Try.prog 35 #[v, .int .i64 k] w fun e w' => e = .returned (.tuple #[.int .i64 (letR l k), .bool (atB l k)]) ∧ Below w.heap.size w w' := by
  have HG : Hid (∀ w1 : World, Below w.heap.size w w1 → Calls Try.prog 21 #[v] w1 fun e w' => e = .returned (.bool (goodLa l)) ∧ Below w1.heap.size w1 w') := fun w1 hb => sGoodLasso_any v l w1 (h.below hb)
  have HLT : Hid (atB l k = true → ∀ w1 : World, Below w.heap.size w w1 → Calls Try.prog 61 #[v, .int .i64 k] w1 fun e w' => e = .returned (.int .i64 (letR l k)) ∧ Below w1.heap.size w1 w') := fun hat w1 hb => by
    obtain ⟨hg, n, rfl, hn⟩ := at_parts hat
    unfold letR
    rw [if_pos hat, Int.toNat_natCast]
    exact l9At_any v l hg n (by omega) w1 (h.below hb)
  have HN : Hid (atB l k = false → letR l k = 0) := fun e => by
    unfold letR
    rw [if_neg (by rw [e]; decide)]
  have hE : atB l k = (goodLa l && decide (0 ≤ k ∧ k ≤ 1000)) := rfl
  have GI : Hid (∀ w1 : World, Calls Try.prog 55 #[.int .i64 k, .int .i64 0, .int .i64 1000] w1 fun e w' => e = .returned (.bool (decide (0 ≤ k ∧ k ≤ 1000))) ∧ w' = w1) := fun w1 => l1In_any k 0 1000 w1
  obtain ⟨ga, gn, gc, oa, on, oc, rfl⟩ := h.shape
  have HB0 : Hid (Below w.heap.size w (w.alloc (.cells #[.slice ga gn gc, .slice oa on oc] 26))) := (Below.refl _ _).alloc (Nat.le_refl _) _
  have x0 := box2_alloc w 26 (.slice ga gn gc) (.slice oa on oc)
  have HX0 : Hid _ := x0
  have g := HG.out _ HB0.out
  rw [hE] at HLT HN ⊢
  clear h HG x0 hE
  generalize letR l k = LR at *
  generalize goodLa l = AB at *
  generalize decide (0 ≤ k ∧ k ≤ 1000) = IB at *
  cases AB with
  | false =>
    rw [Bool.false_and] at HN ⊢
    have HZ := HN.out rfl
    subst HZ
    clear HLT HN HX0 GI
    go_enter Try.func35, Try.ntmps35
    go_wp2_with fail
    refine g.mono ?_
    rintro e w1 ⟨rfl, hs⟩
    have HB1 : Hid (Below w.heap.size w w1) := HB0.out.trans (hs.mono HB0.out.size)
    clear g hs
    go_wp2_with fail
    go_ret2
    exact ⟨rfl, HB1.out⟩
  | true =>
    rw [Bool.true_and] at HLT HN ⊢
    cases IB with
    | false =>
      have HZ := HN.out rfl
      subst HZ
      clear HLT HN HX0
      go_enter Try.func35, Try.ntmps35
      go_wp2_with fail
      refine g.mono ?_
      rintro e w1 ⟨rfl, hs⟩
      have HB1 : Hid (Below w.heap.size w w1) := HB0.out.trans (hs.mono HB0.out.size)
      clear g hs
      go_wp2_with fail
      refine (GI.out _).mono ?_
      rintro e w2 ⟨rfl, rfl⟩
      go_wp2_with fail
      go_ret2
      exact ⟨rfl, HB1.out⟩
    | true =>
      have HL2 : Hid _ := HLT.out rfl
      clear HLT HN
      go_enter Try.func35, Try.ntmps35
      go_wp2_with fail
      refine g.mono ?_
      generalize w.alloc (.cells #[.slice ga gn gc, .slice oa on oc] 26) = w0 at *
      rintro e w1 ⟨rfl, hs⟩
      have HB1 : Hid (Below w.heap.size w w1) := HB0.out.trans (hs.mono HB0.out.size)
      have x1 := HX0.out.below hs HX0.out.lt
      obtain ⟨a0, a1⟩ := x1.cells
      have ah := x1.heap
      have al := x1.lt
      clear g hs x1 HX0
      go_wp2_with fail
      refine (GI.out _).mono ?_
      rintro e w2 ⟨rfl, rfl⟩
      have g2 := HL2.out _ HB1.out
      go_wp2_with fail
      refine g2.mono ?_
      rintro e w2 ⟨rfl, hs⟩
      have HB2 : Hid (Below w.heap.size w w2) := HB1.out.trans (hs.mono HB1.out.size)
      clear g2 hs a0 a1 ah al
      go_wp2_with fail
      go_ret2
      exact ⟨rfl, HB2.out⟩
set_option maxRecDepth 100000 in
set_option maxHeartbeats 2000000 in
theorem sUnrollOf_any (v : Value) (l : La) (k : Int) (w : World) (h : AtLa w v l) :
    Calls Try.prog 34 #[v, .int .i64 k] w fun e w' => ∃ r, e = .returned (.tuple #[r, .bool (atB l k)]) ∧ OwnOI w' w.heap.size w'.heap.size r (unrR l k) ∧ Below w.heap.size w w' := by
  have HG : Hid (∀ w1 : World, Below w.heap.size w w1 → Calls Try.prog 21 #[v] w1 fun e w' => e = .returned (.bool (goodLa l)) ∧ Below w1.heap.size w1 w') := fun w1 hb => sGoodLasso_any v l w1 (h.below hb)
  have HLT : Hid (atB l k = true → ∀ w1 : World, Below w.heap.size w w1 → Calls Try.prog 52 #[v, .int .i64 0, .int .i64 k] w1 fun e w' => ∃ r, e = .returned r ∧ OwnInts2 w' w1.heap.size r (unrR l k) ∧ Below w1.heap.size w1 w') := fun hat w1 hb => by
    obtain ⟨hg, n, rfl, hn⟩ := at_parts hat
    unfold unrR
    rw [if_pos hat, Int.toNat_natCast]
    exact l9First_any v l hg 0 n (by omega) w1 (h.below hb)
  have HN : Hid (atB l k = false → unrR l k = []) := fun e => by
    unfold unrR
    rw [if_neg (by rw [e]; decide)]
  have hE : atB l k = (goodLa l && decide (0 ≤ k ∧ k ≤ 1000)) := rfl
  have GI : Hid (∀ w1 : World, Calls Try.prog 55 #[.int .i64 k, .int .i64 0, .int .i64 1000] w1 fun e w' => e = .returned (.bool (decide (0 ≤ k ∧ k ≤ 1000))) ∧ w' = w1) := fun w1 => l1In_any k 0 1000 w1
  obtain ⟨ga, gn, gc, oa, on, oc, rfl⟩ := h.shape
  have HB0 : Hid (Below w.heap.size w (w.alloc (.cells #[.slice ga gn gc, .slice oa on oc] 26))) := (Below.refl _ _).alloc (Nat.le_refl _) _
  have x0 := box2_alloc w 26 (.slice ga gn gc) (.slice oa on oc)
  have HX0 : Hid _ := x0
  have g := HG.out _ HB0.out
  rw [hE] at HLT HN ⊢
  clear h HG x0 hE
  generalize unrR l k = LR at *
  generalize goodLa l = AB at *
  generalize decide (0 ≤ k ∧ k ≤ 1000) = IB at *
  cases AB with
  | false =>
    rw [Bool.false_and] at HN ⊢
    have HZ := HN.out rfl
    subst HZ
    clear HLT HN HX0 GI
    go_enter Try.func34, Try.ntmps34
    go_wp2_with fail
    refine g.mono ?_
    rintro e w1 ⟨rfl, hs⟩
    have HB1 : Hid (Below w.heap.size w w1) := HB0.out.trans (hs.mono HB0.out.size)
    have HE : Hid (OwnOI w1 w.heap.size w1.heap.size (.slice none 0 0) []) := ⟨Nat.le_refl _, Or.inl ⟨rfl, none, 0, rfl, fun _ => rfl, fun ad e => by cases e⟩⟩
    clear g hs
    go_wp2_with fail
    go_ret2
    exact ⟨_, rfl, HE.out, HB1.out⟩
  | true =>
    rw [Bool.true_and] at HLT HN ⊢
    cases IB with
    | false =>
      have HZ := HN.out rfl
      subst HZ
      clear HLT HN HX0
      go_enter Try.func34, Try.ntmps34
      go_wp2_with fail
      refine g.mono ?_
      rintro e w1 ⟨rfl, hs⟩
      have HB1 : Hid (Below w.heap.size w w1) := HB0.out.trans (hs.mono HB0.out.size)
      have HE : Hid (OwnOI w1 w.heap.size w1.heap.size (.slice none 0 0) []) := ⟨Nat.le_refl _, Or.inl ⟨rfl, none, 0, rfl, fun _ => rfl, fun ad e => by cases e⟩⟩
      clear g hs
      go_wp2_with fail
      refine (GI.out _).mono ?_
      rintro e w2 ⟨rfl, rfl⟩
      go_wp2_with fail
      go_ret2
      exact ⟨_, rfl, HE.out, HB1.out⟩
    | true =>
      have HL2 : Hid _ := HLT.out rfl
      clear HLT HN
      go_enter Try.func34, Try.ntmps34
      go_wp2_with fail
      refine g.mono ?_
      generalize w.alloc (.cells #[.slice ga gn gc, .slice oa on oc] 26) = w0 at *
      rintro e w1 ⟨rfl, hs⟩
      have HB1 : Hid (Below w.heap.size w w1) := HB0.out.trans (hs.mono HB0.out.size)
      have x1 := HX0.out.below hs HX0.out.lt
      obtain ⟨a0, a1⟩ := x1.cells
      have ah := x1.heap
      have al := x1.lt
      clear g hs x1 HX0
      go_wp2_with fail
      refine (GI.out _).mono ?_
      rintro e w2 ⟨rfl, rfl⟩
      have g2 := HL2.out _ HB1.out
      go_wp2_with fail
      refine g2.mono ?_
      rintro e w2 ⟨r, rfl, ho, hs⟩
      have HB2 : Hid (Below w.heap.size w w2) := HB1.out.trans (hs.mono HB1.out.size)
      have HO2 : Hid (OwnOI w2 w.heap.size w2.heap.size r LR) := OffIn.weak (own_oi2 ho) HB1.out.size (Nat.le_refl _) (Nat.le_refl _)
      clear g2 hs a0 a1 ah al ho
      go_wp2_with fail
      go_ret2
      exact ⟨_, rfl, HO2.out, HB2.out⟩
end Go.Proofs.Ythamdefkcjfjpaa
