/-
  The walk of the law of folded terms.
-/
import Derived.Test.YtkmgcgmeibhnmaaDoorTog1
namespace Go.Proofs.YtkmgcgmeibhnmaaDoor
open Go Go.RowKit
open M
set_option linter.unusedVariables false

theorem CodeOk.up {B B' : Nat} {w : World} {sv : Value} (h : CodeOk B w sv) (hB : B ≤ B') : CodeOk B' w sv := by
  rcases h with h | ⟨cb, off, len, cap, h1, h2, h3, h4⟩
  · exact Or.inl h
  · exact Or.inr ⟨cb, off, len, cap, h1, by omega, h3, h4⟩
set_option maxRecDepth 100000 in
theorem folded_big (a0 a1 : Option Addr) (l0 c0 l1 c1 : Nat) (h0 : l0 ≤ 9223372036854775807) (h1 : l1 ≤ 9223372036854775807) (h : 1048576 < l0 + l1) (w : World) :
    Calls Tryd.prog 4 #[.slice a0 l0 c0, .slice a1 l1 c1] w fun e w' => e = .returned (.bool true) ∧ Below w.heap.size w w' := by
  have g0 := big_yes a0 a1 l0 c0 l1 c1 h0 h1 h w
  go_enter Tryd.func4, Tryd.ntmps4
  go_wp2_with fail
  refine g0.mono ?_
  rintro e w' ⟨rfl, rfl⟩
  clear g0
  go_wp2_with fail
  go_ret
  exact ⟨rfl, Below.refl _ _⟩
set_option maxRecDepth 100000 in
set_option maxHeartbeats 16000000 in
theorem folded_walk (a0 a1 : Option Addr) (l0 c0 l1 c1 : Nat) (h0 : l0 ≤ 9223372036854775807) (h1 : l1 ≤ 9223372036854775807) (w : World) (hT : Tab w) (hz : 0 < w.heap.size)
    (hc0 : CodeOk w.heap.size w (.slice a0 l0 c0)) (hc1 : CodeOk w.heap.size w (.slice a1 l1 c1)) :
    Calls Tryd.prog 4 #[.slice a0 l0 c0, .slice a1 l1 c1] w fun e w' => e = .returned (.bool true) ∧ Below w.heap.size w w' := by
  by_cases h : 1048576 < l0 + l1
  · exact folded_big a0 a1 l0 c0 l1 c1 h0 h1 h w
  have g0 := big_no a0 a1 l0 c0 l1 c1 h0 h1 (by omega) w
  have g1 := drawValueOf_any (.slice a0 l0 c0) w hc0
  have HT : Hid (∀ w', Below w.heap.size w w' → Tab w') := fun w' hb => hT.below hb hT.some
  have HC1 : Hid (∀ w', Below w.heap.size w w' → CodeOk w'.heap.size w' (.slice a1 l1 c1)) := fun w' hb => (hc1.below hb).up hb.size
  clear hT hz hc0 hc1 h
  go_enter Tryd.func4, Tryd.ntmps4
  go_wp2_with fail
  refine g0.mono ?_
  rintro e w' ⟨rfl, rfl⟩
  clear g0
  obtain ⟨w, rfl⟩ : ∃ w, w = w' := ⟨_, rfl⟩
  go_wp2_with fail
  refine g1.mono ?_
  rintro e w1 ⟨k, v, t, sv, st, rfl, ⟨hk1, hk⟩, hst5, hnd, hsd, hb1⟩
  clear g1
  obtain ⟨sa, sc, hsv⟩ := own_shape hsd.1
  have HW : Hid (∀ w', Below w1.heap.size w1 w' → Below w.heap.size w w') := fun w' hb => hb1.trans (hb.mono hb1.size)
  have H1 : Hid (Below w1.heap.size w1 w1) := Below.refl _ _
  have HND : Hid (∀ w', Below w1.heap.size w1 w' → NodesAt w' v t ∧ CapOk v) := fun w' hb => ⟨(hnd.below hb).at, cap_of_own hnd.1⟩
  have HTL : Hid (t.length ≤ 31) := hnd.2.2
  have HNK : Hid (∀ x ∈ t, NdOk x) := hnd.2.1
  have hstat := st_of_own hsd.1
  have HSD : Hid (∀ w', Below w1.heap.size w1 w' → StAt w' sv st) := fun w' hb => hstat.below hb
  have HSO : Hid (StOk st) := ⟨by omega, hsd.2⟩
  have HFR : Hid (∀ (w' : World) (B : Nat) (v' : Value), OwnNodes w' B v' (foldL k st.length t) → NodesAt w' v' (foldL k st.length t)) := foldTerm_reads0 k st.length t (by omega) (by omega) (by omega) (by omega) HNK.out (by have := HTL.out; omega)
  have HFL : Hid ((foldL k st.length t).length ≤ 31) := Nat.le_trans (foldTerm_len0 k st.length t) HTL.out
  have HVR : Hid (∀ (w' : World) (B : Nat) (v' : Value), OwnInts w' B v' (varsInL k st.length t) → IntsAt w' v' (varsInL k st.length t)) := fun w' B v' ho => ints_of_own (by have h1 := varsIn_len0 k st.length t; have h2 := HTL.out; omega) ho
  have GIV : Hid (∀ w', Below w1.heap.size w1 w' → Calls Tryd.prog 23 #[.int .i64 (k : Int), v, sv] w' fun e w'' => e = .returned (.tuple #[.int .u64 (valueL k t st), .bool (saidV k t st)]) ∧ Below w'.heap.size w' w'') := fun w' hb => impl_ValueOf k v sv t st w' (HT.out w' (HW.out w' hb)) (HND.out w' hb).1 (by have := HTL.out; omega) (HSD.out w' hb) HSO.out
  have GSV : Hid (∀ w', Below w1.heap.size w1 w' → Calls Tryd.prog 25 #[.int .i64 (k : Int), v, sv] w' fun e w'' => e = .returned (.tuple #[.int .u64 (valueL k t st), .bool (saidV k t st)]) ∧ Below w'.heap.size w' w'') := fun w' hb => valueOf_any k v sv t st HSO.out w' (HND.out w' hb).1 (HSD.out w' hb)
  have GIF : Hid (∀ w', Below w1.heap.size w1 w' → Calls Tryd.prog 26 #[.int .i64 (k : Int), .int .i64 (st.length : Int), v] w' fun e w'' => ∃ r : Value, e = .returned (.tuple #[r, .bool (decide (0 < kindL k st.length t))]) ∧ OwnNodes w'' w'.heap.size r (foldL k st.length t) ∧ Below w'.heap.size w' w'') := fun w' hb => impl_FoldTerm k st.length v t w' (HT.out w' (HW.out w' hb)) (HND.out w' hb).1 (by have := HTL.out; omega) (HND.out w' hb).2 (by omega) (by omega) (by omega) (by omega)
  have GSF : Hid (∀ w', Below w1.heap.size w1 w' → Calls Tryd.prog 27 #[.int .i64 (k : Int), .int .i64 (st.length : Int), v] w' fun e w'' => ∃ r : Value, e = .returned (.tuple #[r, .bool (decide (0 < kindL k st.length t))]) ∧ OwnNodes w'' w'.heap.size r (foldL k st.length t) ∧ Below w'.heap.size w' w'') := fun w' hb => foldTerm_any k st.length v t w' (HND.out w' hb).1 (HND.out w' hb).2
  have GIA : Hid (∀ w', Below w1.heap.size w1 w' → Calls Tryd.prog 28 #[.int .i64 (k : Int), .int .i64 (st.length : Int), v] w' fun e w'' => ∃ r : Value, e = .returned (.tuple #[r, .bool (decide (0 < kindL k st.length t))]) ∧ OwnInts w'' w'.heap.size r (varsInL k st.length t) ∧ Below w'.heap.size w' w'') := fun w' hb => impl_VarsIn k st.length v t w' (HT.out w' (HW.out w' hb)) (HND.out w' hb).1 (by have := HTL.out; omega) (by omega) (by omega) (by omega) (by omega)
  have GIK : Hid (∀ w', Below w1.heap.size w1 w' → Calls Tryd.prog 29 #[.int .i64 (k : Int), .int .i64 (st.length : Int), v] w' fun e w'' => e = .returned (.tuple #[.int .i64 (kindL k st.length t), .bool (decide (0 < kindL k st.length t))]) ∧ Below w'.heap.size w' w'') := fun w' hb => impl_KindOf k st.length v t w' (HT.out w' (HW.out w' hb)) (HND.out w' hb).1 (by have := HTL.out; omega)
  have HSAID : Hid (saidV k t st = true → decide (0 < kindL k st.length t) = true ∧ (∀ (fv : Value) (w' : World), Below w1.heap.size w1 w' → NodesAt w' fv (foldL k st.length t) → CapOk fv →
      Calls Tryd.prog 23 #[.int .i64 (k : Int), fv, sv] w' (fun e w'' => e = .returned (.tuple #[.int .u64 (valueL k t st), .bool true]) ∧ Below w'.heap.size w' w'') ∧
      Calls Tryd.prog 26 #[.int .i64 (k : Int), .int .i64 (st.length : Int), fv] w' (fun e w'' => ∃ r : Value, e = .returned (.tuple #[r, .bool true]) ∧ OwnNodes w'' w'.heap.size r (foldL k st.length t) ∧ Below w'.heap.size w' w'') ∧
      Calls Tryd.prog 28 #[.int .i64 (k : Int), .int .i64 (st.length : Int), fv] w' (fun e w'' => ∃ r : Value, e = .returned (.tuple #[r, .bool true]) ∧ OwnInts w'' w'.heap.size r (varsInL k st.length t) ∧ Below w'.heap.size w' w'') ∧
      Calls Tryd.prog 29 #[.int .i64 (k : Int), .int .i64 (st.length : Int), fv] w' (fun e w'' => e = .returned (.tuple #[.int .i64 (kindL k st.length t), .bool true]) ∧ Below w'.heap.size w' w''))) := by
    intro hs
    obtain ⟨p1, p2, p3, p4, p5, p6⟩ := folded_said HNK.out hs
    refine ⟨decide_eq_true p1, fun fv w' hb hn hcap => ?_⟩
    have hfl : (foldL k st.length t).length ≤ 1048576 := by have := HFL.out; omega
    have hT' := HT.out w' (HW.out w' hb)
    have hp4 : decide (0 < kindL k st.length (foldL k st.length t)) = true := decide_eq_true (by rw [p4]; exact p1)
    have q1 := impl_ValueOf k fv sv (foldL k st.length t) st w' hT' hn hfl (HSD.out w' hb) HSO.out
    rw [p2, p3] at q1
    have q2 := impl_FoldTerm k st.length fv (foldL k st.length t) w' hT' hn hfl hcap (by omega) (by omega) (by omega) (by omega)
    rw [hp4, p5] at q2
    have q3 := impl_VarsIn k st.length fv (foldL k st.length t) w' hT' hn hfl (by omega) (by omega) (by omega) (by omega)
    rw [hp4, p6] at q3
    have q4 := impl_KindOf k st.length fv (foldL k st.length t) w' hT' hn hfl
    rw [hp4, p4] at q4
    exact ⟨q1, q2, q3, q4⟩
  subst hsv
  clear hnd hsd hb1 hstat HND HTL HNK HSD HSO HFL
  generalize valueL k t st = VL at *
  generalize foldL k st.length t = FL at *
  generalize varsInL k st.length t = VI at *
  generalize kindL k st.length t = KD at *
  generalize decide (0 < KD) = KP at *
  cases hSV : saidV k t st with
  | false =>
    simp only [hSV] at GIV GSV HSAID
    clear hSV HSAID
    have g1_ := GIV.out w1 H1.out
    go_wp2_with fail
    refine g1_.mono ?_
    rintro e w2 ⟨rfl, hb2⟩
    clear g1_
    have H2 : Hid (Below w1.heap.size w1 w2) := H1.out.trans (hb2.mono H1.out.size)
    clear hb2
    have g2_ := GSV.out w2 H2.out
    go_wp2_with fail
    refine g2_.mono ?_
    rintro e w3 ⟨rfl, hb3⟩
    clear g2_
    have H3 : Hid (Below w1.heap.size w1 w3) := H2.out.trans (hb3.mono H2.out.size)
    clear hb3
    have g3_ := GIF.out w3 H3.out
    go_wp2_with fail
    refine g3_.mono ?_
    rintro e w4 ⟨f4, rfl, ho4, hb4⟩
    clear g3_
    have H4 : Hid (Below w1.heap.size w1 w4) := H3.out.trans (hb4.mono H3.out.size)
    have HF : Hid (∀ w', Below w4.heap.size w4 w' → NodesAt w' f4 FL ∧ CapOk f4) := fun w' hb => ⟨(HFR.out _ _ _ ho4).below hb, cap_of_own ho4⟩
    clear ho4 hb4
    have g4_ := GSF.out w4 H4.out
    go_wp2_with fail
    refine g4_.mono ?_
    rintro e w5 ⟨f5, rfl, ho5, hb5⟩
    clear g4_
    have H5 : Hid (Below w1.heap.size w1 w5) := H4.out.trans (hb5.mono H4.out.size)
    have J5 : Hid (Below w4.heap.size w4 w5) := hb5
    have g6 := sameNodes_any f4 f5 FL w5 (HF.out w5 hb5).1 (HFR.out _ _ _ ho5)
    clear ho5 hb5
    go_wp2_with fail
    refine g6.mono ?_
    rintro e w6 ⟨rfl, hb6⟩
    clear g6
    have J6 : Hid (Below w4.heap.size w4 w6) := J5.out.trans (hb6.mono J5.out.size)
    have H6 : Hid (Below w1.heap.size w1 w6) := H5.out.trans (hb6.mono H5.out.size)
    clear hb6
    have g5_ := drawVarsIn_any (.slice a1 l1 c1) w6 (HC1.out w6 (HW.out w6 H6.out))
    go_wp2_with fail
    refine g5_.mono ?_
    rintro e w20 ⟨k2, vars2, v2, t2, rfl, ⟨hk21, hk22⟩, ⟨hv20, hv25⟩, hd2, hb20⟩
    clear g5_
    have HD2 : Hid (∀ w', Below w20.heap.size w20 w' → NodesAt w' v2 t2) := fun w' hb => (hd2.below hb).at
    have HD2L : Hid (t2.length ≤ 31) := hd2.2.2
    have H20 : Hid (Below w1.heap.size w1 w20) := H6.out.trans (hb20.mono H6.out.size)
    clear hd2 hb20
    have HR2 : Hid (∀ (w' : World) (B : Nat) (v' : Value), OwnInts w' B v' (varsInL k2 vars2 t2) → IntsAt w' v' (varsInL k2 vars2 t2)) := fun w' B v' ho => ints_of_own (by have h1 := varsIn_len0 k2 vars2 t2; have h2 := HD2L.out; omega) ho
    have g21 := impl_VarsIn k2 vars2 v2 t2 w20 (HT.out w20 (HW.out w20 H20.out)) (HD2.out w20 (Below.refl _ _)) (by have := HD2L.out; omega) (by omega) (by omega) (by omega) (by omega)
    have HS2 : Hid (∀ w', Below w20.heap.size w20 w' → Calls Tryd.prog 32 #[.int .i64 (k2 : Int), .int .i64 vars2, v2] w' fun e w'' => ∃ v', e = .returned (.tuple #[v', .bool (decide (0 < kindL k2 vars2 t2))]) ∧ OwnInts w'' w'.heap.size v' (varsInL k2 vars2 t2) ∧ Below w'.heap.size w' w'') := fun w' hb => varsIn_any k2 vars2 v2 t2 w' (HD2.out w' hb)
    generalize decide (0 < kindL k2 vars2 t2) = KP2 at *
    generalize varsInL k2 vars2 t2 = VI2 at *
    go_wp2_with fail
    refine g21.mono ?_
    rintro e w21 ⟨r21, rfl, ho21, hb21⟩
    clear g21
    have HI21 : Hid (∀ w', Below w21.heap.size w21 w' → IntsAt w' r21 VI2) := fun w' hb => (HR2.out _ _ _ ho21).below hb
    have g22 := HS2.out w21 hb21
    have H21 : Hid (Below w1.heap.size w1 w21) := H20.out.trans (hb21.mono H20.out.size)
    clear ho21 hb21
    go_wp2_with fail
    refine g22.mono ?_
    rintro e w22 ⟨r22, rfl, ho22, hb22⟩
    clear g22
    have g23 := sameInts_any r21 r22 _ w22 (HI21.out w22 hb22) (HR2.out _ _ _ ho22)
    have H22 : Hid (Below w1.heap.size w1 w22) := H21.out.trans (hb22.mono H21.out.size)
    clear ho22 hb22
    go_wp2_with fail
    refine g23.mono ?_
    rintro e w23 ⟨rfl, hb23⟩
    clear g23
    have HE : Hid (Below w.heap.size w w23) := HW.out w23 (H22.out.trans (hb23.mono H22.out.size))
    clear hb23
    go_wp2_with fail
    go_ret
    exact ⟨rfl, HE.out⟩
  | true =>
    simp only [hSV] at GIV GSV HSAID
    obtain ⟨hKP, hX⟩ := HSAID.out trivial
    have HX : Hid _ := hX
    subst hKP
    clear hSV HSAID hX
    have g6_ := GIV.out w1 H1.out
    go_wp2_with fail
    refine g6_.mono ?_
    rintro e w2 ⟨rfl, hb2⟩
    clear g6_
    have H2 : Hid (Below w1.heap.size w1 w2) := H1.out.trans (hb2.mono H1.out.size)
    clear hb2
    have g7_ := GSV.out w2 H2.out
    go_wp2_with fail
    refine g7_.mono ?_
    rintro e w3 ⟨rfl, hb3⟩
    clear g7_
    have H3 : Hid (Below w1.heap.size w1 w3) := H2.out.trans (hb3.mono H2.out.size)
    clear hb3
    have g8_ := GIF.out w3 H3.out
    go_wp2_with fail
    refine g8_.mono ?_
    rintro e w4 ⟨f4, rfl, ho4, hb4⟩
    clear g8_
    have H4 : Hid (Below w1.heap.size w1 w4) := H3.out.trans (hb4.mono H3.out.size)
    have HF : Hid (∀ w', Below w4.heap.size w4 w' → NodesAt w' f4 FL ∧ CapOk f4) := fun w' hb => ⟨(HFR.out _ _ _ ho4).below hb, cap_of_own ho4⟩
    clear ho4 hb4
    have g9_ := GSF.out w4 H4.out
    go_wp2_with fail
    refine g9_.mono ?_
    rintro e w5 ⟨f5, rfl, ho5, hb5⟩
    clear g9_
    have H5 : Hid (Below w1.heap.size w1 w5) := H4.out.trans (hb5.mono H4.out.size)
    have J5 : Hid (Below w4.heap.size w4 w5) := hb5
    have g6 := sameNodes_any f4 f5 FL w5 (HF.out w5 hb5).1 (HFR.out _ _ _ ho5)
    clear ho5 hb5
    go_wp2_with fail
    refine g6.mono ?_
    rintro e w6 ⟨rfl, hb6⟩
    clear g6
    have J6 : Hid (Below w4.heap.size w4 w6) := J5.out.trans (hb6.mono J5.out.size)
    have H6 : Hid (Below w1.heap.size w1 w6) := H5.out.trans (hb6.mono H5.out.size)
    clear hb6
    have gq7 := (HX.out f4 w6 H6.out (HF.out w6 J6.out).1 (HF.out w6 J6.out).2).1
    go_wp2_with fail
    refine gq7.mono ?_
    rintro e w7 ⟨rfl, hb7⟩
    clear gq7
    have J7 : Hid (Below w4.heap.size w4 w7) := J6.out.trans (hb7.mono J6.out.size)
    have H7 : Hid (Below w1.heap.size w1 w7) := H6.out.trans (hb7.mono H6.out.size)
    clear hb7
    have gq8 := (HX.out f4 w7 H7.out (HF.out w7 J7.out).1 (HF.out w7 J7.out).2).2.1
    go_wp2_with fail
    refine gq8.mono ?_
    rintro e w8 ⟨f8, rfl, ho8, hb8⟩
    clear gq8
    have J8 : Hid (Below w4.heap.size w4 w8) := J7.out.trans (hb8.mono J7.out.size)
    have H8 : Hid (Below w1.heap.size w1 w8) := H7.out.trans (hb8.mono H7.out.size)
    have HF8 : Hid (∀ w', Below w8.heap.size w8 w' → NodesAt w' f8 FL) := fun w' hb => (HFR.out _ _ _ ho8).below hb
    have K8 : Hid (Below w8.heap.size w8 w8) := Below.refl _ _
    clear ho8
    clear hb8
    have g10_ := GIA.out w8 H8.out
    go_wp2_with fail
    refine g10_.mono ?_
    rintro e w9 ⟨i9, rfl, ho9, hb9⟩
    clear g10_
    have J9 : Hid (Below w4.heap.size w4 w9) := J8.out.trans (hb9.mono J8.out.size)
    have H9 : Hid (Below w1.heap.size w1 w9) := H8.out.trans (hb9.mono H8.out.size)
    have K9 : Hid (Below w8.heap.size w8 w9) := hb9
    have HI9 : Hid (∀ w', Below w9.heap.size w9 w' → IntsAt w' i9 VI) := fun w' hb => (HVR.out _ _ _ ho9).below hb
    clear ho9
    clear hb9
    have gq10 := (HX.out f4 w9 H9.out (HF.out w9 J9.out).1 (HF.out w9 J9.out).2).2.2.1
    go_wp2_with fail
    refine gq10.mono ?_
    rintro e w10 ⟨i10, rfl, ho10, hb10⟩
    clear gq10
    have J10 : Hid (Below w4.heap.size w4 w10) := J9.out.trans (hb10.mono J9.out.size)
    have H10 : Hid (Below w1.heap.size w1 w10) := H9.out.trans (hb10.mono H9.out.size)
    have K10 : Hid (Below w8.heap.size w8 w10) := K9.out.trans (hb10.mono K9.out.size)
    have L10 : Hid (Below w9.heap.size w9 w10) := hb10
    have HI10 : Hid (∀ w', Below w10.heap.size w10 w' → IntsAt w' i10 VI) := fun w' hb => (HVR.out _ _ _ ho10).below hb
    clear ho10
    clear hb10
    have g11_ := GIK.out w10 H10.out
    go_wp2_with fail
    refine g11_.mono ?_
    rintro e w11 ⟨rfl, hb11⟩
    clear g11_
    have J11 : Hid (Below w4.heap.size w4 w11) := J10.out.trans (hb11.mono J10.out.size)
    have H11 : Hid (Below w1.heap.size w1 w11) := H10.out.trans (hb11.mono H10.out.size)
    have K11 : Hid (Below w8.heap.size w8 w11) := K10.out.trans (hb11.mono K10.out.size)
    have L11 : Hid (Below w9.heap.size w9 w11) := L10.out.trans (hb11.mono L10.out.size)
    have M11 : Hid (Below w10.heap.size w10 w11) := hb11
    clear hb11
    have gq12 := (HX.out f4 w11 H11.out (HF.out w11 J11.out).1 (HF.out w11 J11.out).2).2.2.2
    go_wp2_with fail
    refine gq12.mono ?_
    rintro e w12 ⟨rfl, hb12⟩
    clear gq12
    have J12 : Hid (Below w4.heap.size w4 w12) := J11.out.trans (hb12.mono J11.out.size)
    have H12 : Hid (Below w1.heap.size w1 w12) := H11.out.trans (hb12.mono H11.out.size)
    have K12 : Hid (Below w8.heap.size w8 w12) := K11.out.trans (hb12.mono K11.out.size)
    have L12 : Hid (Below w9.heap.size w9 w12) := L11.out.trans (hb12.mono L11.out.size)
    have M12 : Hid (Below w10.heap.size w10 w12) := M11.out.trans (hb12.mono M11.out.size)
    clear hb12
    have gs13 := sameNodes_any f8 f4 FL w12 (HF8.out w12 K12.out) (HF.out w12 J12.out).1
    go_wp2_with fail
    refine gs13.mono ?_
    rintro e w13 ⟨rfl, hb13⟩
    clear gs13
    have L13 : Hid (Below w9.heap.size w9 w13) := L12.out.trans (hb13.mono L12.out.size)
    have M13 : Hid (Below w10.heap.size w10 w13) := M12.out.trans (hb13.mono M12.out.size)
    have H13 : Hid (Below w1.heap.size w1 w13) := H12.out.trans (hb13.mono H12.out.size)
    clear hb13
    have gs14 := sameInts_any i9 i10 VI w13 (HI9.out w13 L13.out) (HI10.out w13 M13.out)
    go_wp2_with fail
    refine gs14.mono ?_
    rintro e w14 ⟨rfl, hb14⟩
    clear gs14
    have H14 : Hid (Below w1.heap.size w1 w14) := H13.out.trans (hb14.mono H13.out.size)
    clear hb14
    have g12_ := drawVarsIn_any (.slice a1 l1 c1) w14 (HC1.out w14 (HW.out w14 H14.out))
    go_wp2_with fail
    refine g12_.mono ?_
    rintro e w20 ⟨k2, vars2, v2, t2, rfl, ⟨hk21, hk22⟩, ⟨hv20, hv25⟩, hd2, hb20⟩
    clear g12_
    have HD2 : Hid (∀ w', Below w20.heap.size w20 w' → NodesAt w' v2 t2) := fun w' hb => (hd2.below hb).at
    have HD2L : Hid (t2.length ≤ 31) := hd2.2.2
    have H20 : Hid (Below w1.heap.size w1 w20) := H14.out.trans (hb20.mono H14.out.size)
    clear hd2 hb20
    have HR2 : Hid (∀ (w' : World) (B : Nat) (v' : Value), OwnInts w' B v' (varsInL k2 vars2 t2) → IntsAt w' v' (varsInL k2 vars2 t2)) := fun w' B v' ho => ints_of_own (by have h1 := varsIn_len0 k2 vars2 t2; have h2 := HD2L.out; omega) ho
    have g21 := impl_VarsIn k2 vars2 v2 t2 w20 (HT.out w20 (HW.out w20 H20.out)) (HD2.out w20 (Below.refl _ _)) (by have := HD2L.out; omega) (by omega) (by omega) (by omega) (by omega)
    have HS2 : Hid (∀ w', Below w20.heap.size w20 w' → Calls Tryd.prog 32 #[.int .i64 (k2 : Int), .int .i64 vars2, v2] w' fun e w'' => ∃ v', e = .returned (.tuple #[v', .bool (decide (0 < kindL k2 vars2 t2))]) ∧ OwnInts w'' w'.heap.size v' (varsInL k2 vars2 t2) ∧ Below w'.heap.size w' w'') := fun w' hb => varsIn_any k2 vars2 v2 t2 w' (HD2.out w' hb)
    generalize decide (0 < kindL k2 vars2 t2) = KP2 at *
    generalize varsInL k2 vars2 t2 = VI2 at *
    go_wp2_with fail
    refine g21.mono ?_
    rintro e w21 ⟨r21, rfl, ho21, hb21⟩
    clear g21
    have HI21 : Hid (∀ w', Below w21.heap.size w21 w' → IntsAt w' r21 VI2) := fun w' hb => (HR2.out _ _ _ ho21).below hb
    have g22 := HS2.out w21 hb21
    have H21 : Hid (Below w1.heap.size w1 w21) := H20.out.trans (hb21.mono H20.out.size)
    clear ho21 hb21
    go_wp2_with fail
    refine g22.mono ?_
    rintro e w22 ⟨r22, rfl, ho22, hb22⟩
    clear g22
    have g23 := sameInts_any r21 r22 _ w22 (HI21.out w22 hb22) (HR2.out _ _ _ ho22)
    have H22 : Hid (Below w1.heap.size w1 w22) := H21.out.trans (hb22.mono H21.out.size)
    clear ho22 hb22
    go_wp2_with fail
    refine g23.mono ?_
    rintro e w23 ⟨rfl, hb23⟩
    clear g23
    have HE : Hid (Below w.heap.size w w23) := HW.out w23 (H22.out.trans (hb23.mono H22.out.size))
    clear hb23
    go_wp2_with fail
    go_ret
    exact ⟨rfl, HE.out⟩
end Go.Proofs.YtkmgcgmeibhnmaaDoor
