/-
  The program's goodLetters, GoodLasso, goodAt.
  The program's letter and between: letters of a word, and letters cut out of it.
  The program's SameWord.
-/
import Derived.Test.YthamdefkcjfjpaaSLasso
import Derived.Laws.CopyOwn
import Derived.Deep.RegionLaw
import Derived.Test.YthamdefkcjfjpaaSSame
namespace Go.Proofs.Ythamdefkcjfjpaa
open Go Go.RowKit
open M
set_option linter.unusedVariables false
set_option linter.unusedSimpArgs false

theorem goodLetter_any (x : Int) (w : World) :
    Calls Try.prog 72 #[.int .i64 x] w fun e w' => e = .returned (.bool (!btw 0 7 x)) ∧ w' = w := by
  by_cases h1 : x < 0
  · have hb : btw 0 7 x = false := decide_eq_false (by omega)
    rw [hb]
    go_enter Try.func72, Try.ntmps72
    go_wp2
    go_ret
    exact ⟨rfl, rfl⟩
  · by_cases h2 : 8 ≤ x
    · have hb : btw 0 7 x = false := decide_eq_false (by omega)
      rw [hb]
      go_enter Try.func72, Try.ntmps72
      go_wp2
      go_ret
      exact ⟨rfl, rfl⟩
    · have hb : btw 0 7 x = true := decide_eq_true (by omega)
      rw [hb]
      go_enter Try.func72, Try.ntmps72
      go_wp2
      go_ret
      exact ⟨rfl, rfl⟩
set_option maxRecDepth 100000 in
set_option maxHeartbeats 2000000 in
theorem indexI_any (v : Value) (t : List Int) (w : World) (h : IntsAt w v t) :
    Calls Try.prog 74 #[v, .func (.func 72) #[] #[]] w fun e w' => ∃ k : Int, e = .returned (.int .i64 k) ∧ (decide (0 ≤ k) = !(t.all (btw 0 7))) ∧ -1 ≤ k ∧ k ≤ 9223372036854775807 ∧ w' = w := by
  have hl := h.1
  obtain ⟨a, cap, rfl, hc⟩ := h.opened
  clear h
  go_enter Try.func74, Try.ntmps74
  go_wp2_with fail
  go_loop [8] (fun i => ∃ j : Nat, j ≤ t.length ∧ i = .int .i64 j ∧ Hid ((t.take j).all (btw 0 7) = true)) (fun i => t.length - (intOf i).toNat)
  case atStart => exact ⟨0, by omega, rfl, rfl⟩
  case round =>
    obtain ⟨j, hj, rfl, HA⟩ := hrel
    by_cases hlt : j < t.length
    · obtain ⟨x, hx⟩ : ∃ x, t[j]? = some x := ⟨t[j], List.getElem?_eq_getElem hlt⟩
      obtain ⟨b, off, rfl, hb, c0⟩ := hc j x hx
      have g := goodLetter_any x w
      have HX : Hid (t[j]? = some x) := hx
      clear hc hx
      rcases Bool.eq_false_or_eq_true (btw 0 7 x) with hp | hp
      · rw [hp] at g
        have HN : Hid ((t.take (j + 1)).all (btw 0 7) = true) := all_take_snoc HX.out HA.out hp
        clear hp
        go_wp2_with fail
        refine g.mono ?_
        rintro e w1 ⟨rfl, rfl⟩
        clear g
        go_wp2_with fail
        go_round
        case rel => exact ⟨j + 1, by omega, by go_num, HN⟩
        case measure => simp [intOf]; omega
      · rw [hp] at g
        have HN : Hid (decide (0 ≤ (j : Int)) = !(t.all (btw 0 7))) := by
          show _ = _
          rw [all_false HX.out hp]
          exact decide_eq_true (by omega)
        clear hp
        go_wp2_with fail
        refine g.mono ?_
        rintro e w1 ⟨rfl, rfl⟩
        clear g
        go_wp2_with fail
        go_ret
        exact ⟨_, rfl, HN.out, by omega, by omega, rfl⟩
    · obtain rfl : j = t.length := by omega
      have HN : Hid (decide (0 ≤ (-1 : Int)) = !(t.all (btw 0 7))) := by
        have h1 := HA.out
        rw [List.take_length] at h1
        show _ = _
        rw [h1]
        rfl
      clear hc HA
      go_wp2_with fail
      go_ret
      exact ⟨_, rfl, HN.out, by omega, by omega, rfl⟩
set_option maxRecDepth 100000 in
theorem containsI_any (v : Value) (t : List Int) (w : World) (h : IntsAt w v t) :
    Calls Try.prog 71 #[v, .func (.func 72) #[] #[]] w fun e w' => e = .returned (.bool (!(t.all (btw 0 7)))) ∧ w' = w := by
  have g := indexI_any v t w h
  obtain ⟨a, cap, rfl⟩ := h.shape
  generalize (!(t.all (btw 0 7))) = B at *
  generalize t.length = n at *
  clear h
  go_enter Try.func71, Try.ntmps71
  go_wp2_with fail
  refine g.mono ?_
  rintro e w1 ⟨k, rfl, hk, hk1, hk2, rfl⟩
  have HK : Hid _ := hk
  clear g hk
  go_wp2_with fail
  go_ret
  exact ⟨ret_bool HK.out, rfl⟩
set_option maxRecDepth 100000 in
theorem goodLetters_any (v : Value) (t : List Int) (w : World) (h : IntsAt w v t) :
    Calls Try.prog 54 #[v] w fun e w' => e = .returned (.bool (t.all (btw 0 7))) ∧ w' = w := by
  have g := containsI_any v t w h
  obtain ⟨a, cap, rfl⟩ := h.shape
  generalize t.all (btw 0 7) = B at *
  generalize t.length = n at *
  clear h
  cases B with
  | false =>
    go_enter Try.func54, Try.ntmps54
    go_wp2_with fail
    refine g.mono ?_
    rintro e w1 ⟨rfl, rfl⟩
    clear g
    go_wp2_with fail
    go_ret
    exact ⟨rfl, rfl⟩
  | true =>
    go_enter Try.func54, Try.ntmps54
    go_wp2_with fail
    refine g.mono ?_
    rintro e w1 ⟨rfl, rfl⟩
    clear g
    go_wp2_with fail
    go_ret
    exact ⟨rfl, rfl⟩
set_option maxRecDepth 100000 in
set_option maxHeartbeats 2000000 in
theorem iGoodLasso_any (v : Value) (l : La) (w : World) (h : AtLa w v l) :
    Calls Try.prog 20 #[v] w fun e w' => e = .returned (.bool (goodLa l)) ∧ Below w.heap.size w w' := by
  obtain ⟨g, o, rfl, h1, h2⟩ := h
  have G1 : Hid (∀ w1 : World, Below w.heap.size w w1 → Calls Try.prog 54 #[g] w1 fun e w' => e = .returned (.bool (l.1.all (btw 0 7))) ∧ w' = w1) := fun w1 hb => goodLetters_any g l.1 w1 (h1.below hb)
  have G2 : Hid (∀ w1 : World, Below w.heap.size w w1 → Calls Try.prog 54 #[o] w1 fun e w' => e = .returned (.bool (l.2.all (btw 0 7))) ∧ w' = w1) := fun w1 hb => goodLetters_any o l.2 w1 (h2.below hb)
  have hl1 := h1.1
  have hl2 := h2.1
  obtain ⟨ga, gc, rfl⟩ := h1.shape
  obtain ⟨oa, oc, rfl⟩ := h2.shape
  have hb0 : Below w.heap.size w (w.alloc (.cells #[.slice ga l.1.length gc, .slice oa l.2.length oc] 26)) := (Below.refl _ _).alloc (Nat.le_refl _) _
  have HB0 : Hid _ := hb0
  have HE : Hid _ := goodLa_def l
  have g1 := G1.out _ hb0
  have g2 := G2.out _ hb0
  clear h1 h2 hb0 G1 G2
  generalize l.1.all (btw 0 7) = A1 at *
  generalize l.2.all (btw 0 7) = A2 at *
  generalize l.1.length = n1 at *
  generalize l.2.length = n2 at *
  by_cases c1 : n1 ≤ 24
  case neg =>
    rw [decide_eq_false c1] at HE
    have HF : Hid (goodLa l = false) := HE.out
    have c1' : 24 < n1 := by omega
    go_enter Try.func20, Try.ntmps20
    go_wp2_with fail
    go_ret
    exact ⟨ret_bool HF.out.symm, HB0.out⟩
  rw [decide_eq_true c1, Bool.true_and] at HE
  by_cases c2 : 1 ≤ n2
  case neg =>
    rw [decide_eq_false (fun h => c2 h.1)] at HE
    have HF : Hid (goodLa l = false) := HE.out
    obtain rfl : n2 = 0 := by omega
    clear c2
    go_enter Try.func20, Try.ntmps20
    go_wp2_with fail
    go_ret
    exact ⟨ret_bool HF.out.symm, HB0.out⟩
  by_cases c3 : n2 ≤ 24
  case neg =>
    rw [decide_eq_false (fun h => c3 h.2)] at HE
    have HF : Hid (goodLa l = false) := HE.out
    have c3' : 24 < n2 := by omega
    go_enter Try.func20, Try.ntmps20
    go_wp2_with fail
    go_ret
    exact ⟨ret_bool HF.out.symm, HB0.out⟩
  rw [decide_eq_true ⟨c2, c3⟩, Bool.true_and] at HE
  cases A1 with
  | false =>
    have HF : Hid (goodLa l = false) := HE.out
    go_enter Try.func20, Try.ntmps20
    go_wp2_with fail
    refine g1.mono ?_
    rintro e w1 ⟨rfl, rfl⟩
    go_wp2_with fail
    go_ret
    exact ⟨ret_bool HF.out.symm, HB0.out⟩
  | true =>
    rw [Bool.true_and] at HE
    go_enter Try.func20, Try.ntmps20
    go_wp2_with fail
    refine g1.mono ?_
    rintro e w1 ⟨rfl, rfl⟩
    go_wp2_with fail
    refine g2.mono ?_
    rintro e w1 ⟨rfl, rfl⟩
    go_wp2_with fail
    go_ret
    exact ⟨ret_bool HE.out.symm, HB0.out⟩
/-- a good lasso and a place -/
def atB (l : La) (k : Int) : Bool := goodLa l && decide (0 ≤ k ∧ k ≤ 1000)
set_option maxRecDepth 100000 in
theorem goodAt_any (v : Value) (l : La) (k : Int) (w : World) (h : AtLa w v l) :
    Calls Try.prog 58 #[v, .int .i64 k] w fun e w' => e = .returned (.bool (atB l k)) ∧ Below w.heap.size w w' := by
  have HG : Hid (∀ w1 : World, Below w.heap.size w w1 → Calls Try.prog 20 #[v] w1 fun e w' => e = .returned (.bool (goodLa l)) ∧ Below w1.heap.size w1 w') := fun w1 hb => iGoodLasso_any v l w1 (h.below hb)
  obtain ⟨ga, gn, gc, oa, on, oc, rfl⟩ := h.shape
  have HB0 : Hid (Below w.heap.size w (w.alloc (.cells #[.slice ga gn gc, .slice oa on oc] 26))) := (Below.refl _ _).alloc (Nat.le_refl _) _
  have g := HG.out _ HB0.out
  have HE : Hid (atB l k = (goodLa l && decide (0 ≤ k ∧ k ≤ 1000))) := rfl
  clear h HG
  rcases Bool.eq_false_or_eq_true (goodLa l) with hg | hg
  · rw [hg] at g HE
    by_cases h1 : 0 ≤ k
    · by_cases h2 : k ≤ 1000
      · rw [decide_eq_true ⟨h1, h2⟩] at HE
        clear hg
        go_enter Try.func58, Try.ntmps58
        go_wp2_with fail
        refine g.mono ?_
        rintro e w1 ⟨rfl, hs⟩
        have HB1 : Hid (Below w.heap.size w w1) := HB0.out.trans (hs.mono HB0.out.size)
        clear g hs
        go_wp2_with fail
        go_ret
        exact ⟨ret_bool HE.out.symm, HB1.out⟩
      · rw [decide_eq_false (fun h => h2 h.2)] at HE
        clear hg
        go_enter Try.func58, Try.ntmps58
        go_wp2_with fail
        refine g.mono ?_
        rintro e w1 ⟨rfl, hs⟩
        have HB1 : Hid (Below w.heap.size w w1) := HB0.out.trans (hs.mono HB0.out.size)
        clear g hs
        go_wp2_with fail
        go_ret
        exact ⟨ret_bool ((decide_eq_false (by omega)).trans HE.out.symm), HB1.out⟩
    · rw [decide_eq_false (fun h => h1 h.1)] at HE
      clear hg
      go_enter Try.func58, Try.ntmps58
      go_wp2_with fail
      refine g.mono ?_
      rintro e w1 ⟨rfl, hs⟩
      have HB1 : Hid (Below w.heap.size w w1) := HB0.out.trans (hs.mono HB0.out.size)
      clear g hs
      go_wp2_with fail
      go_ret
      exact ⟨ret_bool HE.out.symm, HB1.out⟩
  · rw [hg] at g HE
    have HF : Hid (atB l k = false) := HE.out
    clear hg
    go_enter Try.func58, Try.ntmps58
    go_wp2_with fail
    refine g.mono ?_
    rintro e w1 ⟨rfl, hs⟩
    have HB1 : Hid (Below w.heap.size w w1) := HB0.out.trans (hs.mono HB0.out.size)
    clear g hs
    go_wp2_with fail
    go_ret
    exact ⟨ret_bool HF.out.symm, HB1.out⟩
end Go.Proofs.Ythamdefkcjfjpaa

namespace Go.Proofs.Ythamdefkcjfjpaa
open Go Go.RowKit
open M
set_option linter.unusedVariables false
set_option linter.unusedSimpArgs false

set_option maxRecDepth 100000 in
set_option maxHeartbeats 2000000 in
theorem letter_any (v : Value) (l : La) (hg : goodLa l = true) (k : Nat) (hk : k ≤ 2000) (w : World) (h : AtLa w v l) :
    Calls Try.prog 63 #[v, .int .i64 k] w fun e w' => e = .returned (.int .i64 (letL l k)) ∧ Below w.heap.size w w' := by
  obtain ⟨g, o, rfl, h1, h2⟩ := h
  obtain ⟨q1, q2, q3⟩ := good_lens hg
  obtain ⟨ga, gc, rfl, hc1⟩ := h1.opened
  obtain ⟨oa, oc, rfl, hc2⟩ := h2.opened
  have HB0 : Hid (Below w.heap.size w (w.alloc (.cells #[.slice ga l.1.length gc, .slice oa l.2.length oc] 26))) := (Below.refl _ _).alloc (Nat.le_refl _) _
  have x0 := box2_alloc w 26 (.slice ga l.1.length gc) (.slice oa l.2.length oc)
  by_cases hlt : k < l.1.length
  · obtain ⟨b, off, rfl, hb, cc⟩ := hc1 k _ (let_stem_at hlt)
    have cc1 := cc
    rw [← HB0.out.cell (p := ⟨b, off + k, none⟩) hb] at cc1
    generalize letL l k = X at *
    generalize l.1.length = n1 at *
    generalize l.2.length = n2 at *
    obtain ⟨a0, a1⟩ := x0.cells
    have ah := x0.heap
    have al := x0.lt
    clear hc1 hc2 h1 h2 hg cc x0
    go_enter Try.func63, Try.ntmps63
    go_wp2_with fail
    go_ret
    exact ⟨rfl, HB0.out⟩
  · obtain ⟨b, off, rfl, hb, cc⟩ := hc2 _ _ (let_loop_at q2 (by omega : l.1.length ≤ k))
    have cc1 := cc
    rw [← HB0.out.cell (p := ⟨b, off + (k - l.1.length) % l.2.length, none⟩) hb] at cc1
    have hmod := int_mod k l.1.length l.2.length (by omega)
    have hml := Nat.mod_lt (k - l.1.length) (show 0 < l.2.length by omega)
    generalize letL l k = X at *
    generalize l.1.length = n1 at *
    generalize l.2.length = n2 at *
    generalize (k - n1) % n2 = R at *
    obtain ⟨a0, a1⟩ := x0.cells
    have ah := x0.heap
    have al := x0.lt
    clear hc1 hc2 h1 h2 hg cc x0
    go_enter Try.func63, Try.ntmps63
    go_wp2_with fail
    go_quiet (fail)
    go_wp2_with fail
    go_ret
    exact ⟨rfl, below_drewN HB0.out _⟩
/-- the word so far, and behind it noughts -/
def part9 (l : La) (S j : Nat) : List Value := cellsI (unrL l 0 j) ++ List.replicate (S - j) (.int .i64 0)
theorem part9_len (l : La) (S j : Nat) (h : j ≤ S) : (part9 l S j).length = S := by
  unfold part9
  rw [List.length_append, cellsI_len, unrL_len, List.length_replicate]
  omega
theorem part9_copy (l : La) (S j : Nat) (xs : List Int) (hx : unrL l j xs.length = xs) (h : j + xs.length ≤ S) : splice (part9 l S j) j (cellsI xs) = part9 l S (j + xs.length) := by
  have hl : (cellsI (unrL l 0 j)).length = j := by rw [cellsI_len, unrL_len]
  unfold splice part9
  rw [List.take_append_of_le_length (by omega), List.take_of_length_le (by omega), unrL_append, Nat.zero_add, hx]
  rw [cellsI_len, List.drop_append, hl, List.drop_of_length_le (by omega), List.nil_append, List.drop_replicate]
  unfold cellsI
  rw [List.map_append, List.append_assoc]
  congr 2
  congr 1
  omega
theorem loop_at (l : La) (r : Nat) : unrL l (l.1.length + r * l.2.length) l.2.length = l.2 := by
  refine ext_at (unrL_len _ _ _) fun i hi => ?_
  rw [unrL_len] at hi
  have h1 := unrL_loop l
  have h2 := congrArg (fun x : List Int => x[i]?) h1
  simp only [unrL_at _ _ _ _ hi] at h2
  rw [unrL_at _ _ _ _ hi, ← h2]
  congr 1
  rw [show l.1.length + r * l.2.length + i = (l.1.length + i) + r * l.2.length from by omega]
  exact (per_loop l).times r _ (by omega)
theorem src_pos {w w1 : World} {a : Option Addr} {t : List Int} (hc : ∀ (i : Nat) (x : Int), t[i]? = some x → ∃ b off : Nat, a = some ⟨b, off, none⟩ ∧ b < w.heap.size ∧ w.cell? ⟨b, off + i, none⟩ = some (.int .i64 x)) (hb : Below w.heap.size w w1) :
    0 < (cellsI t).length → ∃ ad, a = some ad ∧ ∀ (j : Nat) (v : Value), (cellsI t)[j]? = some v → w1.cell? (ad.add j) = some v := by
  intro h0
  rw [cellsI_len] at h0
  obtain ⟨b, off, rfl, hlt, _⟩ := hc 0 _ (List.getElem?_eq_getElem h0)
  refine ⟨_, rfl, fun j v hv => ?_⟩
  unfold cellsI at hv
  rw [List.getElem?_map, Option.map_eq_some_iff] at hv
  obtain ⟨x, hx, rfl⟩ := hv
  obtain ⟨b', off', e, hlt', hc'⟩ := hc j x hx
  injection e with e
  injection e with e1 e2
  subst e1 e2
  have ea : (⟨b, off, none⟩ : Addr).add j = ⟨b, off + j, none⟩ := by
    unfold Addr.add
    by_cases h9 : j = 0
    · subst h9
      simp
    · simp [h9]
  rw [ea, hb.cell (p := ⟨b, off + j, none⟩) hlt]
  exact hc'
theorem own_heap {w : World} {B g n : Nat} {e : TypeId} {xs : List Value} (h : w.ownsRow B e 1 (.slice (some ⟨g, 0, none⟩) n n) n xs) : w.heap[g]? = some (.cells xs.toArray e (0, 0)) := by
  rcases h.2 with ⟨h1, _⟩ | ⟨g', cap, cur, h1, _, h3, _, _, h6, h7⟩
  · cases h1
  · injection h1 with e1 _ e3
    injection e1 with e1
    injection e1 with e1
    subst e1 e3
    rw [h3]
    congr 2
    rw [← h7, List.take_of_length_le (by rw [Array.length_toList]; omega)]
set_option maxRecDepth 100000 in
set_option maxHeartbeats 4000000 in
theorem between_any (v : Value) (l : La) (hg : goodLa l = true) (a b : Nat) (hab : a ≤ b) (hb : b ≤ 1100) (w : World) (h : AtLa w v l) :
    Calls Try.prog 47 #[v, .int .i64 a, .int .i64 b] w fun e w' => ∃ r, e = .returned r ∧ OwnOI w' w.heap.size w'.heap.size r (unrL l a (b - a)) ∧ Below w.heap.size w w' := by
  obtain ⟨q1, q2, q3⟩ := good_lens hg
  obtain ⟨g, o, rfl, h1, h2⟩ := h
  obtain ⟨i0, hi, hz0, hz1, hz2⟩ := info_parts infoInt
  obtain ⟨ga, gc, rfl, hc1⟩ := h1.opened
  obtain ⟨oa, oc, rfl, hc2⟩ := h2.opened
  -- how far the word is laid
  obtain ⟨Q, hQ⟩ : ∃ Q : Nat, b / l.2.length = Q := ⟨_, rfl⟩
  have hdm := Nat.div_add_mod b l.2.length
  have hml := Nat.mod_lt b (show 0 < l.2.length by omega)
  have hquo : (b : Int).tdiv (l.2.length : Int) = (Q : Int) := by rw [← hQ]; rfl
  obtain ⟨T, hT⟩ : ∃ T : Nat, (Q + 1) * l.2.length = T := ⟨_, rfl⟩
  have hTi : ((Q : Int) + 1) * (l.2.length : Int) = (T : Int) := by rw [← hT]; simp
  have hbT : b ≤ T := by rw [← hT, Nat.add_mul, Nat.mul_comm Q, ← hQ]; omega
  have hTb : T ≤ b + 24 := by
    have e : l.2.length * (b / l.2.length) ≤ b := by omega
    rw [← hT, Nat.add_mul, Nat.mul_comm Q, ← hQ]
    omega
  have hQ1 : Q ≤ 1100 := by rw [← hQ]; exact Nat.le_trans (Nat.div_le_self _ _) hb
  obtain ⟨S, hS⟩ : ∃ S : Nat, l.1.length + T = S := ⟨_, rfl⟩
  have HP1 : Hid (∀ w1 : World, Below w.heap.size w w1 → 0 < (cellsI l.1).length → ∃ ad, ga = some ad ∧ ∀ (j : Nat) (v : Value), (cellsI l.1)[j]? = some v → w1.cell? (ad.add j) = some v) := fun w1 hb => src_pos hc1 hb
  have HP2 : Hid (∀ w1 : World, Below w.heap.size w w1 → 0 < (cellsI l.2).length → ∃ ad, oa = some ad ∧ ∀ (j : Nat) (v : Value), (cellsI l.2)[j]? = some v → w1.cell? (ad.add j) = some v) := fun w1 hb => src_pos hc2 hb
  have hn1 : (cellsI l.1).length = l.1.length := cellsI_len _
  have hn2 : (cellsI l.2).length = l.2.length := cellsI_len _
  have HC1 : Hid (splice (part9 l S 0) 0 (cellsI l.1) = part9 l S l.1.length) := by
    show splice _ _ _ = _
    rw [part9_copy l S 0 l.1 (unrL_stem l) (by omega), Nat.zero_add]
  have HC2 : Hid (∀ r : Nat, l.1.length + r * l.2.length + l.2.length ≤ S → splice (part9 l S (l.1.length + r * l.2.length)) (l.1.length + r * l.2.length) (cellsI l.2) = part9 l S (l.1.length + r * l.2.length + l.2.length)) := fun r hr => part9_copy l S _ l.2 (loop_at l r) hr
  have HPL : Hid (∀ j, j ≤ S → (part9 l S j).length = S) := fun j hj => part9_len l S j hj
  have HEND : Hid (∀ (i : Nat) (x : Value), (cellsI (unrL l a (b - a)))[i]? = some x → (part9 l S S)[a + i]? = some x) := fun i x hx => by
    have hi := (List.getElem?_eq_some_iff.1 hx).1
    rw [cellsI_len, unrL_len] at hi
    unfold part9
    rw [Nat.sub_self, List.replicate_zero, List.append_nil]
    unfold cellsI at hx ⊢
    rw [List.getElem?_map, unrL_at _ _ _ _ (by omega)] at hx ⊢
    rw [Nat.zero_add]
    exact hx
  have hlE : (cellsI (unrL l a (b - a))).length = b - a := by rw [cellsI_len, unrL_len]
  have HO1 : Hid (∀ c ∈ cellsI l.1, c.oneCell' = true) := ints_one l.1
  have HO2 : Hid (∀ c ∈ cellsI l.2, c.oneCell' = true) := ints_one l.2
  have HRQ : Hid (∀ r : Nat, l.1.length + r * l.2.length < S → r ≤ Q ∧ l.1.length + r * l.2.length + l.2.length ≤ S) := fun r hr => by
    have e1 : r * l.2.length < T := by omega
    have e2 : r < Q + 1 := by
      rw [← hT] at e1
      exact Nat.lt_of_mul_lt_mul_right e1
    refine ⟨by omega, ?_⟩
    have e3 : (r + 1) * l.2.length ≤ T := by
      rw [← hT]
      exact Nat.mul_le_mul_right _ (by omega)
    rw [Nat.add_mul, Nat.one_mul] at e3
    omega
  have HSQ : Hid (S = l.1.length + (Q + 1) * l.2.length) := by
    show S = _
    rw [hT, hS]
  have hSi : (l.1.length : Int) + (T : Int) = (S : Int) := by omega
  have hSb : S ≤ 1148 := by omega
  have hbS : b ≤ S := by omega
  have HB0 : Hid (Below w.heap.size w (w.alloc (.cells #[.slice ga l.1.length gc, .slice oa l.2.length oc] 26))) := (Below.refl _ _).alloc (Nat.le_refl _) _
  have x0 := box2_alloc w 26 (.slice ga l.1.length gc) (.slice oa l.2.length oc)
  have hw0z : (w.alloc (.cells #[.slice ga l.1.length gc, .slice oa l.2.length oc] 26)).heap.size = w.heap.size + 1 := World.size_alloc _ _
  have HE0 : Hid (part9 l S 0 = List.replicate S (.int .i64 0)) := by
    show part9 l S 0 = _
    unfold part9
    rw [unrL_zero]
    simp [cellsI]
  generalize hEE : cellsI (unrL l a (b - a)) = EE at *
  have HEE : Hid _ := hEE
  clear hEE
  generalize part9 l S = PP at *
  generalize cellsI l.1 = C1 at *
  generalize cellsI l.2 = C2 at *
  generalize l.1.length = n1 at *
  generalize l.2.length = n2 at *
  have HX : Hid (Box2 (w.alloc (.cells #[.slice ga n1 gc, .slice oa n2 oc] 26)) w.heap.size 26 (.slice ga n1 gc) (.slice oa n2 oc)) := x0
  obtain ⟨a0, a1⟩ := x0.cells
  have ah := x0.heap
  have al := x0.lt
  clear hc1 hc2 h1 h2 hg hQ hT hS hdm hml x0
  go_enter Try.func47, Try.ntmps47
  go_wp2_with (at_make; refine wpList_make_full _ rfl _ _ 24 rfl (w.heap.size + 1) 3 i0 (.int .i64 0) 1 Try.underlying24 hi hz0 hz1 .i64 .i64 _ _ S rfl rfl (by omega) (by omega) (by rw [hz2]; omega) (by unfold maxLen; omega) (by rw [hw0z]; exact Nat.le_refl _) ?_)
  intro w1 own1 grow1
  have hg1 := own_heap own1
  rw [toList_madeCells_one, ← HE0.out] at hg1
  have HB1 : Hid (Below w.heap.size w w1) := HB0.out.grown grow1 HB0.out.size (fun k hk => by cases hk)
  have HX1 : Hid (Box2 w1 w.heap.size 26 (.slice ga n1 gc) (.slice oa n2 oc)) := HX.out.grown grow1 (fun e => by cases e)
  have hz1s : w.heap.size + 1 < w1.heap.size := (Array.getElem?_eq_some_iff.1 hg1).1
  have hint : (Try.prog.info? 3).map (·.size) = some 1 := by rw [hi]; simp [hz1]
  have hp1 : 0 < C1.length → (some ⟨w.heap.size + 1, 0, none⟩ : Option Addr) = some ⟨w.heap.size + 1, 0, none⟩ ∧ ∃ ad, ga = some ad ∧ ∀ (j : Nat) (v : Value), C1[j]? = some v → w1.cell? (ad.add j) = some v := fun h0 => ⟨rfl, HP1.out w1 HB1.out h0⟩
  have hf1 : 0 + C1.length ≤ (PP 0).length := by rw [HPL.out 0 (by omega)]; omega
  have hm1 : C1.length = Nat.min n1 S := by rw [hn1]; exact (Nat.min_eq_left (by omega)).symm
  obtain ⟨b0, b1⟩ := HX1.out.cells
  have bh := HX1.out.heap
  have bl := HX1.out.lt
  clear own1 grow1 a0 a1 ah al
  go_wp2_with (refine wpList_copy_splice rfl _ _ _ _ rfl 3 Try.underlying24 hint _ _ _ _ _ _ rfl rfl (w.heap.size + 1) 0 (PP 0) 3 hg1 C1 hm1 hp1 hf1 HO1.out (w.heap.size + 1) _ (Below.refl _ _) (Nat.le_refl _) ?_)
  intro w2 HG2 hb2
  have HB2 : Hid (Below w.heap.size w w2) := HB1.out.trans (hb2.mono (by omega))
  have HX2 : Hid (Box2 w2 w.heap.size 26 (.slice ga n1 gc) (.slice oa n2 oc)) := HX1.out.below hb2 (by omega)
  have HG3 : Hid (w2.heap[w.heap.size + 1]? = some (.cells (PP (n1 + 0 * n2)).toArray 3 (0, 0))) := by
    have h9 := HG2.out
    rw [HC1.out] at h9
    show w2.heap[w.heap.size + 1]? = _
    rw [Nat.zero_mul, Nat.add_zero]
    exact h9
  clear HG2 hb2 b0 b1 bh bl hg1 hp1 hf1
  go_wp2_with fail
  go_loopw [9] (fun i wr => ∃ r j : Nat, j = n1 + r * n2 ∧ j ≤ S ∧ i = .int .i64 j ∧ Hid (wr.heap[w.heap.size + 1]? = some (.cells (PP j).toArray 3 (0, 0))) ∧ Hid (Below w.heap.size w wr) ∧ Hid (Box2 wr w.heap.size 26 (.slice ga n1 gc) (.slice oa n2 oc))) (fun i _ => S - (intOf i).toNat)
  case atStart => exact ⟨0, n1, by simp, by omega, rfl, by have h9 := HG3.out; rw [Nat.zero_mul, Nat.add_zero] at h9; exact h9, HB2, HX2⟩
  case round =>
    obtain ⟨r, j, hjr, hj, rfl, HG, HB, HX3⟩ := hrel
    clear HB2 HX2 HG3 HB1 HX1 HB0 HX
    obtain ⟨b0, b1⟩ := HX3.out.cells
    have bh := HX3.out.heap
    have bl := HX3.out.lt
    have hgl := HG.out
    have hsz := HB.out.size
    by_cases hlt : j < S
    · obtain ⟨hrQ, hfit⟩ := HRQ.out r (by rw [← hjr]; exact hlt)
      rw [← hjr] at hfit
      have hne : ¬ S = j := by omega
      have HP3 : Hid (0 < C2.length → ∃ ad, oa = some ad ∧ ∀ (j : Nat) (v : Value), C2[j]? = some v → wr.drew.cell? (ad.add j) = some v) := fun h0 => HP2.out wr.drew HB.out.drew h0
      have hf2 : j + C2.length ≤ (PP j).length := by rw [HPL.out j hj, hn2]; omega
      have hm2 : C2.length = Nat.min n2 (S - j) := by rw [hn2]; exact (Nat.min_eq_left (by omega)).symm
      have HSP : Hid (splice (PP j) j C2 = PP (j + n2)) := by
        have h9 := HC2.out r (by rw [← hjr]; exact hfit)
        rw [← hjr] at h9
        exact h9
      have HJ : Hid (j + n2 = n1 + (r + 1) * n2) := by
        show j + n2 = _
        rw [Nat.add_mul, Nat.one_mul]
        omega
      have hwr : IntKind.i64.wrap ((j : Int) + (n2 : Int)) = (j : Int) + (n2 : Int) := IntWalk.i64_in _ ⟨by omega, by omega⟩
      clear hjr
      go_wp2_with fail
      go_region_law (refine step_copy_splice rfl _ _ _ _ rfl 3 Try.underlying24 hint (some ⟨w.heap.size + 1, j, none⟩) oa (S - j) (S - j) n2 oc (by simp [Act.eval, Act.put]) (by simp [Act.eval, Act.put]) (w.heap.size + 1) j (PP j) 3 hgl C2 hm2 (fun h0 => ⟨rfl, HP3.out h0⟩) hf2 HO2.out (w.heap.size + 1) _ (Below.refl _ _) (Nat.le_refl _) ?_; intro w4 HG4 hb4)
      all_goals
        have HG5 : Hid (w4.heap[w.heap.size + 1]? = some (.cells (PP (j + n2)).toArray 3 (0, 0))) := by
          have h9 := HG4.out
          rw [HSP.out] at h9
          exact h9
        have HB4 : Hid (Below w.heap.size w w4) := HB.out.drew.trans (hb4.mono (Nat.le_succ _))
        have HX4 : Hid (Box2 w4 w.heap.size 26 (.slice ga n1 gc) (.slice oa n2 oc)) := Box2.below (w := wr.drew) ⟨HX3.out.heap⟩ hb4 (by omega)
        clear HG4 hb4 b0 b1 bh bl hgl HG HB HX3
        go_wp2_with fail
        refine ⟨?_, ?measure⟩
        (repeat apply Exists.intro)
        refine ⟨?rel, rfl⟩
        case rel => exact ⟨r + 1, j + n2, HJ.out, hfit, by simp, HG5, HB4, HX4⟩
        case measure =>
          show S - ((j : Int) + (n2 : Int)).toNat < S - ((j : Int)).toNat
          omega
    · obtain rfl : j = S := by omega
      have hgs := (Array.getElem?_eq_some_iff.1 hgl).1
      by_cases hba : b = a
      · subst hba
        have hsub : b - b = 0 := Nat.sub_self b
        have HU : Hid (unrL l b (b - b) = unrL l b 0) := by show unrL l b (b - b) = _; rw [hsub]
        have HR : Hid (∀ (g off cap : Nat), OwnOI wr w.heap.size wr.heap.size (.slice (some ⟨g, off, none⟩) 0 cap) (unrL l b 0)) := fun g off cap => ⟨Nat.le_refl _, Or.inl ⟨rfl, _, cap, rfl, (fun e => by cases e), fun ad e => by cases e; rfl⟩⟩
        clear hgl b0 b1 bh bl HEND hjr
        go_wp2_with fail
        go_ret
        exact ⟨_, rfl, by rw [HU.out]; exact HR.out (w.heap.size + 1) 0 0, HB.out⟩
      have HR : Hid (OwnOI wr w.heap.size wr.heap.size (.slice (some ⟨w.heap.size + 1, a, none⟩) (b - a) (b - a)) (unrL l a (b - a))) := by
        refine ⟨Nat.le_refl _, Or.inr ⟨w.heap.size + 1, a, b - a, by rw [cellsI_len, unrL_len], Nat.le_succ _, hgs, fun i x hx => ?_, (fun i => by simp [World.frozen?, hgl]), by rw [cellsI_len, unrL_len]; exact Nat.le_refl _⟩⟩
        have h9 := HEND.out i x (by rw [← HEE.out]; exact hx)
        simp [World.cell?, hgl, h9]
      have hba2 : ¬ a = b := fun e => hba e.symm
      clear hgl b0 b1 bh bl HEND hjr
      go_wp2_with fail
      go_ret
      exact ⟨_, rfl, HR.out, HB.out⟩
end Go.Proofs.Ythamdefkcjfjpaa

namespace Go.Proofs.Ythamdefkcjfjpaa
open Go Go.RowKit
open M
set_option linter.unusedVariables false
set_option linter.unusedSimpArgs false

structure RegSameI (W w' : World) (B : Nat) (ga : Option Addr) (gn gc : Nat) (oa : Option Addr) (on oc : Nat) (ha : Option Addr) (hn hc : Nat) (pa : Option Addr) (pn pc : Nat) (E : Nat) (SB : Bool) (xs ys : List Int) (l0 l1 l2 l3 l4 l5 l6 l7 l8 : Bool) (s0 s1 s2 s3 s4 s5 s6 s7 s8 : Value) : Prop where
  (bel : Below W.heap.size W w')
  (d0 : l0 = true → s0 = .agg #[.slice ga gn gc, .slice oa on oc] ∧ True)
  (d1 : l1 = true → s1 = .int .i64 E ∧ True)
  (d2 : l2 = true → (Rw B w' s2 xs) ∧ l0 = true ∧ l1 = true)
  (d3 : l3 = true → s3 = .agg #[.slice ha hn hc, .slice pa pn pc] ∧ True)
  (d4 : l4 = true → s4 = .int .i64 E ∧ True)
  (d5 : l5 = true → (Rw B w' s5 ys) ∧ l2 = true ∧ l3 = true ∧ l4 = true)
  (d6 : l6 = true → s6 = .bool SB ∧ l2 = true ∧ l5 = true)
  (d7 : l7 = true → s7 = .bool SB ∧ l0 = true ∧ l1 = true ∧ l2 = true ∧ l3 = true ∧ l4 = true ∧ l5 = true ∧ l6 = true)
  (d8 : l8 = true → s8 = .bool true ∧ l0 = true ∧ l1 = true ∧ l2 = true ∧ l3 = true ∧ l4 = true ∧ l5 = true ∧ l6 = true ∧ l7 = true)
set_option maxRecDepth 100000 in
set_option maxHeartbeats 8000000 in
theorem iSameWord_any (u v : Value) (a b : La) (w : World) (h : AtLa w u a) (h' : AtLa w v b) :
    Calls Try.prog 15 #[u, v] w fun e w' => e = .returned (.tuple #[.bool (sameR a b), .bool (sameB a b)]) ∧ Below w.heap.size w w' := by
  have G1 : Hid (∀ w1 : World, Below w.heap.size w w1 → Calls Try.prog 20 #[u] w1 fun e w' => e = .returned (.bool (goodLa a)) ∧ Below w1.heap.size w1 w') := fun w1 hb => iGoodLasso_any u a w1 (h.below hb)
  have G2 : Hid (∀ w1 : World, Below w.heap.size w w1 → Calls Try.prog 20 #[v] w1 fun e w' => e = .returned (.bool (goodLa b)) ∧ Below w1.heap.size w1 w') := fun w1 hb => iGoodLasso_any v b w1 (h'.below hb)
  have hR : sameR a b = (goodLa a && goodLa b && sameN 600 a b) := rfl
  have hB : sameB a b = (goodLa a && goodLa b) := rfl
  have HE : Hid (goodLa a = true → goodLa b = true → ∃ M E : Nat, ((b.1.length ≤ a.1.length ∧ a.1.length = M) ∨ (a.1.length < b.1.length ∧ b.1.length = M)) ∧ M + a.2.length + b.2.length = E ∧ E ≤ 100 ∧ a.1.length ≤ 24 ∧ b.1.length ≤ 24 ∧ a.2.length ≤ 24 ∧ b.2.length ≤ 24 ∧ sameN 600 a b = sameN E a b ∧ (unrL a 0 E).length ≤ 1048576 ∧ (unrL b 0 E).length ≤ 1048576 ∧
      Hid (∀ w1 : World, Below w.heap.size w w1 → Calls Try.prog 47 #[u, .int .i64 0, .int .i64 E] w1 fun e w' => ∃ r, e = .returned r ∧ OwnOI w' w1.heap.size w'.heap.size r (unrL a 0 E) ∧ Below w1.heap.size w1 w') ∧
      Hid (∀ w1 : World, Below w.heap.size w w1 → Calls Try.prog 47 #[v, .int .i64 0, .int .i64 E] w1 fun e w' => ∃ r, e = .returned r ∧ OwnOI w' w1.heap.size w'.heap.size r (unrL b 0 E) ∧ Below w1.heap.size w1 w') ∧
      Hid (∀ (w1 : World) (x y : Value), Below w.heap.size w w1 → IntsAt w1 x (unrL a 0 E) → IntsAt w1 y (unrL b 0 E) → Calls Try.prog 46 #[x, y] w1 fun e w' => e = .returned (.bool (sameN E a b)) ∧ Below w1.heap.size w1 w')) := fun q1 q2 => by
    obtain ⟨p1, p2, p3⟩ := good_lens q1
    obtain ⟨r1, r2, r3⟩ := good_lens q2
    have m3 : Nat.max a.1.length b.1.length ≤ 24 := Nat.max_le.2 ⟨p1, r1⟩
    have m4 : (b.1.length ≤ a.1.length ∧ a.1.length = Nat.max a.1.length b.1.length) ∨ (a.1.length < b.1.length ∧ b.1.length = Nat.max a.1.length b.1.length) := by
      rcases Nat.lt_or_ge a.1.length b.1.length with h9 | h9
      · exact Or.inr ⟨h9, (Nat.max_eq_right (Nat.le_of_lt h9)).symm⟩
      · exact Or.inl ⟨h9, (Nat.max_eq_left h9).symm⟩
    refine ⟨Nat.max a.1.length b.1.length, _, m4, rfl, by omega, p1, r1, p3, r3, sameN_far q1 q2 (by omega) (Nat.le_refl _), by rw [unrL_len]; omega, by rw [unrL_len]; omega, fun w1 hb => between_any u a q1 0 _ (Nat.zero_le _) (by omega) w1 (h.below hb), fun w1 hb => between_any v b q2 0 _ (Nat.zero_le _) (by omega) w1 (h'.below hb), fun w1 x y _ hx hy => equalI_any x y _ _ w1 hx hy⟩
  obtain ⟨g_, o_, hv, h1, h2⟩ := h
  obtain ⟨ga, gc, z1⟩ := h1.shape
  obtain ⟨oa, oc, z2⟩ := h2.shape
  subst z1 z2 hv
  obtain ⟨g_, o_, hv, h3, h4⟩ := h'
  obtain ⟨ha, hc, z1⟩ := h3.shape
  obtain ⟨pa, pc, z2⟩ := h4.shape
  subst z1 z2 hv
  generalize a.1.length = gn at *
  generalize a.2.length = on at *
  generalize b.1.length = hn at *
  generalize b.2.length = pn at *
  obtain ⟨w0, hw0⟩ : ∃ w0, (w.alloc (.cells #[.slice ga gn gc, .slice oa on oc] 26)).alloc (.cells #[.slice ha hn hc, .slice pa pn pc] 26) = w0 := ⟨_, rfl⟩
  have HB0 : Hid (Below w.heap.size w w0) := by
    show Below _ _ _
    rw [← hw0]
    exact ((Below.refl _ _).alloc (Nat.le_refl _) _).alloc (by rw [World.size_alloc]; omega) _
  have x0 := (box2_alloc w 26 (.slice ga gn gc) (.slice oa on oc)).alloc (.cells #[.slice ha hn hc, .slice pa pn pc] 26)
  have y0 := box2_alloc (w.alloc (.cells #[.slice ga gn gc, .slice oa on oc] 26)) 26 (.slice ha hn hc) (.slice pa pn pc)
  simp only [World.size_alloc] at y0
  have hz0 : w0.heap.size = w.heap.size + 2 := by rw [← hw0, World.size_alloc, World.size_alloc]
  rw [hw0] at x0 y0
  have HX0 : Hid _ := x0
  have HY0 : Hid _ := y0
  obtain ⟨a0, a1⟩ := x0.cells
  have ah := x0.heap
  have al := x0.lt
  obtain ⟨b0, b1⟩ := y0.cells
  have bh := y0.heap
  have bl := y0.lt
  rw [← hw0] at a0 a1 ah al b0 b1 bh bl
  have g := G1.out _ HB0.out
  rw [← hw0] at g
  have HW0 : Hid _ := hw0
  rw [hR, hB]
  clear h1 h2 h3 h4 G1 x0 y0 hw0 hR hB
  generalize goodLa a = AB at *
  generalize goodLa b = BB at *
  cases AB with
  | false =>
    rw [Bool.false_and, Bool.false_and]
    clear HE G2
    go_enter Try.func15, Try.ntmps15
    go_wp2_with fail
    refine g.mono ?_
    rw [HW0.out]
    clear a0 a1 ah al b0 b1 bh bl
    rintro e w1 ⟨rfl, hs⟩
    have HB1 : Hid (Below w.heap.size w w1) := HB0.out.trans (hs.mono (by omega))
    have x1 := HX0.out.below hs (by omega)
    have y1 := HY0.out.below hs (by omega)
    have hs1 := hs.size
    clear g hs HX0 HY0
    clear x1 y1
    go_wp2_with fail
    go_ret2
    exact ⟨rfl, HB1.out⟩
  | true =>
    rw [Bool.true_and]
    cases BB with
    | false =>
      rw [Bool.false_and]
      clear HE
      go_enter Try.func15, Try.ntmps15
      go_wp2_with fail
      refine g.mono ?_
      rw [HW0.out]
      clear a0 a1 ah al b0 b1 bh bl
      rintro e w1 ⟨rfl, hs⟩
      have HB1 : Hid (Below w.heap.size w w1) := HB0.out.trans (hs.mono (by omega))
      have x1 := HX0.out.below hs (by omega)
      have y1 := HY0.out.below hs (by omega)
      have hs1 := hs.size
      clear g hs HX0 HY0
      obtain ⟨a0, a1⟩ := x1.cells
      have ah := x1.heap
      have al := x1.lt
      obtain ⟨b0, b1⟩ := y1.cells
      have bh := y1.heap
      have bl := y1.lt
      clear x1 y1
      have g2 := G2.out _ HB1.out
      go_wp2_with fail
      refine g2.mono ?_
      rintro e w2 ⟨rfl, hs⟩
      have HB2 : Hid (Below w.heap.size w w2) := HB1.out.trans (hs.mono (by omega))
      clear g2 hs a0 a1 ah al b0 b1 bh bl
      go_wp2_with fail
      go_ret2
      exact ⟨rfl, HB2.out⟩
    | true =>
      rw [Bool.true_and]
      obtain ⟨M, E, hM, hE, hE1, l1, l2, l3, l4, hSE, HXL0, HYL0, GA, GB, GE⟩ := HE.out rfl rfl
      rw [hSE]
      have HXL : Hid _ := HXL0
      have HYL : Hid _ := HYL0
      clear HE hSE HXL0 HYL0
      generalize unrL a 0 E = xs at *
      generalize unrL b 0 E = ys at *
      generalize sameN E a b = SB at *
      have hEi : (M : Int) + (on : Int) + (pn : Int) = (E : Int) := by omega
      rcases hM with ⟨hm4, rfl⟩ | ⟨hm4, rfl⟩
      · go_enter Try.func15, Try.ntmps15
        go_wp2_with fail
        refine g.mono ?_
        rw [HW0.out]
        clear a0 a1 ah al b0 b1 bh bl
        rintro e w1 ⟨rfl, hs⟩
        have HB1 : Hid (Below w.heap.size w w1) := HB0.out.trans (hs.mono (by omega))
        have x1 := HX0.out.below hs (by omega)
        have y1 := HY0.out.below hs (by omega)
        have hs1 := hs.size
        clear g hs HX0 HY0
        obtain ⟨a0, a1⟩ := x1.cells
        have ah := x1.heap
        have al := x1.lt
        obtain ⟨b0, b1⟩ := y1.cells
        have bh := y1.heap
        have bl := y1.lt
        have g2 := G2.out _ HB1.out
        go_wp2_with fail
        refine g2.mono ?_
        rintro e w2 ⟨rfl, hs⟩
        have HB2 : Hid (Below w.heap.size w w2) := HB1.out.trans (hs.mono (by omega))
        have x2 := x1.below hs (by omega)
        have y2 := y1.below hs (by omega)
        have hs2 := hs.size
        clear g2 hs a0 a1 ah al b0 b1 bh bl x1 y1
        obtain ⟨a0, a1⟩ := x2.cells
        have ah := x2.heap
        have al := x2.lt
        obtain ⟨b0, b1⟩ := y2.cells
        have bh := y2.heap
        have bl := y2.lt
        have HXP : Hid (∀ w3, Below w2.drew.heap.size w2.drew w3 → Box2 w3 w.heap.size 26 (.slice ga gn gc) (.slice oa on oc)) := fun w3 hb3 => Box2.below (w := w2.drew) ⟨x2.heap⟩ hb3 (by show _ < w2.heap.size; omega)
        have HYP : Hid (∀ w3, Below w2.drew.heap.size w2.drew w3 → Box2 w3 (w.heap.size + 1) 26 (.slice ha hn hc) (.slice pa pn pc)) := fun w3 hb3 => Box2.below (w := w2.drew) ⟨y2.heap⟩ hb3 (by show _ < w2.heap.size; omega)
        have HBW : Hid (∀ w3, Below w2.drew.heap.size w2.drew w3 → Below w.heap.size w w3) := fun w3 hb3 => HB2.out.drew.trans (hb3.mono (by show w.heap.size ≤ w2.heap.size; omega))
        clear x2 y2
        go_wp2_with fail
        refine wp_region_any (by kernel_rfl) ?_
        change wpAny _ _ _ _ _ _ _ (World.drew _)
        refine wpAny_invN (fun lb9 ac9 w' => ∃ (l0 l1 l2 l3 l4 l5 l6 l7 l8 : Bool) (s0 s1 s2 s3 s4 s5 s6 s7 s8 : Value), lb9 = #[l0, l1, l2, l3, l4, l5, l6, l7, l8] ∧ ac9 = { tmps := ((.agg #[.slice ga gn gc, .slice oa on oc]) :: (.agg #[.slice ha hn hc, .slice pa pn pc]) :: (.pointer (some ⟨w.heap.size, 0, none⟩)) :: (.pointer (some ⟨w.heap.size + 1, 0, none⟩)) :: (s7) :: (s8) :: (.int .i64 E) :: (.agg #[.slice ga gn gc, .slice oa on oc]) :: (.bool true) :: (.bool false) :: (.bool false) :: (.agg #[.slice ha hn hc, .slice pa pn pc]) :: (.bool true) :: (.bool false) :: (.bool false) :: (.pointer (some ⟨w.heap.size, 0, none⟩)) :: (.slice ga gn gc) :: (.int .i64 gn) :: (.pointer (some ⟨w.heap.size + 1, 0, none⟩)) :: (.slice ha hn hc) :: (.int .i64 hn) :: (.int .i64 gn) :: (.pointer (some ⟨w.heap.size, 1, none⟩)) :: (.slice oa on oc) :: (.int .i64 on) :: (.int .i64 ((gn : Int) + (on : Int))) :: (.pointer (some ⟨w.heap.size + 1, 1, none⟩)) :: (.slice pa pn pc) :: (.int .i64 pn) :: (.int .i64 E) :: (s0) :: (s1) :: (s2) :: (s3) :: (s4) :: (s5) :: (s6) :: []).toArray, defers := [] } ∧ RegSameI w2.drew w' w2.drew.heap.size ga gn gc oa on oc ha hn hc pa pn pc E SB xs ys l0 l1 l2 l3 l4 l5 l6 l7 l8 s0 s1 s2 s3 s4 s5 s6 s7 s8) ?done ?step 9 _ _ _ ⟨false, false, false, false, false, false, false, false, false, _, _, _, _, _, _, _, _, _, rfl, rfl, ?init⟩ (by decide)
        case init => exact { bel := Below.refl _ _, d0 := fun e => (by cases e), d1 := fun e => (by cases e), d2 := fun e => (by cases e), d3 := fun e => (by cases e), d4 := fun e => (by cases e), d5 := fun e => (by cases e), d6 := fun e => (by cases e), d7 := fun e => (by cases e), d8 := fun e => (by cases e) }
        case step =>
          rintro lb9 ac9 w3 ⟨l0, l1, l2, l3, l4, l5, l6, l7, l8, s0, s1, s2, s3, s4, s5, s6, s7, s8, rfl, rfl, h⟩
          intro q hq
          have hlt9 := ready_ltN hq
          match q, hq, hlt9 with
          | 0, hq, _ =>
            have hr := ready_depN hq rfl
            have hme : l0 = false := hr.1
            have hbel := h.bel
            have x3 := HXP.out w3 hbel
            obtain ⟨c0, c1⟩ := x3.cells
            have ch := x3.heap
            have cl := x3.lt
            clear hr hq
            refine wpOp_runN rfl rfl (fun K hK => ?_)
            go_simp
            refine hK _ _ ⟨true, l1, l2, l3, l4, l5, l6, l7, l8, _, _, _, _, _, _, _, _, _, rfl, rfl, ?_⟩
            exact { bel := h.bel, d0 := fun _ => ⟨rfl, trivial⟩, d1 := h.d1, d2 := fun e => absurd (h.d2 e).2.1 (by rw [hme]; decide), d3 := h.d3, d4 := h.d4, d5 := h.d5, d6 := h.d6, d7 := fun e => absurd (h.d7 e).2.1 (by rw [hme]; decide), d8 := fun e => absurd (h.d8 e).2.1 (by rw [hme]; decide) }
          | 1, hq, _ =>
            have hr := ready_depN hq rfl
            have hme : l1 = false := hr.1
            have hbel := h.bel
            clear hr hq
            refine wpOp_runN rfl rfl (fun K hK => ?_)
            go_simp
            refine hK _ _ ⟨l0, true, l2, l3, l4, l5, l6, l7, l8, _, _, _, _, _, _, _, _, _, rfl, rfl, ?_⟩
            exact { bel := h.bel, d0 := h.d0, d1 := fun _ => ⟨rfl, trivial⟩, d2 := fun e => absurd (h.d2 e).2.2 (by rw [hme]; decide), d3 := h.d3, d4 := h.d4, d5 := h.d5, d6 := h.d6, d7 := fun e => absurd (h.d7 e).2.2.1 (by rw [hme]; decide), d8 := fun e => absurd (h.d8 e).2.2.1 (by rw [hme]; decide) }
          | 2, hq, _ =>
            have hr := ready_depN hq rfl
            have hme : l2 = false := hr.1
            have e0 : l0 = true := hr.2 ⟨0, .data⟩ (by simp) (by kernel_rfl)
            have e1 : l1 = true := hr.2 ⟨1, .data⟩ (by simp) (by kernel_rfl)
            have hbel := h.bel
            obtain rfl := (h.d0 e0).1
            obtain rfl := (h.d1 e1).1
            clear hr hq
            refine wpOp_runN rfl rfl (fun K hK => ?_)
            go_simp
            go_at_call 47
            refine Calls.mono (GA.out w3 (HBW.out w3 hbel)) ?_
            rintro e w4 ⟨r, rfl, ho, hs4⟩
            have hbel4 := hbel.trans (hs4.mono hbel.size)
            have hnew := rw_of hbel.size (ho)
            refine hK _ _ ⟨l0, l1, true, l3, l4, l5, l6, l7, l8, _, _, _, _, _, _, _, _, _, rfl, rfl, ?_⟩
            exact { bel := hbel4, d0 := h.d0, d1 := h.d1, d2 := fun _ => ⟨hnew, e0, e1⟩, d3 := h.d3, d4 := h.d4, d5 := fun e => absurd (h.d5 e).2.1 (by rw [hme]; decide), d6 := fun e => absurd (h.d6 e).2.1 (by rw [hme]; decide), d7 := fun e => absurd (h.d7 e).2.2.2.1 (by rw [hme]; decide), d8 := fun e => absurd (h.d8 e).2.2.2.1 (by rw [hme]; decide) }
          | 3, hq, _ =>
            have hr := ready_depN hq rfl
            have hme : l3 = false := hr.1
            have hbel := h.bel
            have x3 := HYP.out w3 hbel
            obtain ⟨c0, c1⟩ := x3.cells
            have ch := x3.heap
            have cl := x3.lt
            clear hr hq
            refine wpOp_runN rfl rfl (fun K hK => ?_)
            go_simp
            refine hK _ _ ⟨l0, l1, l2, true, l4, l5, l6, l7, l8, _, _, _, _, _, _, _, _, _, rfl, rfl, ?_⟩
            exact { bel := h.bel, d0 := h.d0, d1 := h.d1, d2 := h.d2, d3 := fun _ => ⟨rfl, trivial⟩, d4 := h.d4, d5 := fun e => absurd (h.d5 e).2.2.1 (by rw [hme]; decide), d6 := h.d6, d7 := fun e => absurd (h.d7 e).2.2.2.2.1 (by rw [hme]; decide), d8 := fun e => absurd (h.d8 e).2.2.2.2.1 (by rw [hme]; decide) }
          | 4, hq, _ =>
            have hr := ready_depN hq rfl
            have hme : l4 = false := hr.1
            have hbel := h.bel
            clear hr hq
            refine wpOp_runN rfl rfl (fun K hK => ?_)
            go_simp
            refine hK _ _ ⟨l0, l1, l2, l3, true, l5, l6, l7, l8, _, _, _, _, _, _, _, _, _, rfl, rfl, ?_⟩
            exact { bel := h.bel, d0 := h.d0, d1 := h.d1, d2 := h.d2, d3 := h.d3, d4 := fun _ => ⟨rfl, trivial⟩, d5 := fun e => absurd (h.d5 e).2.2.2 (by rw [hme]; decide), d6 := h.d6, d7 := fun e => absurd (h.d7 e).2.2.2.2.2.1 (by rw [hme]; decide), d8 := fun e => absurd (h.d8 e).2.2.2.2.2.1 (by rw [hme]; decide) }
          | 5, hq, _ =>
            have hr := ready_depN hq rfl
            have hme : l5 = false := hr.1
            have e2 : l2 = true := hr.2 ⟨2, .chain⟩ (by simp) (by kernel_rfl)
            have e3 : l3 = true := hr.2 ⟨3, .data⟩ (by simp) (by kernel_rfl)
            have e4 : l4 = true := hr.2 ⟨4, .data⟩ (by simp) (by kernel_rfl)
            have hbel := h.bel
            obtain rfl := (h.d3 e3).1
            obtain rfl := (h.d4 e4).1
            clear hr hq
            refine wpOp_runN rfl rfl (fun K hK => ?_)
            go_simp
            go_at_call 47
            refine Calls.mono (GB.out w3 (HBW.out w3 hbel)) ?_
            rintro e w4 ⟨r, rfl, ho, hs4⟩
            have hbel4 := hbel.trans (hs4.mono hbel.size)
            have hnew := rw_of hbel.size (ho)
            refine hK _ _ ⟨l0, l1, l2, l3, l4, true, l6, l7, l8, _, _, _, _, _, _, _, _, _, rfl, rfl, ?_⟩
            exact { bel := hbel4, d0 := h.d0, d1 := h.d1, d2 := fun e => ⟨(h.d2 e).1.below hs4, (h.d2 e).2⟩, d3 := h.d3, d4 := h.d4, d5 := fun _ => ⟨hnew, e2, e3, e4⟩, d6 := fun e => absurd (h.d6 e).2.2 (by rw [hme]; decide), d7 := fun e => absurd (h.d7 e).2.2.2.2.2.2.1 (by rw [hme]; decide), d8 := fun e => absurd (h.d8 e).2.2.2.2.2.2.1 (by rw [hme]; decide) }
          | 6, hq, _ =>
            have hr := ready_depN hq rfl
            have hme : l6 = false := hr.1
            have e2 : l2 = true := hr.2 ⟨2, .data⟩ (by simp) (by kernel_rfl)
            have e5 : l5 = true := hr.2 ⟨5, .data⟩ (by simp) (by kernel_rfl)
            have hbel := h.bel
            clear hr hq
            refine wpOp_runN rfl rfl (fun K hK => ?_)
            go_simp
            go_at_call 46
            refine Calls.mono (GE.out w3 s2 s5 (HBW.out w3 hbel) ((h.d2 e2).1.reads HXL.out) ((h.d5 e5).1.reads HYL.out)) ?_
            rintro e w4 ⟨rfl, hs4⟩
            have hbel4 := hbel.trans (hs4.mono hbel.size)
            refine hK _ _ ⟨l0, l1, l2, l3, l4, l5, true, l7, l8, _, _, _, _, _, _, _, _, _, rfl, rfl, ?_⟩
            exact { bel := hbel4, d0 := h.d0, d1 := h.d1, d2 := fun e => ⟨(h.d2 e).1.below hs4, (h.d2 e).2⟩, d3 := h.d3, d4 := h.d4, d5 := fun e => ⟨(h.d5 e).1.below hs4, (h.d5 e).2⟩, d6 := fun _ => ⟨rfl, e2, e5⟩, d7 := fun e => absurd (h.d7 e).2.2.2.2.2.2.2 (by rw [hme]; decide), d8 := fun e => absurd (h.d8 e).2.2.2.2.2.2.2.1 (by rw [hme]; decide) }
          | 7, hq, _ =>
            have hr := ready_depN hq rfl
            have hme : l7 = false := hr.1
            have e0 : l0 = true := hr.2 ⟨0, .phase⟩ (by simp) (by kernel_rfl)
            have e1 : l1 = true := hr.2 ⟨1, .phase⟩ (by simp) (by kernel_rfl)
            have e2 : l2 = true := hr.2 ⟨2, .phase⟩ (by simp) (by kernel_rfl)
            have e3 : l3 = true := hr.2 ⟨3, .phase⟩ (by simp) (by kernel_rfl)
            have e4 : l4 = true := hr.2 ⟨4, .phase⟩ (by simp) (by kernel_rfl)
            have e5 : l5 = true := hr.2 ⟨5, .phase⟩ (by simp) (by kernel_rfl)
            have e6 : l6 = true := hr.2 ⟨6, .data⟩ (by simp) (by kernel_rfl)
            have hbel := h.bel
            obtain rfl := (h.d0 e0).1
            obtain rfl := (h.d1 e1).1
            obtain rfl := (h.d3 e3).1
            obtain rfl := (h.d4 e4).1
            obtain rfl := (h.d6 e6).1
            clear hr hq
            refine wpOp_runN rfl rfl (fun K hK => ?_)
            go_simp
            refine hK _ _ ⟨l0, l1, l2, l3, l4, l5, l6, true, l8, _, _, _, _, _, _, _, _, _, rfl, rfl, ?_⟩
            exact { bel := h.bel, d0 := h.d0, d1 := h.d1, d2 := h.d2, d3 := h.d3, d4 := h.d4, d5 := h.d5, d6 := h.d6, d7 := fun _ => ⟨rfl, e0, e1, e2, e3, e4, e5, e6⟩, d8 := fun e => absurd (h.d8 e).2.2.2.2.2.2.2.2 (by rw [hme]; decide) }
          | 8, hq, _ =>
            have hr := ready_depN hq rfl
            have hme : l8 = false := hr.1
            have e0 : l0 = true := hr.2 ⟨0, .phase⟩ (by simp) (by kernel_rfl)
            have e1 : l1 = true := hr.2 ⟨1, .phase⟩ (by simp) (by kernel_rfl)
            have e2 : l2 = true := hr.2 ⟨2, .phase⟩ (by simp) (by kernel_rfl)
            have e3 : l3 = true := hr.2 ⟨3, .phase⟩ (by simp) (by kernel_rfl)
            have e4 : l4 = true := hr.2 ⟨4, .phase⟩ (by simp) (by kernel_rfl)
            have e5 : l5 = true := hr.2 ⟨5, .phase⟩ (by simp) (by kernel_rfl)
            have e6 : l6 = true := hr.2 ⟨6, .phase⟩ (by simp) (by kernel_rfl)
            have e7 : l7 = true := hr.2 ⟨7, .chain⟩ (by simp) (by kernel_rfl)
            have hbel := h.bel
            obtain rfl := (h.d0 e0).1
            obtain rfl := (h.d1 e1).1
            obtain rfl := (h.d3 e3).1
            obtain rfl := (h.d4 e4).1
            obtain rfl := (h.d6 e6).1
            obtain rfl := (h.d7 e7).1
            clear hr hq
            refine wpOp_runN rfl rfl (fun K hK => ?_)
            go_simp
            refine hK _ _ ⟨l0, l1, l2, l3, l4, l5, l6, l7, true, _, _, _, _, _, _, _, _, _, rfl, rfl, ?_⟩
            exact { bel := h.bel, d0 := h.d0, d1 := h.d1, d2 := h.d2, d3 := h.d3, d4 := h.d4, d5 := h.d5, d6 := h.d6, d7 := h.d7, d8 := fun _ => ⟨rfl, e0, e1, e2, e3, e4, e5, e6, e7⟩ }
          | k + 9, hq, h18 => exact (Nat.not_lt_of_le (Nat.le_add_left 9 k) h18).elim
        case done =>
          rintro lb9 ac9 w3 ⟨l0, l1, l2, l3, l4, l5, l6, l7, l8, s0, s1, s2, s3, s4, s5, s6, s7, s8, rfl, rfl, h⟩ hr
          cases l0
          · exact (ready_none2N hr 0 rfl rfl rfl).elim
          cases l1
          · exact (ready_none2N hr 1 rfl rfl rfl).elim
          cases l2
          · exact (ready_none2N hr 2 rfl rfl rfl).elim
          cases l3
          · exact (ready_none2N hr 3 rfl rfl rfl).elim
          cases l4
          · exact (ready_none2N hr 4 rfl rfl rfl).elim
          cases l5
          · exact (ready_none2N hr 5 rfl rfl rfl).elim
          cases l6
          · exact (ready_none2N hr 6 rfl rfl rfl).elim
          cases l7
          · exact (ready_none2N hr 7 rfl rfl rfl).elim
          cases l8
          · exact (ready_none2N hr 8 rfl rfl rfl).elim
          obtain rfl := (h.d0 rfl).1
          obtain rfl := (h.d1 rfl).1
          obtain rfl := (h.d3 rfl).1
          obtain rfl := (h.d4 rfl).1
          obtain rfl := (h.d6 rfl).1
          obtain rfl := (h.d7 rfl).1
          obtain rfl := (h.d8 rfl).1
          have hbel := h.bel
          have hF2 := (h.d2 rfl).1
          have hF5 := (h.d5 rfl).1
          clear h hr
          have HBE : Hid (Below w.heap.size w w3) := HBW.out w3 hbel
          clear hF2 hF5 hbel
          go_wp2_with fail
          go_ret2
          exact ⟨rfl, HBE.out⟩
      · go_enter Try.func15, Try.ntmps15
        go_wp2_with fail
        refine g.mono ?_
        rw [HW0.out]
        clear a0 a1 ah al b0 b1 bh bl
        rintro e w1 ⟨rfl, hs⟩
        have HB1 : Hid (Below w.heap.size w w1) := HB0.out.trans (hs.mono (by omega))
        have x1 := HX0.out.below hs (by omega)
        have y1 := HY0.out.below hs (by omega)
        have hs1 := hs.size
        clear g hs HX0 HY0
        obtain ⟨a0, a1⟩ := x1.cells
        have ah := x1.heap
        have al := x1.lt
        obtain ⟨b0, b1⟩ := y1.cells
        have bh := y1.heap
        have bl := y1.lt
        have g2 := G2.out _ HB1.out
        go_wp2_with fail
        refine g2.mono ?_
        rintro e w2 ⟨rfl, hs⟩
        have HB2 : Hid (Below w.heap.size w w2) := HB1.out.trans (hs.mono (by omega))
        have x2 := x1.below hs (by omega)
        have y2 := y1.below hs (by omega)
        have hs2 := hs.size
        clear g2 hs a0 a1 ah al b0 b1 bh bl x1 y1
        obtain ⟨a0, a1⟩ := x2.cells
        have ah := x2.heap
        have al := x2.lt
        obtain ⟨b0, b1⟩ := y2.cells
        have bh := y2.heap
        have bl := y2.lt
        have HXP : Hid (∀ w3, Below w2.drew.heap.size w2.drew w3 → Box2 w3 w.heap.size 26 (.slice ga gn gc) (.slice oa on oc)) := fun w3 hb3 => Box2.below (w := w2.drew) ⟨x2.heap⟩ hb3 (by show _ < w2.heap.size; omega)
        have HYP : Hid (∀ w3, Below w2.drew.heap.size w2.drew w3 → Box2 w3 (w.heap.size + 1) 26 (.slice ha hn hc) (.slice pa pn pc)) := fun w3 hb3 => Box2.below (w := w2.drew) ⟨y2.heap⟩ hb3 (by show _ < w2.heap.size; omega)
        have HBW : Hid (∀ w3, Below w2.drew.heap.size w2.drew w3 → Below w.heap.size w w3) := fun w3 hb3 => HB2.out.drew.trans (hb3.mono (by show w.heap.size ≤ w2.heap.size; omega))
        clear x2 y2
        go_wp2_with fail
        refine wp_region_any (by kernel_rfl) ?_
        change wpAny _ _ _ _ _ _ _ (World.drew _)
        refine wpAny_invN (fun lb9 ac9 w' => ∃ (l0 l1 l2 l3 l4 l5 l6 l7 l8 : Bool) (s0 s1 s2 s3 s4 s5 s6 s7 s8 : Value), lb9 = #[l0, l1, l2, l3, l4, l5, l6, l7, l8] ∧ ac9 = { tmps := ((.agg #[.slice ga gn gc, .slice oa on oc]) :: (.agg #[.slice ha hn hc, .slice pa pn pc]) :: (.pointer (some ⟨w.heap.size, 0, none⟩)) :: (.pointer (some ⟨w.heap.size + 1, 0, none⟩)) :: (s7) :: (s8) :: (.int .i64 E) :: (.agg #[.slice ga gn gc, .slice oa on oc]) :: (.bool true) :: (.bool false) :: (.bool false) :: (.agg #[.slice ha hn hc, .slice pa pn pc]) :: (.bool true) :: (.bool false) :: (.bool false) :: (.pointer (some ⟨w.heap.size, 0, none⟩)) :: (.slice ga gn gc) :: (.int .i64 gn) :: (.pointer (some ⟨w.heap.size + 1, 0, none⟩)) :: (.slice ha hn hc) :: (.int .i64 hn) :: (.int .i64 hn) :: (.pointer (some ⟨w.heap.size, 1, none⟩)) :: (.slice oa on oc) :: (.int .i64 on) :: (.int .i64 ((hn : Int) + (on : Int))) :: (.pointer (some ⟨w.heap.size + 1, 1, none⟩)) :: (.slice pa pn pc) :: (.int .i64 pn) :: (.int .i64 E) :: (s0) :: (s1) :: (s2) :: (s3) :: (s4) :: (s5) :: (s6) :: []).toArray, defers := [] } ∧ RegSameI w2.drew w' w2.drew.heap.size ga gn gc oa on oc ha hn hc pa pn pc E SB xs ys l0 l1 l2 l3 l4 l5 l6 l7 l8 s0 s1 s2 s3 s4 s5 s6 s7 s8) ?done ?step 9 _ _ _ ⟨false, false, false, false, false, false, false, false, false, _, _, _, _, _, _, _, _, _, rfl, rfl, ?init⟩ (by decide)
        case init => exact { bel := Below.refl _ _, d0 := fun e => (by cases e), d1 := fun e => (by cases e), d2 := fun e => (by cases e), d3 := fun e => (by cases e), d4 := fun e => (by cases e), d5 := fun e => (by cases e), d6 := fun e => (by cases e), d7 := fun e => (by cases e), d8 := fun e => (by cases e) }
        case step =>
          rintro lb9 ac9 w3 ⟨l0, l1, l2, l3, l4, l5, l6, l7, l8, s0, s1, s2, s3, s4, s5, s6, s7, s8, rfl, rfl, h⟩
          intro q hq
          have hlt9 := ready_ltN hq
          match q, hq, hlt9 with
          | 0, hq, _ =>
            have hr := ready_depN hq rfl
            have hme : l0 = false := hr.1
            have hbel := h.bel
            have x3 := HXP.out w3 hbel
            obtain ⟨c0, c1⟩ := x3.cells
            have ch := x3.heap
            have cl := x3.lt
            clear hr hq
            refine wpOp_runN rfl rfl (fun K hK => ?_)
            go_simp
            refine hK _ _ ⟨true, l1, l2, l3, l4, l5, l6, l7, l8, _, _, _, _, _, _, _, _, _, rfl, rfl, ?_⟩
            exact { bel := h.bel, d0 := fun _ => ⟨rfl, trivial⟩, d1 := h.d1, d2 := fun e => absurd (h.d2 e).2.1 (by rw [hme]; decide), d3 := h.d3, d4 := h.d4, d5 := h.d5, d6 := h.d6, d7 := fun e => absurd (h.d7 e).2.1 (by rw [hme]; decide), d8 := fun e => absurd (h.d8 e).2.1 (by rw [hme]; decide) }
          | 1, hq, _ =>
            have hr := ready_depN hq rfl
            have hme : l1 = false := hr.1
            have hbel := h.bel
            clear hr hq
            refine wpOp_runN rfl rfl (fun K hK => ?_)
            go_simp
            refine hK _ _ ⟨l0, true, l2, l3, l4, l5, l6, l7, l8, _, _, _, _, _, _, _, _, _, rfl, rfl, ?_⟩
            exact { bel := h.bel, d0 := h.d0, d1 := fun _ => ⟨rfl, trivial⟩, d2 := fun e => absurd (h.d2 e).2.2 (by rw [hme]; decide), d3 := h.d3, d4 := h.d4, d5 := h.d5, d6 := h.d6, d7 := fun e => absurd (h.d7 e).2.2.1 (by rw [hme]; decide), d8 := fun e => absurd (h.d8 e).2.2.1 (by rw [hme]; decide) }
          | 2, hq, _ =>
            have hr := ready_depN hq rfl
            have hme : l2 = false := hr.1
            have e0 : l0 = true := hr.2 ⟨0, .data⟩ (by simp) (by kernel_rfl)
            have e1 : l1 = true := hr.2 ⟨1, .data⟩ (by simp) (by kernel_rfl)
            have hbel := h.bel
            obtain rfl := (h.d0 e0).1
            obtain rfl := (h.d1 e1).1
            clear hr hq
            refine wpOp_runN rfl rfl (fun K hK => ?_)
            go_simp
            go_at_call 47
            refine Calls.mono (GA.out w3 (HBW.out w3 hbel)) ?_
            rintro e w4 ⟨r, rfl, ho, hs4⟩
            have hbel4 := hbel.trans (hs4.mono hbel.size)
            have hnew := rw_of hbel.size (ho)
            refine hK _ _ ⟨l0, l1, true, l3, l4, l5, l6, l7, l8, _, _, _, _, _, _, _, _, _, rfl, rfl, ?_⟩
            exact { bel := hbel4, d0 := h.d0, d1 := h.d1, d2 := fun _ => ⟨hnew, e0, e1⟩, d3 := h.d3, d4 := h.d4, d5 := fun e => absurd (h.d5 e).2.1 (by rw [hme]; decide), d6 := fun e => absurd (h.d6 e).2.1 (by rw [hme]; decide), d7 := fun e => absurd (h.d7 e).2.2.2.1 (by rw [hme]; decide), d8 := fun e => absurd (h.d8 e).2.2.2.1 (by rw [hme]; decide) }
          | 3, hq, _ =>
            have hr := ready_depN hq rfl
            have hme : l3 = false := hr.1
            have hbel := h.bel
            have x3 := HYP.out w3 hbel
            obtain ⟨c0, c1⟩ := x3.cells
            have ch := x3.heap
            have cl := x3.lt
            clear hr hq
            refine wpOp_runN rfl rfl (fun K hK => ?_)
            go_simp
            refine hK _ _ ⟨l0, l1, l2, true, l4, l5, l6, l7, l8, _, _, _, _, _, _, _, _, _, rfl, rfl, ?_⟩
            exact { bel := h.bel, d0 := h.d0, d1 := h.d1, d2 := h.d2, d3 := fun _ => ⟨rfl, trivial⟩, d4 := h.d4, d5 := fun e => absurd (h.d5 e).2.2.1 (by rw [hme]; decide), d6 := h.d6, d7 := fun e => absurd (h.d7 e).2.2.2.2.1 (by rw [hme]; decide), d8 := fun e => absurd (h.d8 e).2.2.2.2.1 (by rw [hme]; decide) }
          | 4, hq, _ =>
            have hr := ready_depN hq rfl
            have hme : l4 = false := hr.1
            have hbel := h.bel
            clear hr hq
            refine wpOp_runN rfl rfl (fun K hK => ?_)
            go_simp
            refine hK _ _ ⟨l0, l1, l2, l3, true, l5, l6, l7, l8, _, _, _, _, _, _, _, _, _, rfl, rfl, ?_⟩
            exact { bel := h.bel, d0 := h.d0, d1 := h.d1, d2 := h.d2, d3 := h.d3, d4 := fun _ => ⟨rfl, trivial⟩, d5 := fun e => absurd (h.d5 e).2.2.2 (by rw [hme]; decide), d6 := h.d6, d7 := fun e => absurd (h.d7 e).2.2.2.2.2.1 (by rw [hme]; decide), d8 := fun e => absurd (h.d8 e).2.2.2.2.2.1 (by rw [hme]; decide) }
          | 5, hq, _ =>
            have hr := ready_depN hq rfl
            have hme : l5 = false := hr.1
            have e2 : l2 = true := hr.2 ⟨2, .chain⟩ (by simp) (by kernel_rfl)
            have e3 : l3 = true := hr.2 ⟨3, .data⟩ (by simp) (by kernel_rfl)
            have e4 : l4 = true := hr.2 ⟨4, .data⟩ (by simp) (by kernel_rfl)
            have hbel := h.bel
            obtain rfl := (h.d3 e3).1
            obtain rfl := (h.d4 e4).1
            clear hr hq
            refine wpOp_runN rfl rfl (fun K hK => ?_)
            go_simp
            go_at_call 47
            refine Calls.mono (GB.out w3 (HBW.out w3 hbel)) ?_
            rintro e w4 ⟨r, rfl, ho, hs4⟩
            have hbel4 := hbel.trans (hs4.mono hbel.size)
            have hnew := rw_of hbel.size (ho)
            refine hK _ _ ⟨l0, l1, l2, l3, l4, true, l6, l7, l8, _, _, _, _, _, _, _, _, _, rfl, rfl, ?_⟩
            exact { bel := hbel4, d0 := h.d0, d1 := h.d1, d2 := fun e => ⟨(h.d2 e).1.below hs4, (h.d2 e).2⟩, d3 := h.d3, d4 := h.d4, d5 := fun _ => ⟨hnew, e2, e3, e4⟩, d6 := fun e => absurd (h.d6 e).2.2 (by rw [hme]; decide), d7 := fun e => absurd (h.d7 e).2.2.2.2.2.2.1 (by rw [hme]; decide), d8 := fun e => absurd (h.d8 e).2.2.2.2.2.2.1 (by rw [hme]; decide) }
          | 6, hq, _ =>
            have hr := ready_depN hq rfl
            have hme : l6 = false := hr.1
            have e2 : l2 = true := hr.2 ⟨2, .data⟩ (by simp) (by kernel_rfl)
            have e5 : l5 = true := hr.2 ⟨5, .data⟩ (by simp) (by kernel_rfl)
            have hbel := h.bel
            clear hr hq
            refine wpOp_runN rfl rfl (fun K hK => ?_)
            go_simp
            go_at_call 46
            refine Calls.mono (GE.out w3 s2 s5 (HBW.out w3 hbel) ((h.d2 e2).1.reads HXL.out) ((h.d5 e5).1.reads HYL.out)) ?_
            rintro e w4 ⟨rfl, hs4⟩
            have hbel4 := hbel.trans (hs4.mono hbel.size)
            refine hK _ _ ⟨l0, l1, l2, l3, l4, l5, true, l7, l8, _, _, _, _, _, _, _, _, _, rfl, rfl, ?_⟩
            exact { bel := hbel4, d0 := h.d0, d1 := h.d1, d2 := fun e => ⟨(h.d2 e).1.below hs4, (h.d2 e).2⟩, d3 := h.d3, d4 := h.d4, d5 := fun e => ⟨(h.d5 e).1.below hs4, (h.d5 e).2⟩, d6 := fun _ => ⟨rfl, e2, e5⟩, d7 := fun e => absurd (h.d7 e).2.2.2.2.2.2.2 (by rw [hme]; decide), d8 := fun e => absurd (h.d8 e).2.2.2.2.2.2.2.1 (by rw [hme]; decide) }
          | 7, hq, _ =>
            have hr := ready_depN hq rfl
            have hme : l7 = false := hr.1
            have e0 : l0 = true := hr.2 ⟨0, .phase⟩ (by simp) (by kernel_rfl)
            have e1 : l1 = true := hr.2 ⟨1, .phase⟩ (by simp) (by kernel_rfl)
            have e2 : l2 = true := hr.2 ⟨2, .phase⟩ (by simp) (by kernel_rfl)
            have e3 : l3 = true := hr.2 ⟨3, .phase⟩ (by simp) (by kernel_rfl)
            have e4 : l4 = true := hr.2 ⟨4, .phase⟩ (by simp) (by kernel_rfl)
            have e5 : l5 = true := hr.2 ⟨5, .phase⟩ (by simp) (by kernel_rfl)
            have e6 : l6 = true := hr.2 ⟨6, .data⟩ (by simp) (by kernel_rfl)
            have hbel := h.bel
            obtain rfl := (h.d0 e0).1
            obtain rfl := (h.d1 e1).1
            obtain rfl := (h.d3 e3).1
            obtain rfl := (h.d4 e4).1
            obtain rfl := (h.d6 e6).1
            clear hr hq
            refine wpOp_runN rfl rfl (fun K hK => ?_)
            go_simp
            refine hK _ _ ⟨l0, l1, l2, l3, l4, l5, l6, true, l8, _, _, _, _, _, _, _, _, _, rfl, rfl, ?_⟩
            exact { bel := h.bel, d0 := h.d0, d1 := h.d1, d2 := h.d2, d3 := h.d3, d4 := h.d4, d5 := h.d5, d6 := h.d6, d7 := fun _ => ⟨rfl, e0, e1, e2, e3, e4, e5, e6⟩, d8 := fun e => absurd (h.d8 e).2.2.2.2.2.2.2.2 (by rw [hme]; decide) }
          | 8, hq, _ =>
            have hr := ready_depN hq rfl
            have hme : l8 = false := hr.1
            have e0 : l0 = true := hr.2 ⟨0, .phase⟩ (by simp) (by kernel_rfl)
            have e1 : l1 = true := hr.2 ⟨1, .phase⟩ (by simp) (by kernel_rfl)
            have e2 : l2 = true := hr.2 ⟨2, .phase⟩ (by simp) (by kernel_rfl)
            have e3 : l3 = true := hr.2 ⟨3, .phase⟩ (by simp) (by kernel_rfl)
            have e4 : l4 = true := hr.2 ⟨4, .phase⟩ (by simp) (by kernel_rfl)
            have e5 : l5 = true := hr.2 ⟨5, .phase⟩ (by simp) (by kernel_rfl)
            have e6 : l6 = true := hr.2 ⟨6, .phase⟩ (by simp) (by kernel_rfl)
            have e7 : l7 = true := hr.2 ⟨7, .chain⟩ (by simp) (by kernel_rfl)
            have hbel := h.bel
            obtain rfl := (h.d0 e0).1
            obtain rfl := (h.d1 e1).1
            obtain rfl := (h.d3 e3).1
            obtain rfl := (h.d4 e4).1
            obtain rfl := (h.d6 e6).1
            obtain rfl := (h.d7 e7).1
            clear hr hq
            refine wpOp_runN rfl rfl (fun K hK => ?_)
            go_simp
            refine hK _ _ ⟨l0, l1, l2, l3, l4, l5, l6, l7, true, _, _, _, _, _, _, _, _, _, rfl, rfl, ?_⟩
            exact { bel := h.bel, d0 := h.d0, d1 := h.d1, d2 := h.d2, d3 := h.d3, d4 := h.d4, d5 := h.d5, d6 := h.d6, d7 := h.d7, d8 := fun _ => ⟨rfl, e0, e1, e2, e3, e4, e5, e6, e7⟩ }
          | k + 9, hq, h18 => exact (Nat.not_lt_of_le (Nat.le_add_left 9 k) h18).elim
        case done =>
          rintro lb9 ac9 w3 ⟨l0, l1, l2, l3, l4, l5, l6, l7, l8, s0, s1, s2, s3, s4, s5, s6, s7, s8, rfl, rfl, h⟩ hr
          cases l0
          · exact (ready_none2N hr 0 rfl rfl rfl).elim
          cases l1
          · exact (ready_none2N hr 1 rfl rfl rfl).elim
          cases l2
          · exact (ready_none2N hr 2 rfl rfl rfl).elim
          cases l3
          · exact (ready_none2N hr 3 rfl rfl rfl).elim
          cases l4
          · exact (ready_none2N hr 4 rfl rfl rfl).elim
          cases l5
          · exact (ready_none2N hr 5 rfl rfl rfl).elim
          cases l6
          · exact (ready_none2N hr 6 rfl rfl rfl).elim
          cases l7
          · exact (ready_none2N hr 7 rfl rfl rfl).elim
          cases l8
          · exact (ready_none2N hr 8 rfl rfl rfl).elim
          obtain rfl := (h.d0 rfl).1
          obtain rfl := (h.d1 rfl).1
          obtain rfl := (h.d3 rfl).1
          obtain rfl := (h.d4 rfl).1
          obtain rfl := (h.d6 rfl).1
          obtain rfl := (h.d7 rfl).1
          obtain rfl := (h.d8 rfl).1
          have hbel := h.bel
          have hF2 := (h.d2 rfl).1
          have hF5 := (h.d5 rfl).1
          clear h hr
          have HBE : Hid (Below w.heap.size w w3) := HBW.out w3 hbel
          clear hF2 hF5 hbel
          go_wp2_with fail
          go_ret2
          exact ⟨rfl, HBE.out⟩
end Go.Proofs.Ythamdefkcjfjpaa
