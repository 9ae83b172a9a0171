/-
  When a set of clauses is good: the model's and the program's GoodCnf.
-/
import Derived.Test.YtmjeaceabjinfaaCnf
import Derived.Test.YtmjeaceabjinfaaGood2
namespace Go.Proofs.Ytmjeaceabjinfaa
open Go Go.RowKit
open M
set_option linter.unusedVariables false

/-- literals, clauses and forms that are good -/
def litB (n x : Int) : Bool := decide (x ≠ 0 ∧ -n ≤ x ∧ x ≤ n)
def clauseB (n : Int) (t : List Int) : Bool := decide (t.length ≤ 8) && t.all (litB n)
def cnfB (c : Cn) : Bool := decide (0 ≤ c.1 ∧ c.1 ≤ 400 ∧ c.2.length ≤ 1400) && c.2.all (clauseB c.1)
theorem allTake {α : Type} {p : α → Bool} {l : List α} {j : Nat} {x : α} (hx : l[j]? = some x) (h : (l.take j).all p = true) (hp : p x = true) : (l.take (j + 1)).all p = true := by
  rw [List.take_add_one, hx, List.all_append, h]
  simp [hp]
theorem allNot {α : Type} {p : α → Bool} {l : List α} {j : Nat} {x : α} (hx : l[j]? = some x) (hp : p x = false) : l.all p = false := by
  rw [Bool.eq_false_iff]
  intro h
  have := List.all_eq_true.1 h x (List.mem_of_getElem? hx)
  rw [hp] at this
  cases this
theorem IntsSS.opened {w : World} {v : Value} {bs : List (List Int)} (h : IntsSS w v bs) : ∃ a cap, v = .slice a bs.length cap ∧ ∀ (i : Nat) (t : List Int), bs[i]? = some t → ∃ b off : Nat, a = some ⟨b, off, none⟩ ∧ b < w.heap.size ∧ ∃ u : Value, w.cell? ⟨b, off + i, none⟩ = some u ∧ IntsAt w u t := by
  rcases h.2 with ⟨rfl, a, cap, rfl⟩ | ⟨b, off, cap, rfl, hb, hc⟩
  · exact ⟨a, cap, rfl, fun i t ht => by simp at ht⟩
  · exact ⟨_, cap, rfl, fun i t ht => ⟨b, off, rfl, hb, hc i t ht⟩⟩
theorem goodLit_any (n x : Int) (h0 : 0 ≤ n) (h1 : n ≤ 1000) (w : World) :
    Calls Try.prog 154 #[.int .i64 n, .int .i64 x] w fun e w' => e = .returned (.bool (litB n x)) ∧ w' = w := by
  by_cases hx0 : x = 0
  · subst hx0
    have hR : litB n 0 = false := by unfold litB; simp
    rw [hR]
    clear hR
    go_enter Try.func154, Try.ntmps154
    go_wp2_with fail
    go_ret
    exact ⟨rfl, rfl⟩
  have e0 : (x == 0) = false := beq_eq_false_iff_ne.2 hx0
  by_cases hx1 : x < -n
  · have hR : litB n x = false := by unfold litB; exact decide_eq_false (by omega)
    rw [hR]
    clear hR
    go_enter Try.func154, Try.ntmps154
    go_wp2_with fail
    go_ret
    exact ⟨rfl, rfl⟩
  by_cases hx2 : n < x
  · have hR : litB n x = false := by unfold litB; exact decide_eq_false (by omega)
    rw [hR]
    clear hR
    go_enter Try.func154, Try.ntmps154
    go_wp2_with fail
    go_ret
    exact ⟨ret_bool (by first | rfl | exact decide_eq_false (by omega) | (simp; omega)), rfl⟩
  · have hR : litB n x = true := by unfold litB; exact decide_eq_true (by omega)
    rw [hR]
    clear hR
    go_enter Try.func154, Try.ntmps154
    go_wp2_with fail
    go_ret
    exact ⟨ret_bool (by first | rfl | exact decide_eq_true (by omega) | (simp; omega)), rfl⟩
set_option maxRecDepth 100000 in
theorem iClause_any (v : Value) (t : List Int) (n : Int) (h0 : 0 ≤ n) (h1 : n ≤ 1000) (w : World) (h : IntsAt w v t) :
    Calls Try.prog 111 #[.int .i64 n, v] w fun e w' => e = .returned (.bool (clauseB n t)) ∧ w' = w := by
  have hl := h.1
  obtain ⟨a, cap, rfl, hc⟩ := h.opened
  unfold clauseB
  clear h
  by_cases h8 : t.length ≤ 8
  · rw [decide_eq_true h8, Bool.true_and]
    go_enter Try.func111, Try.ntmps111
    go_wp2_with fail
    go_loop [12] (fun i => ∃ j : Nat, j ≤ t.length ∧ i = .int .i64 j ∧ Hid ((t.take j).all (litB n) = true)) (fun i => t.length - (intOf i).toNat)
    case atStart => exact ⟨0, by omega, rfl, rfl⟩
    case round =>
      obtain ⟨j, hj, rfl, HA⟩ := hrel
      by_cases hlt : j < t.length
      · obtain ⟨x, hx⟩ : ∃ x, t[j]? = some x := ⟨t[j], List.getElem?_eq_getElem hlt⟩
        obtain ⟨b, off, rfl, hb, c0⟩ := hc j x hx
        have HX : Hid (t[j]? = some x) := hx
        have g := goodLit_any n x h0 h1 w
        clear hc hx
        cases hp : litB n x with
        | true =>
          have HN : Hid ((t.take (j + 1)).all (litB n) = true) := allTake HX.out HA.out hp
          rw [hp] at g
          clear hp
          go_wp2_with fail
          refine g.mono ?_
          rintro e w2 ⟨rfl, rfl⟩
          clear g
          go_wp2_with fail
          go_round
          case rel => exact ⟨j + 1, by omega, by go_num, HN⟩
          case measure => simp [intOf]; omega
        | false =>
          have HN : Hid (t.all (litB n) = false) := allNot HX.out hp
          rw [hp] at g
          clear hp
          go_wp2_with fail
          refine g.mono ?_
          rintro e w2 ⟨rfl, rfl⟩
          clear g
          go_wp2_with fail
          go_ret
          exact ⟨ret_bool HN.out.symm, rfl⟩
      · obtain rfl : j = t.length := by omega
        have HN : Hid (t.all (litB n) = true) := by
          have h1 := HA.out
          rw [List.take_length] at h1
          exact h1
        clear hc HA
        go_wp2_with fail
        go_ret
        exact ⟨ret_bool HN.out.symm, rfl⟩
  · rw [decide_eq_false h8, Bool.false_and]
    clear hc
    go_enter Try.func111, Try.ntmps111
    go_wp2_with fail
    go_ret
    exact ⟨rfl, rfl⟩
theorem litB_in (n x : Int) (hx : ¬ x = 0) : decide (-n ≤ x ∧ x ≤ n) = litB n x := by
  unfold litB
  by_cases h : -n ≤ x ∧ x ≤ n
  · rw [decide_eq_true h, decide_eq_true ⟨hx, h⟩]
  · rw [decide_eq_false h, decide_eq_false (fun q => h q.2)]
set_option maxRecDepth 100000 in
theorem sClause_any (v : Value) (t : List Int) (n : Int) (h0 : 0 ≤ n) (h1 : n ≤ 1000) (w : World) (h : IntsAt w v t) :
    Calls Try.prog 112 #[.int .i64 n, v] w fun e w' => e = .returned (.bool (clauseB n t)) ∧ w' = w := by
  have hl := h.1
  obtain ⟨a, cap, rfl, hc⟩ := h.opened
  unfold clauseB
  clear h
  by_cases h8 : t.length ≤ 8
  · rw [decide_eq_true h8, Bool.true_and]
    go_enter Try.func112, Try.ntmps112
    go_wp2_with fail
    go_loop [12] (fun i => ∃ j : Nat, j ≤ t.length ∧ i = .int .i64 j ∧ Hid ((t.take j).all (litB n) = true)) (fun i => t.length - (intOf i).toNat)
    case atStart => exact ⟨0, by omega, rfl, rfl⟩
    case round =>
      obtain ⟨j, hj, rfl, HA⟩ := hrel
      by_cases hlt : j < t.length
      · obtain ⟨x, hx⟩ : ∃ x, t[j]? = some x := ⟨t[j], List.getElem?_eq_getElem hlt⟩
        obtain ⟨b, off, rfl, hb, c0⟩ := hc j x hx
        have HX : Hid (t[j]? = some x) := hx
        clear hc hx
        by_cases hx0 : x = 0
        · subst hx0
          have HN : Hid (t.all (litB n) = false) := allNot HX.out (by unfold litB; simp)
          go_wp2_with fail
          go_ret
          exact ⟨ret_bool HN.out.symm, rfl⟩
        have e0 : (x == 0) = false := beq_eq_false_iff_ne.2 hx0
        have g := l1In_any x (-n) n w
        have eg := litB_in n x hx0
        rw [eg] at g
        clear eg hx0
        cases hp : litB n x with
        | true =>
          have HN : Hid ((t.take (j + 1)).all (litB n) = true) := allTake HX.out HA.out hp
          rw [hp] at g
          clear hp
          go_wp2_with fail
          refine g.mono ?_
          rintro e w2 ⟨rfl, rfl⟩
          clear g
          go_wp2_with fail
          go_round
          case rel => exact ⟨j + 1, by omega, by go_num, HN⟩
          case measure => simp [intOf]; omega
        | false =>
          have HN : Hid (t.all (litB n) = false) := allNot HX.out hp
          rw [hp] at g
          clear hp
          go_wp2_with fail
          refine g.mono ?_
          rintro e w2 ⟨rfl, rfl⟩
          clear g
          go_wp2_with fail
          go_ret
          exact ⟨ret_bool HN.out.symm, rfl⟩
      · obtain rfl : j = t.length := by omega
        have HN : Hid (t.all (litB n) = true) := by
          have h1 := HA.out
          rw [List.take_length] at h1
          exact h1
        clear hc HA
        go_wp2_with fail
        go_ret
        exact ⟨ret_bool HN.out.symm, rfl⟩
  · rw [decide_eq_false h8, Bool.false_and]
    clear hc
    go_enter Try.func112, Try.ntmps112
    go_wp2_with fail
    go_ret
    exact ⟨rfl, rfl⟩
set_option maxRecDepth 100000 in
set_option maxHeartbeats 1000000 in
theorem iGoodCnf_any (v : Value) (c : Cn) (w : World) (h : AtCnf w v c) :
    Calls Try.prog 46 #[v] w fun e w' => e = .returned (.bool (cnfB c)) ∧ Below w.heap.size w w' := by
  obtain ⟨⟨hf0, hf1⟩, s, rfl, h1⟩ := h
  have hlc := h1.1
  obtain ⟨sa, sc, rfl, hs⟩ := h1.opened
  obtain ⟨n, cs⟩ := c
  unfold cnfB
  simp only at *
  have HB0 : Hid (Below w.heap.size w (w.alloc (.cells #[.int .i64 n, .slice sa cs.length sc] 51))) := (Below.refl _ _).alloc (Nat.le_refl _) _
  by_cases hI : 0 ≤ n ∧ n ≤ 400
  · by_cases hC : cs.length ≤ 1400
    · rw [decide_eq_true ⟨hI.1, hI.2, hC⟩, Bool.true_and]
      have x0 := box2_alloc w 51 (.int .i64 n) (.slice sa cs.length sc)
      have HS : Hid (∀ (w1 : World), Below w.heap.size w w1 → ∀ (i : Nat) (t : List Int), cs[i]? = some t → ∃ b off : Nat, sa = some ⟨b, off, none⟩ ∧ ∃ u : Value, w1.cell? ⟨b, off + i, none⟩ = some u ∧ IntsAt w1 u t) := fun w1 hb i t ht => by
        obtain ⟨b, off, e, hlt, u, hu, hat⟩ := hs i t ht
        exact ⟨b, off, e, u, by rw [hb.cell (p := ⟨b, off + i, none⟩) hlt]; exact hu, hat.below hb⟩
      obtain ⟨hI0, hI1⟩ := hI
      clear h1 hs
      have hCc : ((cs.length : Int) > 1400) = False := by simp; omega
      go_enter Try.func46, Try.ntmps46
      go_wp2_with fail
      generalize w.alloc (.cells #[.int .i64 n, .slice sa cs.length sc] 51) = w0 at *
      obtain ⟨k0, k1⟩ := x0.cells
      have kh := x0.heap
      have kl := x0.lt
      clear x0
      go_loop [22] (fun i => ∃ j : Nat, j ≤ cs.length ∧ i = .int .i64 j ∧ Hid ((cs.take j).all (clauseB n) = true)) (fun i => cs.length - (intOf i).toNat)
      case atStart => exact ⟨0, by omega, rfl, rfl⟩
      case round =>
        obtain ⟨j, hj, rfl, HA⟩ := hrel
        by_cases hlt : j < cs.length
        · obtain ⟨t, ht⟩ : ∃ t, cs[j]? = some t := ⟨cs[j], List.getElem?_eq_getElem hlt⟩
          obtain ⟨b, off, rfl, u, hu, hat⟩ := HS.out w0 HB0.out j t ht
          have HE : Hid (cs[j]? = some t) := ht
          have g1 := iClause_any u t n hI0 (by omega) w0 hat
          obtain ⟨ua, uc, rfl⟩ := hat.shape
          clear ht HS hat
          cases hp : clauseB n t with
          | true =>
            rw [hp] at g1
            have HN : Hid ((cs.take (j + 1)).all (clauseB n) = true) := allTake HE.out HA.out hp
            clear hp HE HA
            go_wp2_with fail
            refine g1.mono ?_
            rintro e w2 ⟨rfl, rfl⟩
            clear g1
            go_wp2_with fail
            go_round
            case rel => exact ⟨j + 1, by omega, by go_num, HN⟩
            case measure => simp [intOf]; omega
          | false =>
            rw [hp] at g1
            have HN : Hid (cs.all (clauseB n) = false) := allNot HE.out hp
            clear hp HE HA
            go_wp2_with fail
            refine g1.mono ?_
            rintro e w2 ⟨rfl, rfl⟩
            clear g1
            go_wp2_with fail
            go_ret
            exact ⟨ret_bool HN.out.symm, HB0.out⟩
        · obtain rfl : j = cs.length := by omega
          have HN : Hid (cs.all (clauseB n) = true) := by
            have h1 := HA.out
            rw [List.take_length] at h1
            exact h1
          clear HA HS
          go_wp2_with fail
          go_ret
          exact ⟨ret_bool HN.out.symm, HB0.out⟩
    · rw [decide_eq_false (fun h => hC h.2.2), Bool.false_and]
      clear h1 hs
      obtain ⟨hI0, hI1⟩ := hI
      go_enter Try.func46, Try.ntmps46
      go_wp2_with fail
      go_ret
      exact ⟨rfl, HB0.out⟩
  · rw [decide_eq_false (fun h => hI ⟨h.1, h.2.1⟩), Bool.false_and]
    clear h1 hs
    by_cases hI0 : n < 0
    · go_enter Try.func46, Try.ntmps46
      go_wp2_with fail
      go_ret
      exact ⟨rfl, HB0.out⟩
    · have hI1 : 400 < n := by omega
      go_enter Try.func46, Try.ntmps46
      go_wp2_with fail
      go_ret
      exact ⟨rfl, HB0.out⟩
set_option maxRecDepth 100000 in
set_option maxHeartbeats 1000000 in
theorem sGoodCnf_any (v : Value) (c : Cn) (w : World) (h : AtCnf w v c) :
    Calls Try.prog 47 #[v] w fun e w' => e = .returned (.bool (cnfB c)) ∧ Below w.heap.size w w' := by
  obtain ⟨⟨hf0, hf1⟩, s, rfl, h1⟩ := h
  have hlc := h1.1
  obtain ⟨sa, sc, rfl, hs⟩ := h1.opened
  obtain ⟨n, cs⟩ := c
  unfold cnfB
  simp only at *
  have HB0 : Hid (Below w.heap.size w (w.alloc (.cells #[.int .i64 n, .slice sa cs.length sc] 51))) := (Below.refl _ _).alloc (Nat.le_refl _) _
  have g0 := l1In_any n 0 400 (w.alloc (.cells #[.int .i64 n, .slice sa cs.length sc] 51))
  by_cases hI : 0 ≤ n ∧ n ≤ 400
  · rw [decide_eq_true hI] at g0
    by_cases hC : cs.length ≤ 1400
    · rw [decide_eq_true ⟨hI.1, hI.2, hC⟩, Bool.true_and]
      have x0 := box2_alloc w 51 (.int .i64 n) (.slice sa cs.length sc)
      have HS : Hid (∀ (w1 : World), Below w.heap.size w w1 → ∀ (i : Nat) (t : List Int), cs[i]? = some t → ∃ b off : Nat, sa = some ⟨b, off, none⟩ ∧ ∃ u : Value, w1.cell? ⟨b, off + i, none⟩ = some u ∧ IntsAt w1 u t) := fun w1 hb i t ht => by
        obtain ⟨b, off, e, hlt, u, hu, hat⟩ := hs i t ht
        exact ⟨b, off, e, u, by rw [hb.cell (p := ⟨b, off + i, none⟩) hlt]; exact hu, hat.below hb⟩
      obtain ⟨hI0, hI1⟩ := hI
      clear h1 hs
      have hCc : ((cs.length : Int) > 1400) = False := by simp; omega
      go_enter Try.func47, Try.ntmps47
      go_wp2_with fail
      refine g0.mono ?_
      rintro e w1 ⟨rfl, hw1⟩
      clear g0
      subst hw1
      generalize w.alloc (.cells #[.int .i64 n, .slice sa cs.length sc] 51) = w0 at *
      obtain ⟨k0, k1⟩ := x0.cells
      have kh := x0.heap
      have kl := x0.lt
      clear x0
      go_wp2_with fail
      go_loop [18] (fun i => ∃ j : Nat, j ≤ cs.length ∧ i = .int .i64 j ∧ Hid ((cs.take j).all (clauseB n) = true)) (fun i => cs.length - (intOf i).toNat)
      case atStart => exact ⟨0, by omega, rfl, rfl⟩
      case round =>
        obtain ⟨j, hj, rfl, HA⟩ := hrel
        by_cases hlt : j < cs.length
        · obtain ⟨t, ht⟩ : ∃ t, cs[j]? = some t := ⟨cs[j], List.getElem?_eq_getElem hlt⟩
          obtain ⟨b, off, rfl, u, hu, hat⟩ := HS.out w0 HB0.out j t ht
          have HE : Hid (cs[j]? = some t) := ht
          have g1 := sClause_any u t n hI0 (by omega) w0 hat
          obtain ⟨ua, uc, rfl⟩ := hat.shape
          clear ht HS hat
          cases hp : clauseB n t with
          | true =>
            rw [hp] at g1
            have HN : Hid ((cs.take (j + 1)).all (clauseB n) = true) := allTake HE.out HA.out hp
            clear hp HE HA
            go_wp2_with fail
            refine g1.mono ?_
            rintro e w2 ⟨rfl, rfl⟩
            clear g1
            go_wp2_with fail
            go_round
            case rel => exact ⟨j + 1, by omega, by go_num, HN⟩
            case measure => simp [intOf]; omega
          | false =>
            rw [hp] at g1
            have HN : Hid (cs.all (clauseB n) = false) := allNot HE.out hp
            clear hp HE HA
            go_wp2_with fail
            refine g1.mono ?_
            rintro e w2 ⟨rfl, rfl⟩
            clear g1
            go_wp2_with fail
            go_ret
            exact ⟨ret_bool HN.out.symm, HB0.out⟩
        · obtain rfl : j = cs.length := by omega
          have HN : Hid (cs.all (clauseB n) = true) := by
            have h1 := HA.out
            rw [List.take_length] at h1
            exact h1
          clear HA HS
          go_wp2_with fail
          go_ret
          exact ⟨ret_bool HN.out.symm, HB0.out⟩
    · rw [decide_eq_false (fun h => hC h.2.2), Bool.false_and]
      clear h1 hs
      obtain ⟨hI0, hI1⟩ := hI
      go_enter Try.func47, Try.ntmps47
      go_wp2_with fail
      refine g0.mono ?_
      rintro e w1 ⟨rfl, rfl⟩
      clear g0
      go_wp2_with fail
      go_ret
      exact ⟨rfl, HB0.out⟩
  · rw [decide_eq_false hI] at g0
    rw [decide_eq_false (fun h => hI ⟨h.1, h.2.1⟩), Bool.false_and]
    clear h1 hs
    go_enter Try.func47, Try.ntmps47
    go_wp2_with fail
    refine g0.mono ?_
    rintro e w1 ⟨rfl, rfl⟩
    clear g0
    go_wp2_with fail
    go_ret
    exact ⟨rfl, HB0.out⟩
end Go.Proofs.Ytmjeaceabjinfaa
