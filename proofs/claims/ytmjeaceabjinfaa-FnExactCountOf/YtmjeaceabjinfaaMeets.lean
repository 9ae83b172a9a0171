/-
  When values meet a set of clauses: the model's and the program's Meets.
-/
import Derived.Test.YtmjeaceabjinfaaGoodCnf
import Derived.Test.YtmjeaceabjinfaaDo
import Derived.Test.YtmjeaceabjinfaaBoolS
namespace Go.Proofs.Ytmjeaceabjinfaa
open Go Go.RowKit
open M
set_option linter.unusedVariables false

def litMet (vals : List Bool) (x : Int) : Bool := vals.getD (x.natAbs - 1) false == decide (0 < x)
def meetB (c : Cn) (vals : List Bool) : Bool := c.2.all (fun t => t.any (litMet vals))
def meetsOk (c : Cn) (vals : List Bool) : Bool := cnfB c && decide ((vals.length : Int) = c.1)
def meetsR (c : Cn) (vals : List Bool) : Bool := meetsOk c vals && meetB c vals
def signsL (vals : List Bool) : List Int := 0 :: vals.map (fun b => if b = true then 1 else -1)
def signV (S : List Int) (x : Int) : Int := if x < 0 then -(S.getD (-x).toNat 0) else S.getD x.toNat 0
theorem sign_met (vals : List Bool) (x : Int) (h0 : x ≠ 0) (h1 : x.natAbs ≤ vals.length) : (signV (signsL vals) x == 1) = litMet vals x := by
  obtain ⟨k, hk⟩ : ∃ k, x.natAbs = k + 1 := ⟨x.natAbs - 1, by omega⟩
  unfold signV litMet signsL
  have hkl : k < vals.length := by omega
  have e1 : ((0 : Int) :: vals.map (fun b => if b = true then 1 else -1)).getD (k + 1) 0 = if vals.getD k false = true then 1 else -1 := by
    simp [List.getD_eq_getElem?_getD, hkl]
  rw [hk, Nat.add_sub_cancel]
  by_cases hx : x < 0
  · have e2 : (-x).toNat = k + 1 := by omega
    rw [if_pos hx, e2, e1, decide_eq_false (by omega)]
    cases vals.getD k false <;> rfl
  · have e2 : x.toNat = k + 1 := by omega
    rw [if_neg hx, e2, e1, decide_eq_true (by omega)]
    cases vals.getD k false <;> rfl
theorem signs_len (vals : List Bool) : (signsL vals).length = vals.length + 1 := by simp [signsL]
theorem signs_in (vals : List Bool) : ∀ s ∈ signsL vals, -1 ≤ s ∧ s ≤ 1 := by
  intro s hs
  unfold signsL at hs
  simp only [List.mem_cons, List.mem_map] at hs
  rcases hs with rfl | ⟨b, _, rfl⟩
  · omega
  · cases b <;> simp
theorem signs_set (vals : List Bool) (j : Nat) (b : Bool) (hb : vals[j]? = some b) : (cellsI (signsL (vals.take j) ++ List.replicate (vals.length - j) 0)).set (j + 1) (.int .i64 (if b = true then 1 else -1)) = cellsI (signsL (vals.take (j + 1)) ++ List.replicate (vals.length - (j + 1)) 0) := by
  have hj : j < vals.length := (List.getElem?_eq_some_iff.1 hb).1
  have e : vals.take (j + 1) = vals.take j ++ [b] := by
    rw [List.take_add_one, hb]
    rfl
  have hl : (signsL (vals.take j)).length = j + 1 := by rw [signs_len, List.length_take_of_le (by omega)]
  obtain ⟨m, hm⟩ : ∃ m, vals.length - j = m + 1 := ⟨vals.length - j - 1, by omega⟩
  have hm' : vals.length - (j + 1) = m := by omega
  have e3 : signsL (vals.take j ++ [b]) = signsL (vals.take j) ++ [if b = true then 1 else -1] := by simp [signsL]
  unfold cellsI
  rw [e, hm, hm', List.replicate_succ, e3, List.append_assoc, List.map_append, List.set_append_right _ _ (by rw [List.length_map]; omega), List.length_map, hl, Nat.sub_self, List.map_append]
  rfl
theorem litB_in2 {n x : Int} (h : litB n x = true) : x ≠ 0 ∧ -n ≤ x ∧ x ≤ n := by
  unfold litB at h
  exact of_decide_eq_true h
theorem clause_lits {n : Int} {t : List Int} (h : clauseB n t = true) : ∀ x ∈ t, x ≠ 0 ∧ -n ≤ x ∧ x ≤ n := by
  unfold clauseB at h
  rw [Bool.and_eq_true] at h
  exact fun x hx => litB_in2 (List.all_eq_true.1 h.2 x hx)
theorem cnf_parts {c : Cn} (h : cnfB c = true) : 0 ≤ c.1 ∧ c.1 ≤ 400 ∧ c.2.length ≤ 1400 ∧ ∀ t ∈ c.2, t.length ≤ 8 ∧ ∀ x ∈ t, x ≠ 0 ∧ -c.1 ≤ x ∧ x ≤ c.1 := by
  unfold cnfB at h
  rw [Bool.and_eq_true] at h
  obtain ⟨h1, h2⟩ := h
  obtain ⟨a, b, c'⟩ := of_decide_eq_true h1
  refine ⟨a, b, c', fun t ht => ?_⟩
  have h3 := List.all_eq_true.1 h2 t ht
  refine ⟨?_, clause_lits h3⟩
  unfold clauseB at h3
  rw [Bool.and_eq_true] at h3
  exact of_decide_eq_true h3.1
theorem anyTake {α : Type} {p : α → Bool} {l : List α} {j : Nat} {x : α} (hx : l[j]? = some x) : (l.take (j + 1)).any p = ((l.take j).any p || p x) := by
  rw [List.take_add_one, hx, List.any_append]
  simp
theorem anyHit {α : Type} {p : α → Bool} {l : List α} {j : Nat} {x : α} (hx : l[j]? = some x) (hp : p x = true) : l.any p = true := List.any_eq_true.2 ⟨x, List.mem_of_getElem? hx, hp⟩
theorem namedBy_any (x : Int) (h0 : -1000 ≤ x) (h1 : x ≤ 1000) (w : World) :
    Calls Try.prog 155 #[.int .i64 x] w fun e w' => e = .returned (.int .i64 (x.natAbs : Int)) ∧ w' = w := by
  by_cases hx : 0 ≤ x
  · have e : (x.natAbs : Int) = x := by omega
    rw [e]
    clear e
    go_enter Try.func155, Try.ntmps155
    go_wp2_with fail
    go_ret
    exact ⟨by first | rfl | (congr 2; omega), rfl⟩
  · have e : (x.natAbs : Int) = -x := by omega
    rw [e]
    clear e
    go_enter Try.func155, Try.ntmps155
    go_wp2_with fail
    go_ret
    exact ⟨by first | rfl | (congr 2; omega), rfl⟩
set_option maxRecDepth 100000 in
theorem clauseMet_any (v bv : Value) (t : List Int) (vals : List Bool) (n : Int) (hn : (vals.length : Int) = n) (h1 : n ≤ 1000) (hx : ∀ x ∈ t, x ≠ 0 ∧ -n ≤ x ∧ x ≤ n) (w : World) (h : IntsAt w v t) (hb : BoolsAt w bv vals) :
    Calls Try.prog 153 #[v, bv] w fun e w' => e = .returned (.bool (t.any (litMet vals))) ∧ w' = w := by
  have hl := h.1
  obtain ⟨a, cap, rfl, hc⟩ := h.opened
  obtain ⟨a2, cap2, rfl, hc2⟩ := hb.opened
  clear h hb
  have HC2 : Hid _ := hc2
  have HX : Hid _ := hx
  clear hc2 hx
  subst hn
  generalize hvl : vals.length = vl at *
  have HVL : Hid (vals.length = vl) := hvl
  clear hvl
  go_enter Try.func153, Try.ntmps153
  go_wp2_with fail
  go_loop [9] (fun i => ∃ j : Nat, j ≤ t.length ∧ i = .int .i64 j ∧ Hid ((t.take j).any (litMet vals) = false)) (fun i => t.length - (intOf i).toNat)
  case atStart => exact ⟨0, by omega, rfl, rfl⟩
  case round =>
    obtain ⟨j, hj, rfl, HA⟩ := hrel
    by_cases hlt : j < t.length
    · obtain ⟨x, hx⟩ : ∃ x, t[j]? = some x := ⟨t[j], List.getElem?_eq_getElem hlt⟩
      obtain ⟨b, off, rfl, hb, c0⟩ := hc j x hx
      have HE : Hid (t[j]? = some x) := hx
      obtain ⟨hx0, hx1, hx2⟩ := HX.out x (List.mem_of_getElem? hx)
      obtain ⟨k, hk⟩ : ∃ k, x.natAbs = k + 1 := ⟨x.natAbs - 1, by omega⟩
      have g := namedBy_any x (by omega) (by omega) w
      have hkl : k < vl := by omega
      obtain ⟨B, hB⟩ : ∃ B, vals[k]? = some B := ⟨vals[k]'(by have := HVL.out; omega), List.getElem?_eq_getElem (by have := HVL.out; omega)⟩
      obtain ⟨b2, off2, rfl, hb2, c2⟩ := HC2.out k B hB
      have hM : litMet vals x = (B == decide (0 < x)) := by
        unfold litMet
        rw [hk, Nat.add_sub_cancel, List.getD_eq_getElem?_getD, hB]
        rfl
      have hkn : ((k + 1 : Nat) : Int) = (k : Int) + 1 := by omega
      rw [hk, hkn] at g
      have HM : Hid (litMet vals x = (B == decide (0 < x))) := hM
      clear hc hx HC2 HX hB hM hkn
      by_cases hpos : 0 < x
      · have hdp : decide (0 < x) = true := decide_eq_true hpos
        cases B with
        | true =>
          have HN : Hid (t.any (litMet vals) = true) := anyHit HE.out (by rw [HM.out, decide_eq_true hpos]; rfl)
          go_wp2_with fail
          refine g.mono ?_
          rintro e w2 ⟨rfl, rfl⟩
          clear g
          go_wp2_with fail
          go_ret
          exact ⟨ret_bool HN.out.symm, rfl⟩
        | false =>
          have HN : Hid ((t.take (j + 1)).any (litMet vals) = false) := by
            show (t.take (j + 1)).any (litMet vals) = false
            rw [anyTake HE.out, HA.out, HM.out, decide_eq_true hpos]
            rfl
          go_wp2_with fail
          refine g.mono ?_
          rintro e w2 ⟨rfl, rfl⟩
          clear g
          go_wp2_with fail
          go_round
          case rel => exact ⟨j + 1, by omega, by go_num, HN⟩
          case measure => simp [intOf]; omega
      · have hdp : decide (0 < x) = false := decide_eq_false hpos
        cases B with
        | false =>
          have HN : Hid (t.any (litMet vals) = true) := anyHit HE.out (by rw [HM.out, decide_eq_false hpos]; rfl)
          go_wp2_with fail
          refine g.mono ?_
          rintro e w2 ⟨rfl, rfl⟩
          clear g
          go_wp2_with fail
          go_ret
          exact ⟨ret_bool HN.out.symm, rfl⟩
        | true =>
          have HN : Hid ((t.take (j + 1)).any (litMet vals) = false) := by
            show (t.take (j + 1)).any (litMet vals) = false
            rw [anyTake HE.out, HA.out, HM.out, decide_eq_false hpos]
            rfl
          go_wp2_with fail
          refine g.mono ?_
          rintro e w2 ⟨rfl, rfl⟩
          clear g
          go_wp2_with fail
          go_round
          case rel => exact ⟨j + 1, by omega, by go_num, HN⟩
          case measure => simp [intOf]; omega
    · obtain rfl : j = t.length := by omega
      have HN : Hid (t.any (litMet vals) = false) := by
        have h1 := HA.out
        rw [List.take_length] at h1
        exact h1
      clear hc HA HX HC2
      go_wp2_with fail
      go_ret
      exact ⟨ret_bool HN.out.symm, rfl⟩
/-- where the lists of a set of clauses lie -/
theorem cnf_lists {w : World} {sa : Option Addr} {sc : Nat} {cs : List (List Int)} (hs : ∀ (i : Nat) (t : List Int), cs[i]? = some t → ∃ b off : Nat, sa = some ⟨b, off, none⟩ ∧ b < w.heap.size ∧ ∃ u : Value, w.cell? ⟨b, off + i, none⟩ = some u ∧ IntsAt w u t) :
    ∀ (w1 : World), Below w.heap.size w w1 → ∀ (i : Nat) (t : List Int), cs[i]? = some t → ∃ b off : Nat, sa = some ⟨b, off, none⟩ ∧ ∃ u : Value, w1.cell? ⟨b, off + i, none⟩ = some u ∧ IntsAt w1 u t := fun w1 hb i t ht => by
  obtain ⟨b, off, e, hlt, u, hu, hat⟩ := hs i t ht
  exact ⟨b, off, e, u, by rw [hb.cell (p := ⟨b, off + i, none⟩) hlt]; exact hu, hat.below hb⟩
set_option maxRecDepth 100000 in
theorem met_any (v bv : Value) (c : Cn) (vals : List Bool) (hg : cnfB c = true) (hn : (vals.length : Int) = c.1) (w : World) (h : AtCnf w v c) (hb : BoolsAt w bv vals) :
    Calls Try.prog 106 #[v, bv] w fun e w' => e = .returned (.bool (meetB c vals)) ∧ Below w.heap.size w w' := by
  obtain ⟨p0, p1, p2, p3⟩ := cnf_parts hg
  obtain ⟨_, s, rfl, h1⟩ := h
  obtain ⟨sa, sc, rfl, hs⟩ := h1.opened
  obtain ⟨n, cs⟩ := c
  unfold meetB
  simp only at *
  have HB0 : Hid (Below w.heap.size w (w.alloc (.cells #[.int .i64 n, .slice sa cs.length sc] 51))) := (Below.refl _ _).alloc (Nat.le_refl _) _
  have x0 := box2_alloc w 51 (.int .i64 n) (.slice sa cs.length sc)
  have HS : Hid _ := cnf_lists (sc := sc) hs
  have HG : Hid (∀ (u : Value) (t : List Int), t ∈ cs → IntsAt (w.alloc (.cells #[.int .i64 n, .slice sa cs.length sc] 51)) u t → Calls Try.prog 153 #[u, bv] (w.alloc (.cells #[.int .i64 n, .slice sa cs.length sc] 51)) fun e w' => e = .returned (.bool (t.any (litMet vals))) ∧ w' = w.alloc (.cells #[.int .i64 n, .slice sa cs.length sc] 51)) := fun u t ht hat => clauseMet_any u bv t vals n hn (by omega) (p3 t ht).2 _ hat (hb.below HB0.out)
  obtain ⟨ba, bc, rfl⟩ := hb.shape
  clear h1 hs p3 hb hn
  generalize vals.length = vl at *
  go_enter Try.func106, Try.ntmps106
  go_wp2_with fail
  generalize w.alloc (.cells #[.int .i64 n, .slice sa cs.length sc] 51) = w0 at *
  obtain ⟨k0, k1⟩ := x0.cells
  have kh := x0.heap
  have kl := x0.lt
  clear x0
  go_loop [10] (fun i => ∃ j : Nat, j ≤ cs.length ∧ i = .int .i64 j ∧ Hid ((cs.take j).all (fun t => t.any (litMet vals)) = true)) (fun i => cs.length - (intOf i).toNat)
  case atStart => exact ⟨0, by omega, rfl, rfl⟩
  case round =>
    obtain ⟨j, hj, rfl, HA⟩ := hrel
    by_cases hlt : j < cs.length
    · obtain ⟨t, ht⟩ : ∃ t, cs[j]? = some t := ⟨cs[j], List.getElem?_eq_getElem hlt⟩
      obtain ⟨b, off, rfl, u, hu, hat⟩ := HS.out w0 HB0.out j t ht
      have HE : Hid (cs[j]? = some t) := ht
      have g1 := HG.out u t (List.mem_of_getElem? ht) hat
      obtain ⟨ua, uc, rfl⟩ := hat.shape
      clear ht HS hat HG
      cases hp : t.any (litMet vals) with
      | true =>
        rw [hp] at g1
        have HN : Hid ((cs.take (j + 1)).all (fun t => t.any (litMet vals)) = true) := allTake HE.out HA.out hp
        clear hp HE HA
        go_wp2_with fail
        refine g1.mono ?_
        rintro e w2 ⟨rfl, rfl⟩
        clear g1
        go_wp2_with fail
        go_round
        case rel => exact ⟨j + 1, by omega, by go_num, HN⟩
        case measure => simp [intOf]; omega
      | false =>
        rw [hp] at g1
        have HN : Hid (cs.all (fun t => t.any (litMet vals)) = false) := allNot HE.out hp
        clear hp HE HA
        go_wp2_with fail
        refine g1.mono ?_
        rintro e w2 ⟨rfl, rfl⟩
        clear g1
        go_wp2_with fail
        go_ret
        exact ⟨ret_bool HN.out.symm, HB0.out⟩
    · obtain rfl : j = cs.length := by omega
      have HN : Hid (cs.all (fun t => t.any (litMet vals)) = true) := by
        have h1 := HA.out
        rw [List.take_length] at h1
        exact h1
      clear HA HS HG
      go_wp2_with fail
      go_ret
      exact ⟨ret_bool HN.out.symm, HB0.out⟩
set_option maxRecDepth 100000 in
theorem iMeets_any (v bv : Value) (c : Cn) (vals : List Bool) (w : World) (h : AtCnf w v c) (hb : BoolsAt w bv vals) :
    Calls Try.prog 41 #[v, bv] w fun e w' => e = .returned (.tuple #[.bool (meetsR c vals), .bool (meetsOk c vals)]) ∧ Below w.heap.size w w' := by
  have HG : Hid (∀ w1 : World, Below w.heap.size w w1 → Calls Try.prog 46 #[v] w1 fun e w' => e = .returned (.bool (cnfB c)) ∧ Below w1.heap.size w1 w') := fun w1 hb' => iGoodCnf_any v c w1 (h.below hb')
  have HM : Hid (cnfB c = true → (vals.length : Int) = c.1 → ∀ w1 : World, Below w.heap.size w w1 → Calls Try.prog 106 #[v, bv] w1 fun e w' => e = .returned (.bool (meetB c vals)) ∧ Below w1.heap.size w1 w') := fun h1 h2 w1 hb' => met_any v bv c vals h1 h2 w1 (h.below hb') (hb.below hb')
  obtain ⟨sa, sn, sc, rfl⟩ := h.shape
  have hbl := hb.1
  obtain ⟨ba, bc, rfl⟩ := hb.shape
  obtain ⟨⟨hf0, hf1⟩, _⟩ := h
  unfold meetsR meetsOk
  clear hb
  have HB0 : Hid (Below w.heap.size w (w.alloc (.cells #[.int .i64 c.1, .slice sa sn sc] 51))) := (Below.refl _ _).alloc (Nat.le_refl _) _
  have x0 := box2_alloc w 51 (.int .i64 c.1) (.slice sa sn sc)
  have HX : Hid _ := x0
  generalize vals.length = vl at *
  generalize c.1 = n at *
  generalize meetB c vals = M at *
  cases hg : cnfB c with
  | false =>
    rw [hg] at HG
    rw [Bool.false_and, Bool.false_and]
    clear HM hg
    go_enter Try.func41, Try.ntmps41
    go_wp2_with fail
    refine (HG.out _ HB0.out).mono ?_
    rintro e w1 ⟨rfl, hs⟩
    have HB1 : Hid (Below w.heap.size w w1) := Below.step HB0.out HB0.out.size hs
    clear hs
    go_wp2_with fail
    go_ret2
    exact ⟨rfl, HB1.out⟩
  | true =>
    rw [hg] at HG
    rw [Bool.true_and]
    have HM2 := HM.out hg
    clear HM hg
    by_cases hl : (vl : Int) = n
    · have HM3 : Hid _ := HM2 hl
      rw [decide_eq_true hl, Bool.true_and]
      clear HM2
      go_enter Try.func41, Try.ntmps41
      go_wp2_with fail
      refine (HG.out _ HB0.out).mono ?_
      generalize w.alloc (.cells #[.int .i64 n, .slice sa sn sc] 51) = w0 at *
      rintro e w1 ⟨rfl, hs⟩
      have x1 := HX.out.below hs HX.out.lt
      obtain ⟨k0, k1⟩ := x1.cells
      have kh := x1.heap
      have kl := x1.lt
      have HB1 : Hid (Below w.heap.size w w1) := Below.step HB0.out HB0.out.size hs
      have hln : ((vl : Int) != n) = false := by simp [hl]
      clear hs x1 x0
      go_wp2_with fail
      refine (HM3.out _ HB1.out).mono ?_
      rintro e w2 ⟨rfl, hs2⟩
      have HB2 : Hid (Below w.heap.size w w2) := Below.step HB1.out HB1.out.size hs2
      clear hs2
      go_wp2_with fail
      go_ret2
      exact ⟨rfl, HB2.out⟩
    · rw [decide_eq_false hl, Bool.false_and]
      clear HM2
      go_enter Try.func41, Try.ntmps41
      go_wp2_with fail
      refine (HG.out _ HB0.out).mono ?_
      generalize w.alloc (.cells #[.int .i64 n, .slice sa sn sc] 51) = w0 at *
      rintro e w1 ⟨rfl, hs⟩
      have x1 := HX.out.below hs HX.out.lt
      obtain ⟨k0, k1⟩ := x1.cells
      have kh := x1.heap
      have kl := x1.lt
      have HB1 : Hid (Below w.heap.size w w1) := Below.step HB0.out HB0.out.size hs
      have hln : ((vl : Int) != n) = true := by simp [hl]
      clear hs x1 x0
      go_wp2_with fail
      go_ret2
      exact ⟨rfl, HB1.out⟩
end Go.Proofs.Ytmjeaceabjinfaa
