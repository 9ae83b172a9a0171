/-
  The kind of a term: the model's l2N and l2Kind.
-/
import Derived.Test.YtmhpnkfibecnmaaDoorNeed
import Derived.WalkSmall

namespace Go.Proofs.YtmhpnkfibecnmaaDoor
open Go Go.RowKit
open M
set_option linter.unusedVariables false

/-- numbers that fit -/
def NdOk (x : Nd) : Prop := -9223372036854775808 ≤ x.1 ∧ x.1 ≤ 9223372036854775807 ∧ 0 ≤ x.2 ∧ x.2 ≤ 18446744073709551615
/-- a slice whose elements are these nodes -/
def NodesAt (w : World) (v : Value) (t : List Nd) : Prop :=
  (∀ x ∈ t, NdOk x) ∧ t.length ≤ 9223372036854775807 ∧ ((t = [] ∧ ∃ (a : Option Addr) (cap : Nat), v = .slice a 0 cap) ∨
  ∃ b off cap : Nat, v = .slice (some ⟨b, off, none⟩) t.length cap ∧ b < w.heap.size ∧ ∀ (i : Nat) (x : Nd), t[i]? = some x → w.cell? ⟨b, off + i * 2, none⟩ = some (.int .i64 x.1) ∧ w.cell? ⟨b, off + i * 2 + 1, none⟩ = some (.int .u64 x.2))
theorem NodesAt.below {w w' : World} {v : Value} {t : List Nd} (h : NodesAt w v t) (hb : Below w.heap.size w w') : NodesAt w' v t := by
  obtain ⟨h1, h2, h3⟩ := h
  refine ⟨h1, h2, ?_⟩
  rcases h3 with h | ⟨b, off, cap, hv, hlt, hc⟩
  · exact Or.inl h
  · refine Or.inr ⟨b, off, cap, hv, Nat.lt_of_lt_of_le hlt hb.size, fun i x hx => ?_⟩
    rw [hb.cell (p := ⟨b, off + i * 2, none⟩) hlt, hb.cell (p := ⟨b, off + i * 2 + 1, none⟩) hlt]
    exact hc i x hx
theorem owns_below {w w' : World} {base : Nat} {e : TypeId} {size : Nat} {v : Value} {n : Nat} {xs : List Value} (h : w.ownsRow base e size v n xs) (hb : Below w.heap.size w w') : w'.ownsRow base e size v n xs := by
  obtain ⟨h1, h2⟩ := h
  refine ⟨h1, ?_⟩
  rcases h2 with h2 | ⟨g, cap, cur, hv, hg, hh, r⟩
  · exact Or.inl h2
  · have hlt : g < w.heap.size := by
      by_cases hg' : g < w.heap.size
      · exact hg'
      · rw [Array.getElem?_eq_none (by omega)] at hh
        cases hh
    exact Or.inr ⟨g, cap, cur, hv, hg, by rw [hb.block g hlt]; exact hh, r⟩

set_option maxHeartbeats 1000000 in
theorem l2N_any (wide vars op n : Int) (hv0 : 0 ≤ vars) (hv1 : vars ≤ 9223372036854775807) (h0 : 0 ≤ n) (h1 : n ≤ 18446744073709551615) (w : World) :
    Calls Tryd.prog 131 #[.int .i64 wide, .int .i64 vars, .agg #[.int .i64 op, .int .u64 n]] w fun e w' => e = .returned (.bool (okN wide vars op n)) ∧ Below w.heap.size w w' := by
  unfold okN
  have hb : Below w.heap.size w (w.alloc (.cells #[.int .i64 op, .int .u64 n] 159)) := (Below.refl _ _).alloc (Nat.le_refl _) _
  by_cases c1 : op = 1
  · rw [if_pos c1]
    subst c1
    have g := sGoodWord_any wide n h0 h1 (w.alloc (.cells #[.int .i64 1, .int .u64 n] 159))
    generalize goodB wide n = z at *
    have HB : Hid (Below w.heap.size w (w.alloc (.cells #[.int .i64 1, .int .u64 n] 159))) := hb
    clear hb
    go_enter Tryd.func131, Tryd.ntmps131
    go_wp2_with fail
    refine g.mono ?_
    rintro e w' ⟨rfl, rfl⟩
    clear g
    go_wp2_with fail
    go_ret
    exact ⟨rfl, HB.out⟩
  · rw [if_neg c1]
    have e1 : (op == 1) = false := beq_eq_false_iff_ne.2 c1
    have HB : Hid (Below w.heap.size w (w.alloc (.cells #[.int .i64 op, .int .u64 n] 159))) := hb
    clear hb
    by_cases c2 : op = 2
    · rw [if_pos c2]
      subst c2
      go_enter Tryd.func131, Tryd.ntmps131
      go_wp2_with fail
      go_ret
      exact ⟨rfl, HB.out⟩
    · rw [if_neg c2]
      have e2 : (op == 2) = false := beq_eq_false_iff_ne.2 c2
      by_cases c3 : op = 20
      · rw [if_pos c3]
        subst c3
        go_enter Tryd.func131, Tryd.ntmps131
        go_wp2_with fail
        go_ret
        exact ⟨rfl, HB.out⟩
      · rw [if_neg c3]
        have e3 : (op == 20) = false := beq_eq_false_iff_ne.2 c3
        clear c1 c2 c3
        go_enter Tryd.func131, Tryd.ntmps131
        go_wp2_with fail
        go_ret
        exact ⟨rfl, HB.out⟩

theorem infoInt : (Tryd.prog.info? 3).map (fun i => (i.zero, i.size, i.bytes)) = some (some (.int .i64 0), 1, 8) := by kernel_rfl
theorem foldK_take {wide vars : Int} {t : List Nd} {j : Nat} {x : Nd} {p : List Int} (hx : t[j]? = some x) (h : foldK wide vars (t.take j) [] = some p) :
    foldK wide vars (t.take (j + 1)) [] = stepK wide vars p x := by
  have hj : j < t.length := (List.getElem?_eq_some_iff.1 hx).1
  have e : t.take (j + 1) = t.take j ++ [x] := by
    rw [List.take_add_one, hx]
    rfl
  rw [e, foldK_append, h]
  simp only [Option.bind_some, foldK]
  cases stepK wide vars p x <;> rfl
theorem foldK_none {wide vars : Int} {t : List Nd} {j : Nat} (h : foldK wide vars (t.take j) [] = none) : foldK wide vars t [] = none := by
  have e : t = t.take j ++ t.drop j := (List.take_append_drop j t).symm
  rw [e, foldK_append, h]
  rfl
theorem kind_none {wide vars : Int} {t : List Nd} (h : foldK wide vars t [] = none) : kindL wide vars t = 0 := by
  unfold kindL
  rw [h]
  split <;> rfl
theorem kind_out {wide vars : Int} {t : List Nd} (h : ¬ (wideB wide = true ∧ 1 ≤ vars ∧ vars ≤ 4 ∧ 1 ≤ t.length ∧ t.length ≤ 48)) : kindL wide vars t = 0 := by
  unfold kindL
  rw [if_neg h]

/-- a term that is out of the bounds has no kind -/
theorem l2Kind_out (wide vars : Int) (a : Option Addr) (len cap : Nat) (hlen : len ≤ 9223372036854775807) (h : ¬ (wideB wide = true ∧ 1 ≤ vars ∧ vars ≤ 4 ∧ 1 ≤ len ∧ len ≤ 48)) (w : World) :
    Calls Tryd.prog 107 #[.int .i64 wide, .int .i64 vars, .slice a len cap] w fun e w' => e = .returned (.int .i64 0) ∧ w' = w := by
  have g1 := l1Wide_any wide w
  cases hw : wideB wide with
  | false =>
    rw [hw] at g1
    clear hw h
    go_enter Tryd.func107, Tryd.ntmps107
    go_wp2_with fail
    refine g1.mono ?_
    rintro e w' ⟨rfl, rfl⟩
    clear g1
    go_wp2_with fail
    go_ret
    exact ⟨rfl, rfl⟩
  | true =>
    rw [hw] at g1
    by_cases hv : 1 ≤ vars ∧ vars ≤ 4
    · have g2 := l1In_yes vars 1 4 hv w
      have g3 := l1In_no len 1 48 (by intro hh; exact h ⟨hw, hv.1, hv.2, by omega, by omega⟩) w
      clear hw h hv
      go_enter Tryd.func107, Tryd.ntmps107
      go_wp2_with fail
      refine g1.mono ?_
      rintro e w' ⟨rfl, rfl⟩
      clear g1
      go_wp2_with fail
      refine g2.mono ?_
      rintro e w' ⟨rfl, rfl⟩
      clear g2
      go_wp2_with fail
      refine g3.mono ?_
      rintro e w' ⟨rfl, rfl⟩
      clear g3
      go_wp2_with fail
      go_ret
      exact ⟨rfl, rfl⟩
    · have g2 := l1In_no vars 1 4 hv w
      clear hw h hv
      go_enter Tryd.func107, Tryd.ntmps107
      go_wp2_with fail
      refine g1.mono ?_
      rintro e w' ⟨rfl, rfl⟩
      clear g1
      go_wp2_with fail
      refine g2.mono ?_
      rintro e w' ⟨rfl, rfl⟩
      clear g2
      go_wp2_with fail
      go_ret
      exact ⟨rfl, rfl⟩
theorem popN_eq (r : Nat) (q : Int) (y : List Int) : popN (r + 1) q (y ++ [q]) = popN r q y := by
  simp [popN]
theorem popN_ne {r : Nat} {q z : Int} {y : List Int} (h : z ≠ q) : popN (r + 1) q (y ++ [z]) = none := by
  simp [popN, h]
theorem step_own {wide vars op n : Int} {p : List Int} (h : ownOf op = 0) : stepK wide vars p (op, n) = none := by
  unfold stepK
  rw [if_pos (Or.inl h)]
theorem step_num {wide vars op n : Int} {p : List Int} (h : okN wide vars op n = false) : stepK wide vars p (op, n) = none := by
  unfold stepK
  rw [if_pos (Or.inr (Or.inl h))]
theorem step_few {wide vars op n : Int} {p : List Int} (h : p.length < manyOf op) : stepK wide vars p (op, n) = none := by
  unfold stepK
  rw [if_pos (Or.inr (Or.inr h))]
theorem step_pop {wide vars op n : Int} {p : List Int} (h1 : ¬ ownOf op = 0) (h2 : okN wide vars op n = true) (h3 : ¬ p.length < manyOf op) : stepK wide vars p (op, n) = (popN (manyOf op) (partOf op) p).map (· ++ [ownOf op]) := by
  unfold stepK
  rw [if_neg]
  rintro (h | h | h)
  · exact h1 h
  · rw [h2] at h
    cases h
  · exact h3 h
theorem kind_stop {wide vars : Int} {t : List Nd} {j : Nat} {x : Nd} {p : List Int} (hx : t[j]? = some x) (h : foldK wide vars (t.take j) [] = some p) (hs : stepK wide vars p x = none) : kindL wide vars t = 0 := by
  apply kind_none
  apply foldK_none (j := j + 1)
  rw [foldK_take hx h, hs]
/-- what is told of the pile at the end -/
def root1 (p : List Int) : Int := if p.length = 1 then p.headD 0 else 0
theorem kind_end {wide vars : Int} {t : List Nd} {p : List Int} (hg : wideB wide = true ∧ 1 ≤ vars ∧ vars ≤ 4 ∧ 1 ≤ t.length ∧ t.length ≤ 48) (h : foldK wide vars (t.take t.length) [] = some p) :
    kindL wide vars t = root1 p := by
  unfold kindL
  rw [if_pos hg]
  rw [List.take_length] at h
  rw [h]
  match p with
  | [] => rfl
  | [k] => rfl
  | _ :: _ :: _ => simp [root1]
set_option maxRecDepth 100000 in
set_option maxHeartbeats 2000000 in
theorem l2Kind_in (k : Nat) (vars : Int) (b off cap : Nat) (t : List Nd) (hk1 : 1 ≤ k) (hk : k ≤ 64) (hv : 1 ≤ vars) (hv4 : vars ≤ 4) (hl1 : 1 ≤ t.length) (hl : t.length ≤ 48) (hok : ∀ x ∈ t, NdOk x) (w : World) (hlt : b < w.heap.size)
    (hc : ∀ (i : Nat) (x : Nd), t[i]? = some x → w.cell? ⟨b, off + i * 2, none⟩ = some (.int .i64 x.1) ∧ w.cell? ⟨b, off + i * 2 + 1, none⟩ = some (.int .u64 x.2)) :
    Calls Tryd.prog 107 #[.int .i64 k, .int .i64 vars, .slice (some ⟨b, off, none⟩) t.length cap] w fun e w' => e = .returned (.int .i64 (kindL k vars t)) ∧ Below w.heap.size w w' := by
  have hw : wideB k = true := decide_eq_true (by omega)
  have g1 := l1Wide_any k w
  rw [hw] at g1
  have g2 := l1In_yes vars 1 4 ⟨hv, hv4⟩ w
  have g3 := l1In_yes t.length 1 48 (by omega) w
  have HW : Hid (wideB k = true) := hw
  clear hw
  obtain ⟨i0, hi, hz0, hz1, hz2⟩ := info_parts infoInt
  go_enter Tryd.func107, Tryd.ntmps107
  go_wp2_with fail
  refine g1.mono ?_
  rintro e w' ⟨rfl, rfl⟩
  clear g1
  go_wp2_with fail
  refine g2.mono ?_
  rintro e w' ⟨rfl, rfl⟩
  clear g2
  go_wp2_with fail
  refine g3.mono ?_
  rintro e w' ⟨rfl, rfl⟩
  clear g3
  go_wp2_with fail
  go_loopw [7, 29] (fun v i wr => ∃ (j : Nat) (p : List Int), j ≤ t.length ∧ i = .int .i64 j ∧ Hid (foldK k vars (t.take j) [] = some p) ∧ wr.ownsRow w'.heap.size 3 1 v p.length (p.map (Value.int .i64)) ∧ Below w'.heap.size w' wr) (fun _ i _ => t.length - (intOf i).toNat)
  case atStart => exact ⟨0, [], by omega, rfl, rfl, World.ownsRow_nil _ _ _ _, Below.refl _ _⟩
  case round =>
    obtain ⟨j, p, hj, rfl, HF, hown, hb⟩ := hrel
    by_cases hlt' : j < t.length
    · obtain ⟨x, hx⟩ : ∃ x, t[j]? = some x := ⟨t[j], List.getElem?_eq_getElem hlt'⟩
      obtain ⟨op, n⟩ := x
      have hx0 := hok (op, n) (List.mem_of_getElem? hx)
      obtain ⟨ho0, ho1, hn0, hn1⟩ := hx0
      simp only at ho0 ho1 hn0 hn1
      obtain ⟨c0, c1⟩ := hc j (op, n) hx
      rw [← hb.cell (p := ⟨b, off + j * 2, none⟩) hlt] at c0
      rw [← hb.cell (p := ⟨b, off + j * 2 + 1, none⟩) hlt] at c1
      simp only at c0 c1
      have HX : Hid (t[j]? = some (op, n)) := hx
      have g1 := l2Need_any op (wr.alloc (.cells #[.int .i64 op, .int .u64 n] 159))
      have g2 := l2N_any k vars op n (by omega) (by omega) hn0 hn1 (wr.alloc (.cells #[.int .i64 op, .int .u64 n] 159))
      have hb1 : Below w'.heap.size w' (wr.alloc (.cells #[.int .i64 op, .int .u64 n] 159)) := hb.alloc hb.size _
      have hown1 : (wr.alloc (.cells #[.int .i64 op, .int .u64 n] 159)).ownsRow w'.heap.size 3 1 u7 p.length (p.map (Value.int .i64)) := hown.alloc _
      have hpl : p.length ≤ 48 := by
        have := foldK_len _ _ _ HF.out
        simp at this
        omega
      have hml := manyOf_le op
      clear hx hc hok hown hb
      by_cases z1 : ownOf op = 0
      · have HK : Hid (kindL k vars t = 0) := kind_stop HX.out HF.out (step_own z1)
        have e1 : (ownOf op == 0) = true := by rw [z1]; rfl
        clear z1 g2 hown1
        generalize ownOf op = o at *
        generalize manyOf op = m at *
        generalize partOf op = q at *
        have HB : Hid (Below w'.heap.size w' (wr.alloc (.cells #[.int .i64 op, .int .u64 n] 159))) := hb1
        clear hb1
        go_wp2_with fail
        refine g1.mono ?_
        rintro e w2 ⟨rfl, rfl⟩
        clear g1
        go_wp2_with fail
        go_ret
        exact ⟨ret_int (by rw [HK.out]), HB.out⟩
      · have e1 : (ownOf op == 0) = false := beq_eq_false_iff_ne.2 z1
        cases z2 : okN k vars op n with
        | false =>
          have HK : Hid (kindL k vars t = 0) := kind_stop HX.out HF.out (step_num z2)
          rw [z2] at g2
          clear z1 z2 hown1
          generalize ownOf op = o at *
          generalize manyOf op = m at *
          generalize partOf op = q at *
          have HB : Hid (Below w'.heap.size w' (wr.alloc (.cells #[.int .i64 op, .int .u64 n] 159))) := hb1
          clear hb1
          go_wp2_with fail
          refine g1.mono ?_
          rintro e w2 ⟨rfl, rfl⟩
          clear g1
          go_wp2_with fail
          refine g2.mono ?_
          rintro e w2 ⟨rfl, hb2⟩
          clear g2
          have HB2 : Hid (Below w'.heap.size w' w2) := HB.out.trans (hb2.mono HB.out.size)
          clear hb2
          go_wp2_with fail
          go_ret
          exact ⟨ret_int (by rw [HK.out]), HB2.out⟩
        | true =>
          rw [z2] at g2
          by_cases z3 : p.length < manyOf op
          · have HK : Hid (kindL k vars t = 0) := kind_stop HX.out HF.out (step_few z3)
            obtain ⟨ho1l, ho1r⟩ := hown1
            have hv7 : ∃ ad cap', u7 = .slice ad p.length cap' := by
              rcases ho1r with ⟨h, h'⟩ | ⟨g, cap', cur, h, _⟩
              · exact ⟨none, 0, by rw [h, h']⟩
              · exact ⟨_, _, h⟩
            obtain ⟨ad, cap', hv7⟩ := hv7
            clear z1 z2 ho1l ho1r
            generalize ownOf op = o at *
            generalize manyOf op = m at *
            generalize partOf op = q at *
            have HB : Hid (Below w'.heap.size w' (wr.alloc (.cells #[.int .i64 op, .int .u64 n] 159))) := hb1
            clear hb1
            subst hv7
            go_wp2_with fail
            refine g1.mono ?_
            rintro e w2 ⟨rfl, rfl⟩
            clear g1
            go_wp2_with fail
            refine g2.mono ?_
            rintro e w2 ⟨rfl, hb2⟩
            clear g2
            have HB2 : Hid (Below w'.heap.size w' w2) := HB.out.trans (hb2.mono HB.out.size)
            clear hb2
            go_wp2_with fail
            go_ret
            exact ⟨ret_int (by rw [HK.out]), HB2.out⟩
          · have HS : Hid (stepK k vars p (op, n) = (popN (manyOf op) (partOf op) p).map (· ++ [ownOf op])) := step_pop z1 z2 z3
            have hv7 : ∃ ad cap', u7 = .slice ad p.length cap' := by
              rcases hown1.2 with ⟨h, h'⟩ | ⟨g, cap', cur, h, _⟩
              · exact ⟨none, 0, by rw [h, h']⟩
              · exact ⟨_, _, h⟩
            obtain ⟨ad, cap', hv7⟩ := hv7
            clear z1 z2
            generalize ownOf op = o at *
            generalize manyOf op = m at *
            generalize partOf op = q at *
            have HB : Hid (Below w'.heap.size w' (wr.alloc (.cells #[.int .i64 op, .int .u64 n] 159))) := hb1
            have HO : Hid ((wr.alloc (.cells #[.int .i64 op, .int .u64 n] 159)).ownsRow w'.heap.size 3 1 u7 p.length (p.map (Value.int .i64))) := hown1
            clear hb1 hown1
            subst hv7
            go_wp2_with fail
            refine g1.mono ?_
            rintro e w2 ⟨rfl, rfl⟩
            clear g1
            go_wp2_with fail
            refine g2.mono ?_
            rintro e w2 ⟨rfl, hb2⟩
            clear g2
            have HB2 : Hid (Below w'.heap.size w' w2) := HB.out.trans (hb2.mono HB.out.size)
            have HO2 : Hid (w2.ownsRow w'.heap.size 3 1 (.slice ad p.length cap') p.length (p.map (Value.int .i64))) := owns_below HO.out hb2
            clear hb2 HO HB
            go_wp2_with fail
            go_loop [7, 10] (fun v c => ∃ (r : Nat) (y : List Int), c = .int .i64 r ∧ r ≤ m ∧ r ≤ y.length ∧ y.length ≤ p.length ∧ Hid (popN r q y = popN m q p) ∧ Hid (w2.ownsRow w'.heap.size 3 1 v y.length (y.map (Value.int .i64)))) (fun _ c => (intOf c).toNat)
            case atStart => exact ⟨m, p, rfl, Nat.le_refl _, by omega, Nat.le_refl _, rfl, HO2⟩
            case round =>
              obtain ⟨r, y, rfl, hrm, hry, hyp, HP, HY⟩ := hrel
              by_cases hr : 0 < r
              · obtain ⟨r', rfl⟩ : ∃ r', r = r' + 1 := ⟨r - 1, by omega⟩
                obtain ⟨y', z, rfl⟩ : ∃ y' z, y = y' ++ [z] := ⟨y.dropLast, y.getLast (by intro e; subst e; simp at hry), (List.dropLast_concat_getLast _).symm⟩
                have hyl : (y' ++ [z]).length = y'.length + 1 := by simp
                rw [hyl] at hry hyp HY
                obtain ⟨gb, cap1, hv7, hcp, hcm, cz⟩ : ∃ gb cap1 : Nat, u7 = .slice (some ⟨gb, 0, none⟩) (y'.length + 1) cap1 ∧ y'.length + 1 ≤ cap1 ∧ cap1 ≤ 9223372036854775807 ∧ w2.cell? ⟨gb, y'.length, none⟩ = some (.int .i64 z) := by
                  rcases HY.out.2 with ⟨h, h'⟩ | ⟨gb, cap1, cur, h, _, _, hle, hmx, _⟩
                  · cases h'
                  · refine ⟨gb, cap1, h, hle, by unfold maxLen at hmx; omega, ?_⟩
                    have h2 := HY.out
                    rw [h] at h2
                    rw [h2.cellAt y'.length (by omega)]
                    simp
                subst hv7
                clear hyl
                by_cases hzq : z = q
                · subst hzq
                  have HP' : Hid (popN r' z y' = popN m z p) := by
                    have h1 := HP.out
                    rw [popN_eq] at h1
                    exact h1
                  have HY' : Hid (w2.ownsRow w'.heap.size 3 1 (.slice (some ⟨gb, 0, none⟩) y'.length cap1) y'.length (y'.map (Value.int .i64))) := by
                    have h1 := HY.out
                    rw [List.map_append] at h1
                    exact ownsRow_pop (by simp) h1
                  clear HP HY
                  go_wp2_with fail
                  go_round
                  case rel => exact ⟨r', y', by go_num, by omega, by omega, by omega, HP', HY'⟩
                  case measure => simp [intOf] <;> omega
                · have HK : Hid (kindL k vars t = 0) := by
                    have h1 := HP.out
                    rw [popN_ne hzq] at h1
                    refine kind_stop HX.out HF.out ?_
                    rw [HS.out, ← h1]
                    rfl
                  have hzb : (z != q) = true := bne_iff_ne.2 hzq
                  clear HP HY hzq
                  go_wp2_with fail
                  go_ret
                  exact ⟨ret_int (by rw [HK.out]), HB2.out⟩
              · obtain rfl : r = 0 := by omega
                have HN : Hid (foldK k vars (t.take (j + 1)) [] = some (y ++ [o])) := by
                  have h1 := HP.out
                  have h2 := foldK_take HX.out HF.out
                  rw [HS.out, ← h1] at h2
                  exact h2
                have hv7 : ∃ ad cap', u7 = .slice ad y.length cap' := by
                  rcases HY.out.2 with ⟨h, h'⟩ | ⟨g, cap', cur, h, _⟩
                  · exact ⟨none, 0, by rw [h, h']⟩
                  · exact ⟨_, _, h⟩
                obtain ⟨ad', cap2, hv7⟩ := hv7
                subst hv7
                have hownY := HY.out
                clear HP HS HF HX HY HO2
                go_wp2_with (at_builtin; refine wpList_append_own _ rfl _ _ 29 rfl w'.heap.size 3 i0 (.int .i64 0) 1 8 Tryd.underlying29 hi hz0 hz1 hz2 rfl (by decide) _ _ _ rfl (hownY.alloc _) ⟨w2.heap.size, 0, none⟩ 1 1 [.int .i64 o] rfl rfl ?c1 ?c2 ?c3 ?c4 ?c5 ?_)
                case c2 => first | rfl | (intro u hu; simp at hu; subst hu; rfl)
                case c3 => unfold maxLen; omega
                case c4 => omega
                case c5 => have := HB2.out.size; simp; omega
                intro v' w3 hown3 hgrow3 _
                have hb3 : Below w'.heap.size w' w3 := by
                  refine (HB2.out.alloc HB2.out.size _).grown hgrow3 (by have := HB2.out.size; simp; omega) ?_
                  intro kk hkk
                  rcases hownY.2 with ⟨h, _⟩ | ⟨g, cap3, cur, h, hg, _⟩
                  · simp only [Value.slice.injEq] at h
                    obtain ⟨rfl, _, _⟩ := h
                    cases hkk
                  · simp only [Value.slice.injEq] at h
                    obtain ⟨rfl, _, _⟩ := h
                    cases hkk
                    exact hg
                have hown4 : w3.ownsRow w'.heap.size 3 1 v' (y ++ [o]).length ((y ++ [o]).map (Value.int .i64)) := by
                  rw [List.map_append, List.length_append]
                  exact hown3
                clear hown3 hgrow3 hownY
                go_wp2_with fail
                go_roundw
                case rel => exact ⟨j + 1, y ++ [o], by omega, by go_num, HN, hown4, hb3⟩
                case measure => simp [intOf]; omega
    · obtain rfl : j = t.length := by omega
      have HK : Hid (kindL k vars t = root1 p) := kind_end ⟨HW.out, hv, hv4, hl1, hl⟩ HF.out
      have HB : Hid (Below w'.heap.size w' wr) := hb
      have hv7 : ∃ ad cap', u7 = .slice ad p.length cap' := by
        rcases hown.2 with ⟨h, h'⟩ | ⟨g, cap', cur, h, _⟩
        · exact ⟨none, 0, by rw [h, h']⟩
        · exact ⟨_, _, h⟩
      by_cases h1 : p.length = 1
      · obtain ⟨z, rfl⟩ : ∃ z, p = [z] := List.length_eq_one_iff.1 h1
        obtain ⟨gb, cap1, hv7, cz⟩ : ∃ gb cap1 : Nat, u7 = .slice (some ⟨gb, 0, none⟩) 1 cap1 ∧ wr.cell? ⟨gb, 0, none⟩ = some (.int .i64 z) := by
          rcases hown.2 with ⟨h, h'⟩ | ⟨gb, cap1, cur, h, _⟩
          · cases h'
          · refine ⟨gb, cap1, h, ?_⟩
            have h2 := hown
            rw [h] at h2
            rw [show ([z] : List Int).length = 1 from rfl] at h2
            rw [h2.cellAt 0 (by omega)]
            simp
        subst hv7
        clear hown hb hc hok h1
        go_wp2_with fail
        go_ret
        exact ⟨ret_int (by rw [HK.out]; rfl), HB.out⟩
      · obtain ⟨ad, cap', hv7⟩ := hv7
        subst hv7
        have hne : ((p.length : Int) != 1) = true := bne_iff_ne.2 (by omega)
        have HK0 : Hid (kindL k vars t = 0) := by
          have h2 := HK.out
          unfold root1 at h2
          rw [if_neg h1] at h2
          exact h2
        clear hown hb hc hok
        go_wp2_with fail
        go_ret
        exact ⟨ret_int (by rw [HK0.out]), HB.out⟩
theorem l2Kind_any (wide vars : Int) (v : Value) (t : List Nd) (w : World) (h : NodesAt w v t) :
    Calls Tryd.prog 107 #[.int .i64 wide, .int .i64 vars, v] w fun e w' => e = .returned (.int .i64 (kindL wide vars t)) ∧ Below w.heap.size w w' := by
  obtain ⟨hok, hlen, h⟩ := h
  by_cases hg : wideB wide = true ∧ 1 ≤ vars ∧ vars ≤ 4 ∧ 1 ≤ t.length ∧ t.length ≤ 48
  · obtain ⟨hw, hv, hv4, hl1, hl⟩ := hg
    obtain ⟨k, rfl, hk1, hk⟩ := wideB_true hw
    rcases h with ⟨rfl, _⟩ | ⟨b, off, cap, rfl, hlt, hc⟩
    · cases hl1
    · exact l2Kind_in k vars b off cap t hk1 hk hv hv4 hl1 hl hok w hlt hc
  · rw [kind_out hg]
    have hs : ∃ (a : Option Addr) (cap : Nat), v = .slice a t.length cap := by
      rcases h with ⟨rfl, a, cap, h⟩ | ⟨b, off, cap, h, _⟩
      · exact ⟨a, cap, h⟩
      · exact ⟨_, cap, h⟩
    obtain ⟨a, cap, rfl⟩ := hs
    refine (l2Kind_out wide vars a t.length cap hlen hg w).mono ?_
    rintro e w' ⟨he, rfl⟩
    exact ⟨he, Below.refl _ _⟩
end Go.Proofs.YtmhpnkfibecnmaaDoor
