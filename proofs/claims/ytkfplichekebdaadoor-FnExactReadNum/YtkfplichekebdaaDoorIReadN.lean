/-
  Numbers as texts: the program's ReadNum, over the library's ParseUint; the walk of its exact law.
-/
import Derived.Test.YtkfplichekebdaaDoorIFmt
import Derived.Test.YtkfplichekebdaaDoorReadN
import Derived.Lib.AtoiErrMem
namespace Go.Proofs.YtkfplichekebdaaDoor
open Go Go.RowKit
open M
set_option linter.unusedVariables false

theorem parse_num_rest (n : Nat) : n ≤ 18446744073709551615 → ∀ r : Tx, Lib.parseUintM 18446744073709551615 0 (numL n ++ r) = Lib.parseUintM 18446744073709551615 n r := by
  refine numL_ind (P := fun n => n ≤ 18446744073709551615 → ∀ r : Tx, Lib.parseUintM 18446744073709551615 0 (numL n ++ r) = Lib.parseUintM 18446744073709551615 n r) ?_ ?_ n
  · intro n h hn r
    have hd := dig_nat h
    rw [numL_small h, List.singleton_append]
    simp only [Lib.parseUintM]
    rw [if_pos ⟨by omega, by omega⟩, if_neg (by omega), if_neg (by omega), show 0 * 10 + ((dig n).toNat - 48) = n from by omega]
  · intro n h ih hn r
    have hd := dig_nat (n := n % 10) (by omega)
    rw [numL_big h, List.append_assoc, ih (by omega), List.singleton_append]
    simp only [Lib.parseUintM]
    rw [if_pos ⟨by omega, by omega⟩, if_neg (by omega), if_neg (by omega), show n / 10 * 10 + ((dig (n % 10)).toNat - 48) = n from by omega]
theorem parse_num (n : Nat) (hn : n < 18446744073709551616) : Lib.parseUintB 64 (numL n) = .ok n := by
  unfold Lib.parseUintB
  rw [if_neg (by intro e; have := numL_pos n; rw [e] at this; simp at this)]
  have h := parse_num_rest n (by omega) []
  rw [List.append_nil] at h
  exact h
theorem parse_lt {l : Tx} {u : Nat} (h : Lib.parseUintB 64 l = .ok u) : u < 18446744073709551616 := by
  have key : ∀ (l : Tx) (acc u : Nat), acc ≤ 18446744073709551615 → Lib.parseUintM 18446744073709551615 acc l = .ok u → u ≤ 18446744073709551615 := by
    intro l
    induction l with
    | nil =>
      intro acc u ha h
      simp only [Lib.parseUintM] at h
      injection h with h
      omega
    | cons c r ih =>
      intro acc u ha h
      simp only [Lib.parseUintM] at h
      split at h
      · split at h
        · cases h
        · split at h
          · cases h
          · exact ih _ _ (by omega) h
      · cases h
  unfold Lib.parseUintB at h
  split at h
  · cases h
  · have := key l 0 u (by omega) h
    omega
/-- what ParseUint does with a text of which it is the number, and with another one -/
theorem parse_ok (l : Tx) (hl : l.length ≤ 20) (u : Nat) (h : Lib.parseUintB 64 l = .ok u) (w : World) : Calls Tryd.prog 32 #[tx l, .int .i64 10, .int .i64 64] w fun e w' => e = .returned (.tuple #[.int .u64 u, .nilIface]) ∧ Below w.heap.size w w' := by
  have g : Calls Tryd.prog 32 #[tx l, .int .i64 10, .int .i64 64] w fun e w' => e = .returned (.tuple #[.int .u64 u, .nilIface]) ∧ (w' = w ∨ w' = Lib.bytesWorld w 5 ⟨l.toArray⟩) := Any.strconv_ParseUint_10_at64_ok Tryd.laysPu14 ⟨l.toArray⟩ (by rw [tx_size]; omega) u h w
  refine g.mono ?_
  rintro e w' ⟨he, rfl | rfl⟩
  · exact ⟨he, Below.refl _ _⟩
  · exact ⟨he, Lib.bytesWorld_below _ _ _⟩
theorem parse_no (l : Tx) (hl : l.length ≤ 20) (h : ∀ u, Lib.parseUintB 64 l ≠ .ok u) (w : World) (hR : ErrAt 3 w) (hS : ErrAt 2 w) :
    Calls Tryd.prog 32 #[tx l, .int .i64 10, .int .i64 64] w fun e w' => ∃ (n : Int) (tp : TypeId) (p : Value), e = .returned (.tuple #[.int .u64 n, .iface tp p]) ∧ Below w.heap.size w w' := by
  cases hp : Lib.parseUintB 64 l with
  | ok u => exact absurd hp (h u)
  | «syntax» =>
    obtain ⟨_, tp, p, hc⟩ := hS
    have g := Any.strconv_ParseUint_10_at64_syntax Tryd.laysPu14 ⟨l.toArray⟩ (by rw [tx_size]; omega) hp _ w hc (Or.inr ⟨_, _, rfl⟩)
    refine Calls.mono g ?_
    rintro e w' ⟨N, he, _, _, hb⟩
    exact ⟨_, _, _, he, hb⟩
  | range =>
    obtain ⟨_, tp, p, hc⟩ := hR
    have g := Any.strconv_ParseUint_10_at64_range Tryd.laysPu14 ⟨l.toArray⟩ (by rw [tx_size]; omega) hp _ w hc (Or.inr ⟨_, _, rfl⟩)
    refine Calls.mono g ?_
    rintro e w' ⟨N, he, _, _, hb⟩
    exact ⟨_, _, _, he, hb⟩
set_option maxRecDepth 100000 in
theorem iReadNum_any (l : Tx) (hl : l.length ≤ 9223372036854775807) (w : World) (hP : Pow w) (hR : ErrAt 3 w) (hS : ErrAt 2 w) :
    Calls Tryd.prog 12 #[tx l] w fun e w' => e = .returned (.tuple #[.int .u64 (readN l : Int), .bool (isNum l)]) ∧ Below w.heap.size w w' := by
  by_cases h20 : l.length ≤ 20
  · by_cases hok : ∃ u, Lib.parseUintB 64 l = .ok u
    · obtain ⟨u, hu⟩ := hok
      have g1 := parse_ok l h20 u hu w
      have hlt := parse_lt hu
      have GN : Hid (∀ w1 : World, Below w.heap.size w w1 → Calls Tryd.prog 10 #[.int .u64 u] w1 fun e w' => e = .returned (tx (numL u)) ∧ Below w1.heap.size w1 w') := fun w1 hb => iNumText_any u hlt w1 (hP.below hb)
      by_cases hq : numL u = l
      · have e1 : isNum l = true := isNum_iff.2 ⟨u, hlt, hq⟩
        have e2 : readN l = u := by rw [← hq]; exact readN_num hlt
        rw [e1, e2]
        rw [hq] at GN
        clear hq hu e1 e2 hP hR hS
        go_enter Tryd.func12, Tryd.ntmps12
        go_wp2_with fail
        refine g1.mono ?_
        rintro e w1 ⟨rfl, hb1⟩
        have g2 := GN.out w1 hb1
        have HB1 : Hid _ := hb1
        clear g1 hb1 GN
        go_wp2_with fail
        refine g2.mono ?_
        rintro e w2 ⟨rfl, hb2⟩
        have HB2 : Hid (Below w.heap.size w w2) := HB1.out.trans (hb2.mono HB1.out.size)
        clear g2 hb2
        go_wp2_with fail
        go_ret2
        exact ⟨rfl, HB2.out⟩
      · have e1 : isNum l = false := by
          cases e : isNum l with
          | false => rfl
          | true =>
            obtain ⟨n, hn, he⟩ := isNum_iff.1 e
            have h2 := parse_num n hn
            rw [he, hu] at h2
            injection h2 with h2
            subst h2
            exact absurd he hq
        have e2 : readN l = 0 := by unfold readN; rw [e1]; rfl
        rw [e1, e2]
        have hne : (numL u == l) = false := beq_eq_false_iff_ne.2 hq
        generalize numL u = m at *
        clear hq hu e1 e2 hP hR hS
        go_enter Tryd.func12, Tryd.ntmps12
        go_wp2_with fail
        refine g1.mono ?_
        rintro e w1 ⟨rfl, hb1⟩
        have g2 := GN.out w1 hb1
        have HB1 : Hid _ := hb1
        clear g1 hb1 GN
        go_wp2_with fail
        refine g2.mono ?_
        rintro e w2 ⟨rfl, hb2⟩
        have HB2 : Hid (Below w.heap.size w w2) := HB1.out.trans (hb2.mono HB1.out.size)
        clear g2 hb2
        go_wp2_with fail
        go_ret2
        exact ⟨rfl, HB2.out⟩
    · have g1 := parse_no l h20 (fun u hu => hok ⟨u, hu⟩) w hR hS
      have e1 : isNum l = false := by
        cases e : isNum l with
        | false => rfl
        | true =>
          obtain ⟨n, hn, he⟩ := isNum_iff.1 e
          have h2 := parse_num n hn
          rw [he] at h2
          exact absurd ⟨n, h2⟩ hok
      have e2 : readN l = 0 := by unfold readN; rw [e1]; rfl
      rw [e1, e2]
      clear hok e1 e2 hP hR hS
      go_enter Tryd.func12, Tryd.ntmps12
      go_wp2_with fail
      refine g1.mono ?_
      rintro e w1 ⟨n, tp, p, rfl, hb1⟩
      have HB1 : Hid _ := hb1
      clear g1 hb1
      go_wp2_with fail
      go_ret2
      exact ⟨rfl, HB1.out⟩
  · obtain ⟨e1, e2⟩ := isNum_other (l := l) (fun h => h20 h.2)
    rw [e1, e2]
    clear e1 e2 hP hR hS
    go_enter Tryd.func12, Tryd.ntmps12
    go_wp2_with fail
    go_ret2
    exact ⟨rfl, Below.refl _ _⟩
theorem readNum_big (s : Tx) (hb : 1048576 < s.length) (hl : s.length ≤ 9223372036854775807) (w : World) : Calls Tryd.prog 4 #[tx s] w fun e w' => e = .returned (.bool true) ∧ Below w.heap.size w w' := by
  go_enter Tryd.func4, Tryd.ntmps4
  go_wp2_with fail
  go_ret
  exact ⟨rfl, Below.refl _ _⟩
theorem readNum_law (s : Tx) (hl : s.length ≤ 9223372036854775807) (w : World) (hP : Pow w) (hR : ErrAt 3 w) (hS : ErrAt 2 w) : Calls Tryd.prog 4 #[tx s] w fun e w' => e = .returned (.bool true) ∧ Below w.heap.size w w' := by
  by_cases hb : 1048576 < s.length
  · exact readNum_big s hb hl w
  · have g1 := sReadNum_any s hl w
    have GI : Hid (∀ w1 : World, Below w.heap.size w w1 → Calls Tryd.prog 12 #[tx s] w1 fun e w' => e = .returned (.tuple #[.int .u64 (readN s : Int), .bool (isNum s)]) ∧ Below w1.heap.size w1 w') := fun w1 hb => iReadNum_any s hl w1 (hP.below hb) (hR.below hb) (hS.below hb)
    clear hP hR hS
    generalize readN s = m at *
    generalize isNum s = z at *
    go_enter Tryd.func4, Tryd.ntmps4
    go_wp2_with fail
    refine g1.mono ?_
    rintro e w1 ⟨rfl, hb1⟩
    have g2 := GI.out w1 hb1
    have HB : Hid _ := hb1
    clear g1 hb1 GI
    go_wp2_with fail
    refine g2.mono ?_
    rintro e w2 ⟨rfl, hb2⟩
    have HB2 : Hid (Below w.heap.size w w2) := HB.out.trans (hb2.mono HB.out.size)
    clear g2 hb2
    go_wp2_with fail
    go_ret
    exact ⟨rfl, HB2.out⟩
end Go.Proofs.YtkfplichekebdaaDoor
