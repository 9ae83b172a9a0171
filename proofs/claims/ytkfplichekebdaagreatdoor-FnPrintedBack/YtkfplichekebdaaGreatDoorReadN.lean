/-
  Numbers as texts: what is read; names.
-/
import Derived.Test.YtkfplichekebdaaGreatDoorNumC
import Derived.LoopTactic
import Derived.Handy
namespace Go.Proofs.YtkfplichekebdaaGreatDoor
open Go Go.RowKit
open M
set_option linter.unusedVariables false

theorem sNumText_any (n : Nat) (hn : n < 18446744073709551616) (w : World) : Calls Tryz.prog 19 #[.int .u64 n] w fun e w' => e = .returned (tx (numL n)) ∧ Below w.heap.size w w' := by
  have g := l1Num_any n hn w
  go_enter Tryz.func19, Tryz.ntmps19
  go_wp2_with fail
  refine g.mono ?_
  rintro e w' ⟨rfl, hb⟩
  have HB : Hid _ := hb
  clear g hb
  go_wp2_with fail
  go_ret
  exact ⟨rfl, HB.out⟩
theorem l3Name_any (k : Nat) (hk : k < 4) (w : World) : Calls Tryz.prog 42 #[.int .i64 k] w fun e w' => e = .returned (tx (nameL k)) ∧ Below w.heap.size w w' := by
  have hc := conv_one w (97 + (k : Int)) (UInt8.ofNat (97 + k)) (by rw [UInt8.toNat_ofNat']; omega)
  unfold nameL
  generalize UInt8.ofNat (97 + k) = c at *
  go_enter Tryz.func42, Tryz.ntmps42
  go_wp2_with fail
  go_ret
  exact ⟨rfl, (Below.refl _ _).alloc (Nat.le_refl _) _⟩
theorem tx_at {l : Tx} {j : Nat} {c : UInt8} (h : l[j]? = some c) (hj : j < (ByteArray.mk l.toArray).size) : (ByteArray.mk l.toArray)[j]'hj = c := by
  have h1 : j < l.length := (List.getElem?_eq_some_iff.1 h).1
  have h2 : l[j] = c := (List.getElem?_eq_some_iff.1 h).2
  rw [← h2]
  rfl
theorem tx_size (l : Tx) : (ByteArray.mk l.toArray).size = l.length := by simp [ByteArray.size]
theorem stepD_wrap (a : Nat) (c : UInt8) (ha : a < 18446744073709551616) (h0 : 48 ≤ c.toNat) : IntKind.u64.wrap (IntKind.u64.wrap (10 * (a : Int)) + ((c.toNat : Int) - 48)) = (stepD a c : Int) := by
  unfold stepD
  have hc : c.toNat < 256 := c.toNat_lt
  simp only [IntKind.wrap, IntKind.bits, IntKind.signed]
  simp
  omega
theorem take_snoc {l : Tx} {j : Nat} {c : UInt8} (h : l[j]? = some c) : l.take (j + 1) = l.take j ++ [c] := by
  rw [List.take_add_one, h]
  rfl
set_option maxRecDepth 100000 in
set_option maxHeartbeats 2000000 in
theorem sReadNum_loop (l : Tx) (h0 : 1 ≤ l.length) (h1 : l.length ≤ 20) (w : World) : Calls Tryz.prog 25 #[tx l] w fun e w' => e = .returned (.tuple #[.int .u64 (readN l : Int), .bool (isNum l)]) ∧ Below w.heap.size w w' := by
  have gi := l1In_yes (l.length : Int) 1 20 (by omega) w
  have HG := fun w1 : World => l1Num_any (foldD l) (foldD_lt l) w1
  have GN : Hid _ := HG
  clear HG
  have HNO : Hid (l.all isDig = false → isNum l = false ∧ readN l = 0) := by
    intro h
    have : isNum l = false := by unfold isNum; simp [h]
    exact ⟨this, by unfold readN; simp [this]⟩
  have HYES : Hid (l.all isDig = true → isNum l = decide (numL (foldD l) = l)) := by
    intro h
    unfold isNum
    simp [h, h0, h1]
  have HRD : Hid (isNum l = true → readN l = foldD l) := by
    intro h
    unfold readN
    rw [if_pos h]
  have HRN : Hid (isNum l = false → readN l = 0) := by
    intro h
    unfold readN
    simp [h]
  generalize hI : isNum l = I at *
  generalize hR : readN l = R at *
  have HI : Hid _ := hI
  have HR : Hid _ := hR
  clear hI hR
  go_enter Tryz.func25, Tryz.ntmps25
  go_wp2_with fail
  refine gi.mono ?_
  rintro e w' ⟨rfl, rfl⟩
  clear gi
  go_wp2_with fail
  go_loop [4, 5] (fun v i => ∃ j : Nat, j ≤ l.length ∧ i = .int .i64 j ∧ v = .int .u64 (foldD (l.take j) : Int) ∧ Hid ((l.take j).all isDig = true)) (fun _ i => l.length - (intOf i).toNat)
  case atStart => exact ⟨0, by omega, rfl, rfl, rfl⟩
  case round =>
    obtain ⟨j, hj, rfl, rfl, HA⟩ := hrel
    by_cases hlt' : j < l.length
    · obtain ⟨c, hcj⟩ : ∃ c, l[j]? = some c := ⟨l[j], List.getElem?_eq_getElem hlt'⟩
      have he := tx_at hcj (by rw [tx_size]; exact hlt')
      have HT : Hid (l.take (j + 1) = l.take j ++ [c]) := take_snoc hcj
      have HM : Hid (c ∈ l) := List.mem_of_getElem? hcj
      have HF : Hid (foldD (l.take (j + 1)) = stepD (foldD (l.take j)) c) := by
        show foldD (l.take (j + 1)) = _
        rw [HT.out, foldD_snoc]
      have HL : Hid (foldD (l.take j) < 18446744073709551616) := foldD_lt _
      clear hcj
      generalize foldD (l.take j) = F at *
      by_cases hd : isDig c = true
      · obtain ⟨d0, d1⟩ := isDig_nat hd
        have d2 : (48 : Int) ≤ c.toNat := by omega
        have d3 : (c.toNat : Int) ≤ 57 := by omega
        have HA2 : Hid ((l.take (j + 1)).all isDig = true) := by
          show (l.take (j + 1)).all isDig = true
          rw [HT.out, List.all_append, HA.out]
          simp [hd]
        clear hd
        go_wp2_with fail
        go_round
        case rel => exact ⟨j + 1, by omega, by go_num, by rw [stepD_wrap F c HL.out d0, HF.out], HA2⟩
        case measure => simp [intOf]; omega
      · have HN := HNO.out (by
          cases h : l.all isDig with
          | false => rfl
          | true => exact absurd (List.all_eq_true.1 h c HM.out) hd)
        obtain ⟨hI, hR⟩ := HN
        subst hI hR
        have hd' : ¬ (48 ≤ c.toNat ∧ c.toNat ≤ 57) := fun h => hd (by unfold isDig; simp [h.1, h.2])
        by_cases hs : c.toNat < 48
        · have d2 : (c.toNat : Int) < 48 := by omega
          clear hd hd'
          go_wp2_with fail
          go_ret2
          exact ⟨rfl, Below.refl _ _⟩
        · have d2 : (48 : Int) ≤ c.toNat := by omega
          have d3 : (57 : Int) < c.toNat := by omega
          clear hd hd'
          go_wp2_with fail
          go_ret2
          exact ⟨rfl, Below.refl _ _⟩
    · obtain rfl : j = l.length := by omega
      have HE : Hid (I = decide (numL (foldD l) = l)) := HYES.out (by have h := HA.out; rw [List.take_length] at h; exact h)
      have g := GN.out w'
      rw [List.take_length] at *
      generalize foldD l = F at *
      by_cases hq : numL F = l
      · obtain rfl : I = true := by rw [HE.out]; exact decide_eq_true hq
        obtain rfl : R = F := HRD.out rfl
        rw [hq] at g
        clear hq HE
        go_wp2_with fail
        refine g.mono ?_
        rintro e w2 ⟨rfl, hb⟩
        have HB : Hid _ := hb
        clear g hb
        go_wp2_with fail
        go_ret2
        exact ⟨rfl, HB.out⟩
      · obtain rfl : I = false := by rw [HE.out]; exact decide_eq_false hq
        obtain rfl : R = 0 := HRN.out rfl
        generalize numL F = m at *
        have hq2 : (m == l) = false := beq_eq_false_iff_ne.2 hq
        clear HE hq
        go_wp2_with fail
        refine g.mono ?_
        rintro e w2 ⟨rfl, hb⟩
        have HB : Hid _ := hb
        clear g hb
        go_wp2_with fail
        go_ret2
        exact ⟨rfl, HB.out⟩
theorem sReadNum_other (l : Tx) (h : ¬ (1 ≤ l.length ∧ l.length ≤ 20)) (hl : l.length ≤ 9223372036854775807) (w : World) : Calls Tryz.prog 25 #[tx l] w fun e w' => e = .returned (.tuple #[.int .u64 0, .bool false]) ∧ w' = w := by
  have gi := l1In_no (l.length : Int) 1 20 (by omega) w
  go_enter Tryz.func25, Tryz.ntmps25
  go_wp2_with fail
  refine gi.mono ?_
  rintro e w' ⟨rfl, rfl⟩
  clear gi
  go_wp2_with fail
  go_ret2
  exact ⟨rfl, rfl⟩
theorem isNum_other {l : Tx} (h : ¬ (1 ≤ l.length ∧ l.length ≤ 20)) : isNum l = false ∧ readN l = 0 := by
  have : isNum l = false := by
    cases e : isNum l with
    | false => rfl
    | true =>
      unfold isNum at e
      simp only [Bool.and_eq_true, decide_eq_true_eq] at e
      exact absurd ⟨e.1, e.2.1⟩ h
  exact ⟨this, by unfold readN; simp [this]⟩
theorem sReadNum_any (l : Tx) (hl : l.length ≤ 9223372036854775807) (w : World) : Calls Tryz.prog 25 #[tx l] w fun e w' => e = .returned (.tuple #[.int .u64 (readN l : Int), .bool (isNum l)]) ∧ Below w.heap.size w w' := by
  by_cases h : 1 ≤ l.length ∧ l.length ≤ 20
  · exact sReadNum_loop l h.1 h.2 w
  · obtain ⟨e1, e2⟩ := isNum_other h
    rw [e1, e2]
    refine (sReadNum_other l h hl w).mono ?_
    rintro e w' ⟨he, rfl⟩
    exact ⟨he, Below.refl _ _⟩
/-- a name, where there is one -/
def nameT (k : Int) : Tx := if 0 ≤ k ∧ k ≤ 3 then nameL k.toNat else []
theorem sNameOf_any (k : Int) (w : World) : Calls Tryz.prog 18 #[.int .i64 k] w fun e w' => e = .returned (.tuple #[tx (nameT k), .bool (decide (0 ≤ k ∧ k ≤ 3))]) ∧ Below w.heap.size w w' := by
  unfold nameT
  by_cases h : 0 ≤ k ∧ k ≤ 3
  · have gi := l1In_yes k 0 3 h w
    obtain ⟨n, rfl⟩ := Int.eq_ofNat_of_zero_le h.1
    have g := l3Name_any n (by omega) w
    rw [if_pos h, decide_eq_true h, Int.toNat_natCast]
    generalize nameL n = m at *
    go_enter Tryz.func18, Tryz.ntmps18
    go_wp2_with fail
    refine gi.mono ?_
    rintro e w' ⟨rfl, rfl⟩
    clear gi
    go_wp2_with fail
    refine g.mono ?_
    rintro e w2 ⟨rfl, hb⟩
    have HB : Hid _ := hb
    clear g hb
    go_wp2_with fail
    go_ret2
    exact ⟨rfl, HB.out⟩
  · have gi := l1In_no k 0 3 h w
    rw [if_neg h, decide_eq_false h]
    clear h
    go_enter Tryz.func18, Tryz.ntmps18
    go_wp2_with fail
    refine gi.mono ?_
    rintro e w' ⟨rfl, rfl⟩
    clear gi
    go_wp2_with fail
    go_ret2
    exact ⟨rfl, Below.refl _ _⟩
end Go.Proofs.YtkfplichekebdaaGreatDoor
