/-
  Numbers as texts: what is read; names.
-/
import Derived.Test.YtkfplichekebdaaNumC
import Derived.LoopTactic
import Derived.Handy
namespace Go.Proofs.Ytkfplichekebdaa
open Go Go.RowKit
open M
set_option linter.unusedVariables false

theorem l3Name_any (k : Nat) (hk : k < 4) (w : World) : Calls Try.prog 7 #[.int .i64 k] w fun e w' => e = .returned (tx (nameL k)) ∧ Below w.heap.size w w' := by
  have hc := conv_one w (97 + (k : Int)) (UInt8.ofNat (97 + k)) (by rw [UInt8.toNat_ofNat']; omega)
  unfold nameL
  generalize UInt8.ofNat (97 + k) = c at *
  go_enter Try.func7, Try.ntmps7
  go_wp2_with fail
  go_ret
  exact ⟨rfl, (Below.refl _ _).alloc (Nat.le_refl _) _⟩
theorem tx_at {l : Tx} {j : Nat} {c : UInt8} (h : l[j]? = some c) (hj : j < (ByteArray.mk l.toArray).size) : (ByteArray.mk l.toArray)[j]'hj = c := by
  have h1 : j < l.length := (List.getElem?_eq_some_iff.1 h).1
  have h2 : l[j] = c := (List.getElem?_eq_some_iff.1 h).2
  rw [← h2]
  rfl
theorem tx_size (l : Tx) : (ByteArray.mk l.toArray).size = l.length := by simp [ByteArray.size]
theorem stepD_wrap (a : Nat) (c : UInt8) (ha : a < 18446744073709551616) (h0 : 48 ≤ c.toNat) : IntKind.u64.wrap (IntKind.u64.wrap (10 * (a : Int)) + ((c.toNat : Int) - 48)) = (stepD a c : Int) := by
  unfold stepD
  have hc : c.toNat < 256 := c.toNat_lt
  simp only [IntKind.wrap, IntKind.bits, IntKind.signed]
  simp
  omega
theorem take_snoc {l : Tx} {j : Nat} {c : UInt8} (h : l[j]? = some c) : l.take (j + 1) = l.take j ++ [c] := by
  rw [List.take_add_one, h]
  rfl
theorem isNum_other {l : Tx} (h : ¬ (1 ≤ l.length ∧ l.length ≤ 20)) : isNum l = false ∧ readN l = 0 := by
  have : isNum l = false := by
    cases e : isNum l with
    | false => rfl
    | true =>
      unfold isNum at e
      simp only [Bool.and_eq_true, decide_eq_true_eq] at e
      exact absurd ⟨e.1, e.2.1⟩ h
  exact ⟨this, by unfold readN; simp [this]⟩
/-- a name, where there is one -/
def nameT (k : Int) : Tx := if 0 ≤ k ∧ k ≤ 3 then nameL k.toNat else []
theorem sNameOf_any (k : Int) (w : World) : Calls Try.prog 4 #[.int .i64 k] w fun e w' => e = .returned (.tuple #[tx (nameT k), .bool (decide (0 ≤ k ∧ k ≤ 3))]) ∧ Below w.heap.size w w' := by
  unfold nameT
  by_cases h : 0 ≤ k ∧ k ≤ 3
  · have gi := l1In_yes k 0 3 h w
    obtain ⟨n, rfl⟩ := Int.eq_ofNat_of_zero_le h.1
    have g := l3Name_any n (by omega) w
    rw [if_pos h, decide_eq_true h, Int.toNat_natCast]
    generalize nameL n = m at *
    go_enter Try.func4, Try.ntmps4
    go_wp2_with fail
    refine gi.mono ?_
    rintro e w' ⟨rfl, rfl⟩
    clear gi
    go_wp2_with fail
    refine g.mono ?_
    rintro e w2 ⟨rfl, hb⟩
    have HB : Hid _ := hb
    clear g hb
    go_wp2_with fail
    go_ret2
    exact ⟨rfl, HB.out⟩
  · have gi := l1In_no k 0 3 h w
    rw [if_neg h, decide_eq_false h]
    clear h
    go_enter Try.func4, Try.ntmps4
    go_wp2_with fail
    refine gi.mono ?_
    rintro e w' ⟨rfl, rfl⟩
    clear gi
    go_wp2_with fail
    go_ret2
    exact ⟨rfl, Below.refl _ _⟩
end Go.Proofs.Ytkfplichekebdaa
