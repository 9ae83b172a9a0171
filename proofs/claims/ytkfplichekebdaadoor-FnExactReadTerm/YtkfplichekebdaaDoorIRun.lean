/-
  How long runs of bytes are: the program's runSize, digitsSize, lettersSize.
-/
import Derived.Test.YtkfplichekebdaaDoorReadN
import Derived.Lib.OthersKept
import Derived.Laws.RangeAny
import Derived.Outline
namespace Go.Proofs.YtkfplichekebdaaDoor
open Go Go.RowKit
open M
set_option linter.unusedVariables false

/-- a byte from lo to hi -/
def inB (lo hi : Nat) (b : UInt8) : Bool := decide (lo ≤ b.toNat) && decide (b.toNat ≤ hi)
theorem runs_stop {p : UInt8 → Bool} {s : Tx} {j : Nat} {c : UInt8} (h1 : (s.take j).all p = true) (hc : s[j]? = some c) (h2 : p c = false) : (s.takeWhile p).length = j := by
  induction s generalizing j with
  | nil => simp at hc
  | cons a s ih =>
    match j with
    | 0 =>
      simp at hc
      subst hc
      simp [h2]
    | j + 1 =>
      simp only [List.take_succ_cons, List.all_cons, Bool.and_eq_true] at h1
      rw [List.takeWhile_cons, if_pos h1.1, List.length_cons, ih h1.2 (by simpa using hc)]
theorem runs_all {p : UInt8 → Bool} {s : Tx} (h : s.all p = true) : (s.takeWhile p).length = s.length := by
  induction s with
  | nil => rfl
  | cons a s ih =>
    simp only [List.all_cons, Bool.and_eq_true] at h
    rw [List.takeWhile_cons, if_pos h.1, List.length_cons, ih h.2, List.length_cons]
set_option maxHeartbeats 6400000 in
set_option maxRecDepth 1000000 in
theorem runSize_any (s : Tx) (lo hi : Nat) (hlo : lo ≤ hi) (hhi : hi < 128) (hl : s.length ≤ 1048576) (w : World) :
    Calls Tryd.prog 88 #[tx s, .int .i32 lo, .int .i32 hi] w fun e w' => e = .returned (.int .i64 ((s.takeWhile (inB lo hi)).length : Int)) ∧ Below w.heap.size w w' := by
  have HS : Hid (∀ (j : Nat) (c : UInt8), (s.take j).all (inB lo hi) = true → s[j]? = some c → inB lo hi c = false → (s.takeWhile (inB lo hi)).length = j) := fun j c h1 h2 h3 => runs_stop h1 h2 h3
  have HA : Hid (s.all (inB lo hi) = true → (s.takeWhile (inB lo hi)).length = s.length) := runs_all
  generalize (s.takeWhile (inB lo hi)).length = R at *
  go_enter Tryd.func88, Tryd.ntmps88
  go_wp2_with fail
  go_loopw [11] (fun _ wr => ∃ pos : Nat, pos ≤ s.length ∧ Hid (wr.heap[w.heap.size]? = some (.stringIter ⟨s.toArray⟩ pos)) ∧ Hid ((s.take pos).all (inB lo hi) = true) ∧ Hid (Below w.heap.size w wr)) (fun _ wr => s.length - wr.iterPos w.heap.size)
  case atStart =>
    refine ⟨0, by omega, World.iter_heap w ⟨s.toArray⟩ 0, rfl, (Below.refl _ w).alloc (Nat.le_refl _) _⟩
  case round =>
    obtain ⟨pos, hpos, HIT, HAL, HB⟩ := hrel
    have hsz : w.heap.size < wr.heap.size := (Array.getElem?_eq_some_iff.1 HIT.out).1
    by_cases hlt' : pos < s.length
    · have hp : pos < (ByteArray.mk s.toArray).size := by rw [tx_size]; exact hlt'
      obtain ⟨c, hcj⟩ : ∃ c, s[pos]? = some c := ⟨s[pos], List.getElem?_eq_getElem hlt'⟩
      have he := tx_at hcj hp
      by_cases hin : inB lo hi c = true
      · have hc2 : lo ≤ c.toNat ∧ c.toNat ≤ hi := by unfold inB at hin; simpa using hin
        have hnx : ∀ ty, (Instr.next (.pointer (some ⟨w.heap.size, 0, none⟩)) true ty).run Tryd.prog wr = .ok (.tuple #[.bool true, .int .i64 pos, .int .i32 (c.toNat : Int)]) (wr.iterAt w.heap.size ⟨s.toArray⟩ (pos + 1)) := fun ty => by
          rw [Lib.run_next_ascii_at wr w.heap.size ⟨s.toArray⟩ pos ty HIT.out hp (by rw [he]; omega), he]
        have HIT2 : Hid ((wr.iterAt w.heap.size ⟨s.toArray⟩ (pos + 1)).heap[w.heap.size]? = some (.stringIter ⟨s.toArray⟩ (pos + 1))) := Lib.iterAt_heap wr w.heap.size ⟨s.toArray⟩ pos (pos + 1) HIT.out
        have HB2 : Hid (Below w.heap.size w (wr.iterAt w.heap.size ⟨s.toArray⟩ (pos + 1))) := Lib.below_iterAt HB.out (k := w.heap.size) (Nat.le_refl _) _ _
        have HAL2 : Hid ((s.take (pos + 1)).all (inB lo hi) = true) := by
          show (s.take (pos + 1)).all (inB lo hi) = true
          rw [take_snoc hcj, List.all_append, HAL.out]
          simp [hin]
        have HM : Hid (wr.iterPos w.heap.size = pos ∧ (wr.iterAt w.heap.size ⟨s.toArray⟩ (pos + 1)).iterPos w.heap.size = pos + 1) := by
          constructor
          · simp only [World.iterPos, HIT.out]
          · simp only [World.iterPos, HIT2.out]
        have c1 : (lo : Int) ≤ c.toNat := by omega
        have c2 : (c.toNat : Int) ≤ hi := by omega
        clear hcj hin hc2 he hp
        go_wp2_with fail
        go_roundw
        case rel => exact ⟨pos + 1, by omega, HIT2, HAL2, HB2⟩
        case measure => rw [HM.out.1, HM.out.2]; omega
      · have hin' : inB lo hi c = false := by simpa using hin
        have HR := (HS.out pos c HAL.out hcj hin').symm
        subst HR
        have hx : ¬ (lo ≤ c.toNat ∧ c.toNat ≤ hi) := by
          intro h
          exact hin (by unfold inB; simp [h.1, h.2])
        obtain ⟨z, hz, hzz, hz3⟩ : ∃ z : Nat, (Utf8.decode ⟨s.toArray⟩ pos).1 = z ∧ (z < lo ∨ hi < z) ∧ z ≤ 2147483647 := by
          refine ⟨_, rfl, ?_, decode_le _ _⟩
          by_cases ha : c.toNat < 128
          · rw [decode_ascii ⟨s.toArray⟩ pos hp (by rw [he]; exact ha), he]
            show c.toNat < lo ∨ hi < c.toNat
            omega
          · have := (decode_high ⟨s.toArray⟩ pos hp (by rw [he]; omega)).1
            omega
        obtain ⟨np, hnp⟩ : ∃ np, pos + (Utf8.decode ⟨s.toArray⟩ pos).2 = np := ⟨_, rfl⟩
        have hnx : ∀ ty, (Instr.next (.pointer (some ⟨w.heap.size, 0, none⟩)) true ty).run Tryd.prog wr = .ok (.tuple #[.bool true, .int .i64 pos, .int .i32 (z : Int)]) (wr.iterAt w.heap.size ⟨s.toArray⟩ np) := fun ty => by
          rw [Lib.run_next_any_at wr w.heap.size ⟨s.toArray⟩ pos ty HIT.out hp, hz, hnp]
        have HB2 : Hid (Below w.heap.size w (wr.iterAt w.heap.size ⟨s.toArray⟩ np)) := Lib.below_iterAt HB.out (k := w.heap.size) (Nat.le_refl _) _ _
        clear hcj hin hin' hx he hp hz hnp
        by_cases hzl : z < lo
        · have c1 : (z : Int) < lo := by omega
          go_wp2_with fail
          go_ret
          exact ⟨rfl, HB2.out⟩
        · have c1 : ¬ (z : Int) < lo := by omega
          have c2 : (hi : Int) < z := by omega
          go_wp2_with fail
          go_ret
          exact ⟨rfl, HB2.out⟩
    · obtain rfl : pos = s.length := by omega
      have HR := HA.out (by have h := HAL.out; rw [List.take_length] at h; exact h)
      have HRR : Hid _ := HR
      clear HR
      have hnx : ∀ ty, (Instr.next (.pointer (some ⟨w.heap.size, 0, none⟩)) true ty).run Tryd.prog wr = _ := fun ty => Lib.run_next_end_at wr w.heap.size ⟨s.toArray⟩ s.length ty HIT.out (by rw [tx_size]; omega)
      go_wp2_with fail
      go_ret
      exact ⟨by rw [HRR.out]; rfl, HB.out⟩
theorem digitsSize_any (s : Tx) (hl : s.length ≤ 1048576) (w : World) : Calls Tryd.prog 59 #[tx s] w fun e w' => e = .returned (.int .i64 ((s.takeWhile isDig).length : Int)) ∧ Below w.heap.size w w' := by
  have g := runSize_any s 48 57 (by decide) (by decide) hl w
  rw [show inB 48 57 = isDig from rfl] at g
  generalize (s.takeWhile isDig).length = R at *
  go_enter Tryd.func59, Tryd.ntmps59
  go_wp2_with fail
  refine g.mono ?_
  rintro e w' ⟨rfl, hb⟩
  have HB : Hid _ := hb
  clear g hb
  go_wp2_with fail
  go_ret
  exact ⟨rfl, HB.out⟩
theorem lettersSize_any (s : Tx) (hl : s.length ≤ 1048576) (w : World) : Calls Tryd.prog 60 #[tx s] w fun e w' => e = .returned (.int .i64 ((s.takeWhile isLet).length : Int)) ∧ Below w.heap.size w w' := by
  have g := runSize_any s 97 122 (by decide) (by decide) hl w
  rw [show inB 97 122 = isLet from rfl] at g
  generalize (s.takeWhile isLet).length = R at *
  go_enter Tryd.func60, Tryd.ntmps60
  go_wp2_with fail
  refine g.mono ?_
  rintro e w' ⟨rfl, hb⟩
  have HB : Hid _ := hb
  clear g hb
  go_wp2_with fail
  go_ret
  exact ⟨rfl, HB.out⟩
end Go.Proofs.YtkfplichekebdaaDoor
