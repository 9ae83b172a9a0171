/-
  Numbers as texts: contracts.
-/
import Derived.Test.YtkfplichekebdaaGreatDoorNeed
import Derived.Test.YtkfplichekebdaaGreatDoorText
import Derived.Laws.IdiomStrings
import Derived.Deep.RegionWith
namespace Go.Proofs.YtkfplichekebdaaGreatDoor
open Go Go.RowKit
open M
set_option linter.unusedVariables false

/-- a text as the program holds it -/
abbrev tx (l : Tx) : Value := .string ⟨l.toArray⟩
/-- a text of one byte, made of a new row -/
theorem conv_row (w : World) (a : Addr) (x : Int) (b : UInt8) (hx : x = (b.toNat : Int)) (hc : w.cell? a = some (.int .u8 x)) :
    (convert 22 9 (.slice (some a) 1 1)).run Tryz.prog w = .ok (tx [b]) w := by
  refine run_convert_bytes_back w 22 9 5 a 1 [b] Tryz.underlying22 Tryz.underlying5 Tryz.underlying9 ?_
  intro j hj
  obtain rfl : j = 0 := by simpa using hj
  subst hx
  have : (a.add 0) = a := by simp [Addr.add]
  rw [this]
  exact hc
theorem conv_one (w : World) (x : Int) (b : UInt8) (hx : x = (b.toNat : Int)) :
    (convert 22 9 (.slice (some ⟨w.heap.size, 0, none⟩) 1 1)).run Tryz.prog (w.alloc (.cells #[.int .u8 x] 5)) = .ok (tx [b]) (w.alloc (.cells #[.int .u8 x] 5)) :=
  conv_row _ _ x b hx (by simp)
set_option maxRecDepth 100000 in
theorem l1Num_small (n : Nat) (h : n < 10) (w : World) : Calls Tryz.prog 43 #[.int .u64 n] w fun e w' => e = .returned (tx (numL n)) ∧ Below w.heap.size w w' := by
  have hc := conv_one w (48 + (n : Int)) (dig n) (by rw [dig_nat h]; omega)
  rw [numL_small h]
  go_enter Tryz.func43, Tryz.ntmps43
  go_wp2_with fail
  go_ret
  exact ⟨rfl, (Below.refl _ _).alloc (Nat.le_refl _) _⟩
set_option maxRecDepth 100000 in
set_option maxHeartbeats 2000000 in
theorem l1Num_big (n : Nat) (q x : Int) (l : Tx) (b : UInt8) (h : 10 ≤ n) (hn : n < 18446744073709551616) (hl : l.length ≤ 20) (e1 : IntKind.u64.wrap ((n : Int) / 10) = q) (e2 : IntKind.u8.wrap (IntKind.u64.wrap (48 + (n : Int).tmod 10)) = x) (hr : x = (b.toNat : Int))
    (G : Hid (∀ w : World, Calls Tryz.prog 43 #[.int .u64 q] w fun e w' => e = .returned (tx l) ∧ Below w.heap.size w w')) (w : World) :
    Calls Tryz.prog 43 #[.int .u64 n] w fun e w' => e = .returned (tx (l ++ [b])) ∧ Below w.heap.size w w' := by
  have hc : ∀ (w : World) (a : Addr), w.cell? a = some (.int .u8 x) → (convert 22 9 (.slice (some a) 1 1)).run Tryz.prog w = .ok (tx [b]) w := fun w a ha => conv_row w a x b hr ha
  have ha := fun w : World => run_string_add_sum (P := Tryz.prog) w ⟨l.toArray⟩ ⟨[b].toArray⟩ (by simp [ByteArray.size]; omega)
  rw [ByteArray.mk_append_mk] at ha
  clear hr
  go_enter Tryz.func43, Tryz.ntmps43
  go_wp2_with fail
  go_region_with (go_at_call 43; refine (G.out _).mono ?_; rintro e w2 ⟨rfl, hb2⟩; have hk := @Below.cell _ _ _ hb2)
  all_goals
    have HB : Hid (_ ∧ _) := ⟨hb2, trivial⟩
    clear hk hb2 hc
    go_wp2_with fail
    go_ret
    refine ⟨rfl, ?_⟩
    first
      | exact ((Below.refl _ _).drew.trans (HB.out.1.mono (Nat.le_refl _))).alloc (HB.out.1.size) _
      | exact ((Below.refl _ _).drew.alloc (Nat.le_refl _) _).trans (HB.out.1.mono (by simp))
theorem l1Num_any (n : Nat) : n < 18446744073709551616 → ∀ w : World, Calls Tryz.prog 43 #[.int .u64 n] w fun e w' => e = .returned (tx (numL n)) ∧ Below w.heap.size w w' := by
  refine numL_ind (P := fun n => n < 18446744073709551616 → ∀ w : World, Calls Tryz.prog 43 #[.int .u64 n] w fun e w' => e = .returned (tx (numL n)) ∧ Below w.heap.size w w') ?_ ?_ n
  · intro n h _ w
    exact l1Num_small n h w
  · intro n h ih hn w
    rw [numL_big h]
    refine l1Num_big n ((n / 10 : Nat) : Int) (48 + (n % 10 : Nat) : Int) _ _ h hn (numL_len20 (by omega)) ?_ ?_ (by rw [dig_nat (by omega)]; omega) (ih (by omega)) w
    · rw [IntWalk.u64_in _ ⟨by omega, by omega⟩]
      omega
    · rw [Int.tmod_eq_emod_of_nonneg (by omega), IntWalk.u64_in _ ⟨by omega, by omega⟩, IntWalk.u8_in _ ⟨by omega, by omega⟩]
      omega
end Go.Proofs.YtkfplichekebdaaGreatDoor
