/-
  Numbers as texts: the program's NumText, over the library's FormatUint.
-/
import Derived.Test.YtkfplichekebdaaDoorShelf
import Derived.Test.YtkfplichekebdaaDoorTables
import Derived.Test.YtkfplichekebdaaDoorNumC
import Derived.Lib.ItoaMem
import Derived.BigCall
import Derived.BigGuard
namespace Go.Proofs.YtkfplichekebdaaDoor
open Go Go.RowKit Go.Sort Go.Lib
open M
set_option linter.unusedVariables false

theorem dec_num (n : Nat) : Lib.decDigits n = numL n := by
  refine numL_ind (P := fun n => Lib.decDigits n = numL n) ?_ ?_ n
  · intro n h
    rw [Lib.decDigits, dif_pos h, numL_small h]
    rfl
  · intro n h ih
    rw [Lib.decDigits, dif_neg (by omega), numL_big h, ih]
    rfl
theorem pow_tab {w : World} (h : Pow w) : Lib.TabIs Tryd.prog w nmPow .u64 Lib.pow10Tab := h
theorem small_at (i : Nat) (h : i < 100) (w : World) : Calls Tryd.prog 78 #[.int .i64 i] w fun e w' => e = .returned (tx (numL i)) ∧ w' = w := by
  rw [← dec_num]
  exact Any.internal_strconv_small Tryd.lays283 i h w
theorem numDigits_at (u : Nat) (h1 : 1 ≤ u) (h2 : u < 18446744073709551616) (w : World) (hP : Pow w) : Calls Tryd.prog 79 #[.int .u64 u] w fun e w' => e = .returned (.int .i64 (Lib.nDigits u)) ∧ w' = w :=
  Any.internal_strconv_numDigits Tryd.laysM284 u h1 h2 w (pow_tab hP)
theorem base10_at (blk off cap : Nat) (u : Nat) (d : Array UInt8) (w : World) (hH : Holds (fun (b : UInt8) => Value.int .u8 (b.toNat : Int)) w blk off d) (hu : u < 10 ^ d.size) (hu64 : u < 18446744073709551616) (hsz : d.size < 4611686018427387904) :
    Calls Tryd.prog 80 #[.slice (some ⟨blk, off, none⟩) d.size cap, .int .u64 u] w fun e w' =>
      e = .returned (.tuple #[]) ∧ ∃ (n v' : Nat) (dk : Array UInt8), w' = (putRow (fun (b : UInt8) => Value.int .u8 (b.toNat : Int)) w blk off dk).drewN n ∧ FmtInv d.size u 0 v' dk :=
  Any.internal_strconv_formatBase10 Tryd.lays285 blk off cap u d w hH hu hu64 hsz
/-- the new block's bytes are a row of zeros -/
theorem holds_zero0 (w : World) (T : TypeId) (nd : Nat) (hs : nd ≤ 24) : Holds (fun (b : UInt8) => Value.int .u8 (b.toNat : Int)) (w.alloc (.cells zeros24 T)) w.heap.size 0 (Array.replicate nd (0 : UInt8)) := fun j hj => by
  have hj' : j < nd := by simpa using hj
  refine ⟨?_, World.frozen?_alloc_new _ _ _ _⟩
  rw [World.cell?_alloc_new, zeros24_at _ (by omega), getElem!_pos _ j hj]
  simp
theorem fin_zero (w : World) (o : Obj) (dk : Array UInt8) (k : Nat) : Below w.heap.size w ((putRow (fun (b : UInt8) => Value.int .u8 (b.toNat : Int)) (w.alloc o) w.heap.size 0 dk).drewN k) := by
  rw [alloc_eq_grow]
  obtain ⟨os', _, e⟩ := putRow_grow_new (fun (b : UInt8) => Value.int .u8 (b.toNat : Int)) w #[o] w.heap.size 0 dk (Nat.le_refl _)
  rw [e]
  show Below w.heap.size w (grow (w.drewN k) os')
  refine ⟨rfl, rfl, rfl, by simp [grow, World.drewN], fun i hi => ?_⟩
  simp [grow, World.drewN, Array.getElem?_append, hi]
set_option maxHeartbeats 6400000 in
set_option maxRecDepth 100000 in
theorem format_big (u : Nat) (h100 : 100 ≤ u) (hu64 : u < 18446744073709551616) (w : World) (hP : Pow w) :
    Calls Tryd.prog 53 #[.int .u64 u, .int .i64 10] w fun e w' => e = .returned (tx (numL u)) ∧ Below w.heap.size w w' := by
  have hnd20 : Lib.nDigits u ≤ 20 := by rw [← Lib.decDigits_length, dec_num]; exact numL_len20 hu64
  have hal : Tryd.prog.arrayLen 98 = 24 := by kernel_rfl
  have hsl1 : ∀ W, (Instr.sliceAt 98 (.pointer (some ⟨w.heap.size, 0, none⟩)) none (some (.int .i64 (Lib.nDigits u : Int))) none).run Tryd.prog W = .ok (.slice (some ⟨w.heap.size, 0, none⟩) (Lib.nDigits u) 24) W := fun W => by
    rw [run_sliceAt_array_h W 98 ⟨w.heap.size, 0, none⟩ (by simp [Program.arrayLen, Program.elem, Tryd.underlying98]) .i64 (Lib.nDigits u : Int) (by omega) (by rw [hal]; omega)]
    go_simp
  have hH0 := holds_zero0 w 98 (Lib.nDigits u) (by omega)
  have hfmt := base10_at w.heap.size 0 24 u (Array.replicate (Lib.nDigits u) 0) (w.alloc (.cells Lib.zeros24 98)) hH0 (by rw [Array.size_replicate]; exact Lib.lt_pow_nDigits u) hu64 (by rw [Array.size_replicate]; omega)
  rw [Array.size_replicate] at hfmt
  have HH0 := Lib.hid hH0
  have gN := numDigits_at u (by omega) hu64 (w.alloc (.cells Lib.zeros24 98)) (Lib.tabIs_alloc hP _)
  rw [← dec_num]
  have HL : Hid ((Lib.decDigits u).length = Lib.nDigits u) := Lib.decDigits_length u
  have HR : Hid (∀ {v' : Nat} {dk : Array UInt8}, FmtInv (Lib.nDigits u) u 0 v' dk → ∀ (j : Nat) (hj : j < (Lib.decDigits u).length), (Lib.decDigits u)[j] = dk[j]!) := fun h j hj => Lib.row_is_numeral h j hj
  clear hH0 hal hP
  generalize Lib.decDigits u = l at *
  generalize Lib.nDigits u = nd at *
  go_enter Tryd.func53, Tryd.ntmps53
  go_wp2_with fail
  refine gN.mono ?_
  rintro e w1 ⟨rfl, rfl⟩
  clear gN
  go_wp2_with fail
  refine hfmt.mono ?_
  rintro e w2 ⟨rfl, k, v', dk, rfl, hF⟩
  clear hfmt
  have HB : Hid _ := fin_zero w (.cells Lib.zeros24 98) dk k
  have hcv : (convert 80 9 (.slice (some ⟨w.heap.size, 0, none⟩) nd 24)).run Tryd.prog ((putRow (fun (b : UInt8) => Value.int .u8 (b.toNat : Int)) (w.alloc (.cells Lib.zeros24 98)) w.heap.size 0 dk).drewN k) = .ok (tx l) ((putRow (fun (b : UInt8) => Value.int .u8 (b.toNat : Int)) (w.alloc (.cells Lib.zeros24 98)) w.heap.size 0 dk).drewN k) := by
    have h := run_convert_bytes_back (P := Tryd.prog) ((putRow (fun (b : UInt8) => Value.int .u8 (b.toNat : Int)) (w.alloc (.cells Lib.zeros24 98)) w.heap.size 0 dk).drewN k) 80 9 5 ⟨w.heap.size, 0, none⟩ 24 l Tryd.underlying80 Tryd.underlying5 Tryd.underlying9 (fun j hj => by
      rw [HR.out hF j hj, Lib.add_plain, World.cell?_drewN]
      exact cell?_putRow (fun (b : UInt8) => Value.int .u8 (b.toNat : Int)) _ w.heap.size 0 _ dk HH0.out (by rw [hF.size, Array.size_replicate]) j (by rw [hF.size, ← HL.out]; exact hj))
    rw [HL.out] at h
    exact h
  generalize (putRow (fun (b : UInt8) => Value.int .u8 (b.toNat : Int)) (w.alloc (.cells Lib.zeros24 98)) w.heap.size 0 dk).drewN k = w2 at *
  go_wp2_with fail
  go_ret
  exact ⟨rfl, HB.out⟩
theorem format_small (u : Nat) (h100 : u < 100) (w : World) :
    Calls Tryd.prog 53 #[.int .u64 u, .int .i64 10] w fun e w' => e = .returned (tx (numL u)) ∧ Below w.heap.size w w' := by
  have g := small_at u h100 w
  generalize numL u = l at *
  go_enter Tryd.func53, Tryd.ntmps53
  go_wp2_with fail
  refine g.mono ?_
  rintro e w1 ⟨rfl, rfl⟩
  clear g
  go_wp2_with fail
  go_ret
  exact ⟨rfl, Below.refl _ _⟩
theorem format_any (u : Nat) (hu64 : u < 18446744073709551616) (w : World) (hP : Pow w) :
    Calls Tryd.prog 53 #[.int .u64 u, .int .i64 10] w fun e w' => e = .returned (tx (numL u)) ∧ Below w.heap.size w w' := by
  by_cases h : u < 100
  · exact format_small u h w
  · exact format_big u (by omega) hu64 w hP
theorem formatUint_any (u : Nat) (hu64 : u < 18446744073709551616) (w : World) (hP : Pow w) :
    Calls Tryd.prog 30 #[.int .u64 u, .int .i64 10] w fun e w' => e = .returned (tx (numL u)) ∧ Below w.heap.size w w' := by
  have g := format_any u hu64 w hP
  clear hP
  generalize numL u = l at *
  go_enter Tryd.func30, Tryd.ntmps30
  go_wp2_with fail
  refine g.mono ?_
  rintro e w1 ⟨rfl, hb⟩
  have HB : Hid _ := hb
  clear g hb
  go_wp2_with fail
  go_ret
  exact ⟨rfl, HB.out⟩
theorem iNumText_any (u : Nat) (hu64 : u < 18446744073709551616) (w : World) (hP : Pow w) :
    Calls Tryd.prog 10 #[.int .u64 u] w fun e w' => e = .returned (tx (numL u)) ∧ Below w.heap.size w w' := by
  have g := formatUint_any u hu64 w hP
  clear hP
  generalize numL u = l at *
  go_enter Tryd.func10, Tryd.ntmps10
  go_wp2_with fail
  refine g.mono ?_
  rintro e w1 ⟨rfl, hb⟩
  have HB : Hid _ := hb
  clear g hb
  go_wp2_with fail
  go_ret
  exact ⟨rfl, HB.out⟩
end Go.Proofs.YtkfplichekebdaaDoor
