/-
  The table of masks as the program's text lays it: what the row's list of variables gives the walks, and a world that holds it.
-/
import Derived.Test.YtmhpnkfibecnmaaDoorCards
import Derived.Test.YtmhpnkfibecnmaaDoorTie
import Derived.Test.YtmhpnkfibecnmaaDoorWords
import Derived.ProofKit
import Derived.OpenShut
import Derived.Deep.DeepHandedRow
import Derived.Lib.LaidTab
namespace Go.Proofs.YtmhpnkfibecnmaaDoor
open Go Go.ChangeShapes Go.WideShapes Go.ChangeAt Go.RowKit
open M

/-- the table's name, as the given row lists it -/
abbrev nm : String := Rows.fnPlayedSpec.vars.headD Rows.fnPlayedSpec.name
abbrev tableH {H : Type} : DataW H := Rows.laid_loop_example_g00649_impl_wordMasks
theorem own : ownKnob Tryd.prog.godebug = none := by kernel_rfl
theorem gTab : Tryd.prog.globalNamed nm = some 0 := by kernel_rfl
theorem gTabType : (Tryd.prog.globals[0]?).map (·.type) = some 120 := by kernel_rfl
theorem cellsTab : Tryd.prog.cellsOf 120 = 65 := by kernel_rfl
theorem cellsElem : Tryd.prog.cellsOf 46 = 1 := by kernel_rfl
def maskZs : List Int := [0, 1, 3, 7, 15, 31, 63, 127, 255, 511, 1023, 2047, 4095, 8191, 16383, 32767, 65535, 131071, 262143, 524287, 1048575, 2097151, 4194303, 8388607, 16777215, 33554431, 67108863, 134217727, 268435455, 536870911, 1073741823, 2147483647, 4294967295, 8589934591, 17179869183, 34359738367, 68719476735, 137438953471, 274877906943, 549755813887, 1099511627775, 2199023255551, 4398046511103, 8796093022207, 17592186044415, 35184372088831, 70368744177663, 140737488355327, 281474976710655, 562949953421311, 1125899906842623, 2251799813685247, 4503599627370495, 9007199254740991, 18014398509481983, 36028797018963967, 72057594037927935, 144115188075855871, 288230376151711743, 576460752303423487, 1152921504606846975, 2305843009213693951, 4611686018427387903, 9223372036854775807, 18446744073709551615]
theorem maskZs_at : (List.range 65).all (fun k => maskZs.getD k 0 == pw k - 1) = true := by decide +kernel
def maskCells : Array Value := (maskZs.map fun z => Value.int .u64 z).toArray
theorem tabIs {W : World} (h : laidMetH Tryd.prog [(nm, tableH)] W) : Lib.TabIs Tryd.prog W nm .u64 maskZs :=
  Lib.tabIs_of_head (rest := []) gTab gTabType Tryd.underlying120 Tryd.underlying46 cellsElem cellsTab h
theorem tab_of {W : World} (h : Lib.TabIs Tryd.prog W nm .u64 maskZs) : Tab W := by
  intro k hk
  have hl : k < maskZs.length := by
    show k < 65
    omega
  have hc := h.cell gTab k hl
  have he := List.all_eq_true.1 maskZs_at k (List.mem_range.2 (by omega))
  rw [eq_of_beq he] at hc
  exact hc
theorem reads_table {H : Type} (enc : TypeId × Value → H) (W : World) (sp : Nat → Bool) : DataW.trod enc Tryd.prog W 0 sp true 3 120 maskCells.toList = some (tableH, []) := by kernel_rfl
/-- a world that holds the table -/
def laidWorld (P : Program) (os : Os) : World :=
  { World.holding P os ⟨#[], #[], []⟩ with heap := (World.holding P os ⟨#[], #[], []⟩).heap.modify 0 fun
      | .cells _ t frozen => .cells maskCells t frozen
      | o => o }
theorem laid_met (os : Os) (args : Array Value) : laidMet Tryd.prog [(nm, tableH)] ((laidWorld Tryd.prog os).forCall (fun _ _ => 0) ⟨#[], args, []⟩).memory :=
  laidMet_of_run' 8 (by kernel_rfl) (by kernel_rfl)
theorem vars_again {H : Type} (enc : TypeId × Value → H) {W : World} (hT : Lib.TabIs Tryd.prog W nm .u64 maskZs) (sp : Nat → Bool) :
    DataW.TrodVars enc Tryd.prog W sp [nm] [tableH] (MemPlace.row ⟨0, 0, none⟩ maskCells.size ++ [] ++ []) :=
  ⟨0, 120, maskCells, 3, [], [], gTab, gTabType, hT, reads_table enc W sp, rfl, rfl⟩
end Go.Proofs.YtmhpnkfibecnmaaDoor
