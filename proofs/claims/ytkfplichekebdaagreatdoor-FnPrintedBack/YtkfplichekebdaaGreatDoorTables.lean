/-
  The package-level variables as the program's text lays them: what a row's list of them gives the walks, and a world that holds them all.
-/
import Derived.Test.YtkfplichekebdaaGreatDoorCards
import Derived.Test.YtkfplichekebdaaGreatDoorTie
import Derived.Test.YtkfplichekebdaaGreatDoorWords
import Derived.Test.YtkfplichekebdaaGreatDoorText
import Derived.ProofKit
import Derived.OpenShut
import Derived.Deep.DeepHandedRow
import Derived.Lib.LaidTab
import Derived.Stop.LaidErr
import Derived.OpenVars
import Derived.ChangeOld
import Derived.WalkSmall
namespace Go.Proofs.YtkfplichekebdaaGreatDoor
open Go Go.ChangeShapes Go.WideShapes Go.ChangeAt Go.RowKit
open M
set_option linter.unusedVariables false

theorem own : ownKnob Tryz.prog.godebug = none := by kernel_rfl
theorem laidOut : laidOutB Tryz.prog = true := by kernel_rfl
theorem laid_tail {P : Program} {W : World} {x : String × DataW Unit} {r : List (String × DataW Unit)} (h : laidMet P (x :: r) W) : laidMet P r W := by
  obtain ⟨ps, ⟨g, t, cs, fuel, p, q, _, _, _, _, h5, rfl⟩, hnd, hrows⟩ := h
  exact ⟨q, h5, (List.nodup_append.1 hnd).2.1, fun b off hm => hrows b off (List.mem_append_right _ hm)⟩

/-- the table of masks -/
abbrev nmMasks : String := ((Rows.fnReadBackRow.laid.map Prod.fst).getD 5 Rows.fnReadBackRow.program)
abbrev masksH {H : Type} : DataW H := Rows.laid_loop_example_g00649_impl_wordMasks
theorem gMasks : Tryz.prog.globalNamed nmMasks = some 1 := by kernel_rfl
theorem gMasksType : (Tryz.prog.globals[1]?).map (·.type) = some 125 := by kernel_rfl
theorem cellsMasks : Tryz.prog.cellsOf 125 = 65 := by kernel_rfl
theorem cellsU64 : Tryz.prog.cellsOf 34 = 1 := by kernel_rfl
def maskZs : List Int := [0, 1, 3, 7, 15, 31, 63, 127, 255, 511, 1023, 2047, 4095, 8191, 16383, 32767, 65535, 131071, 262143, 524287, 1048575, 2097151, 4194303, 8388607, 16777215, 33554431, 67108863, 134217727, 268435455, 536870911, 1073741823, 2147483647, 4294967295, 8589934591, 17179869183, 34359738367, 68719476735, 137438953471, 274877906943, 549755813887, 1099511627775, 2199023255551, 4398046511103, 8796093022207, 17592186044415, 35184372088831, 70368744177663, 140737488355327, 281474976710655, 562949953421311, 1125899906842623, 2251799813685247, 4503599627370495, 9007199254740991, 18014398509481983, 36028797018963967, 72057594037927935, 144115188075855871, 288230376151711743, 576460752303423487, 1152921504606846975, 2305843009213693951, 4611686018427387903, 9223372036854775807, 18446744073709551615]
theorem maskZs_at : (List.range 65).all (fun k => maskZs.getD k 0 == pw k - 1) = true := by decide +kernel
theorem masks_of {W : World} {r : List (String × DataW Unit)} (h : laidMet Tryz.prog ((nmMasks, masksH) :: r) W) : Tab W := by
  have hT : Lib.TabIs Tryz.prog W nmMasks .u64 maskZs := Lib.tabIs_of_head gMasks gMasksType Tryz.underlying125 Tryz.underlying34 cellsU64 cellsMasks h
  intro k hk
  have hl : k < maskZs.length := by
    show k < 65
    omega
  have hc := hT.cell gMasks k hl
  have he := List.all_eq_true.1 maskZs_at k (List.mem_range.2 (by omega))
  rw [eq_of_beq he] at hc
  exact hc

/-- the table of signs -/
abbrev nmSigns : String := ((Rows.fnReadBackRow.laid.map Prod.fst).getD 6 Rows.fnReadBackRow.program)
abbrev signsH {H : Type} : DataW H := Rows.laid_loop_example_g00649_impl_opSigns
theorem gSigns : Tryz.prog.globalNamed nmSigns = some 0 := by kernel_rfl
theorem gSignsType : (Tryz.prog.globals[0]?).map (·.type) = some 90 := by kernel_rfl
theorem cellsSigns : Tryz.prog.cellsOf 90 = 21 := by kernel_rfl
theorem cellsStr : Tryz.prog.cellsOf 9 = 1 := by kernel_rfl
def signLs : List Tx := (List.range 21).map signN
abbrev signsA : Array Value := (signLs.map fun z => Value.string ⟨z.toArray⟩).toArray
/-- the table of signs lies as it was laid -/
def Signs (w : World) : Prop := ∃ (t : TypeId) (fr : Nat × Nat), w.heap[0]? = some (.cells signsA t fr)
/-- an array of texts that reads as the table holds the table's texts, cell for cell -/
theorem cells_of_strs {H : Type} {enc : TypeId × Value → H} {P : Program} {w : World} {base : Nat} {sp : Nat → Bool} {held : Bool} {fuel : Nat} {t e : TypeId} {n : Nat} {cs : List Value} {zs : List Tx} {p : List MemPlace}
    (ht : P.underlying t = some (.array n e)) (he : P.underlying e = some .string) (hce : P.cellsOf e = 1) (hct : P.cellsOf t = n)
    (h : DataW.trod enc P w base sp held fuel t cs = some (.agg (zs.map fun z => .lit (.string z)), p)) : cs = zs.map fun z => Value.string ⟨z.toArray⟩ := by
  cases fuel with
  | zero => simp [DataW.trod] at h
  | succ fuel =>
    simp only [DataW.trod, ht, hce, hct, Nat.mul_one] at h
    split at h
    · rename_i hl
      obtain ⟨xs, hm, hx⟩ := Option.map_eq_some_iff.1 h
      have hxs : xs.map (·.1) = zs.map fun z => (DataW.lit (.string z) : DataW H) := by
        have := congrArg Prod.fst hx
        simpa using this
      have hxl : xs.length = n := by simpa using Lib.mapM_length hm
      have hzl : zs.length = n := by
        have := congrArg List.length hxs
        simp at this
        omega
      apply List.ext_getElem?
      intro i
      by_cases hi : i < n
      · obtain ⟨b, hb, hf⟩ := Lib.mapM_at hm i i (by simp [hi])
        obtain ⟨z, hc, rfl, _⟩ := DataW.trod_string he hf
        have h1 : cs[i]? = some (.string z) := by
          have := congrArg (·[0]?) hc
          simpa [List.getElem?_take, List.getElem?_drop] using this
        have h2 : (xs.map (·.1))[i]? = some (DataW.lit (.string z.data.toList) : DataW H) := by simp [hb]
        rw [hxs] at h2
        simp only [List.getElem?_map, Option.map_eq_some_iff, DataW.lit.injEq, Lit.string.injEq] at h2
        obtain ⟨z', hz', rfl⟩ := h2
        rw [h1, List.getElem?_map, hz']
        rfl
      · rw [List.getElem?_eq_none (by omega), List.getElem?_eq_none (by simp; omega)]
    · cases h
theorem signs_of {W : World} {r : List (String × DataW Unit)} (h : laidMet Tryz.prog ((nmSigns, signsH) :: r) W) : Signs W := by
  obtain ⟨ps, ⟨g', t', cs, fuel, p, q, hg', ht', hvar, hd, _, _⟩, _⟩ := h
  obtain rfl := Option.some.inj (gSigns.symm.trans hg')
  obtain rfl := Option.some.inj (gSignsType.symm.trans ht')
  have hcs := cells_of_strs (zs := signLs) Tryz.underlying90 Tryz.underlying9 cellsStr cellsSigns hd
  obtain rfl : cs = signsA := by rw [← Array.toArray_toList (xs := cs), hcs]
  unfold World.var? at hvar
  rw [gSigns] at hvar
  simp only [Option.bind_some] at hvar
  cases hb : W.heap[0]? with
  | none => rw [hb] at hvar; simp at hvar
  | some o =>
    rw [hb] at hvar
    cases o with
    | cells c t fr =>
      simp at hvar
      subst hvar
      exact ⟨t, fr, hb⟩
    | _ => simp at hvar
theorem Signs.lt {w : World} (h : Signs w) : 0 < w.heap.size := by
  obtain ⟨t, fr, h⟩ := h
  exact (Array.getElem?_eq_some_iff.1 h).1
theorem Signs.below {w w' : World} (h : Signs w) (hb : Below w.heap.size w w') : Signs w' := by
  have hs := h.lt
  obtain ⟨t, fr, h⟩ := h
  exact ⟨t, fr, by rw [hb.block _ hs]; exact h⟩
theorem Signs.cell {w : World} (h : Signs w) (k : Nat) (hk : k ≤ 20) : w.cell? ⟨0, k, none⟩ = some (.string ⟨(signN k).toArray⟩) := by
  obtain ⟨t, fr, h⟩ := h
  have h2 : signsA[k]? = some (.string ⟨(signN k).toArray⟩) := by
    simp only [signsA, signLs, List.getElem?_toArray, List.getElem?_map, List.getElem?_range (show k < 21 by omega)]
    rfl
  simp [World.cell?, h, h2]

/-- the table of powers of ten -/
abbrev nmPow : String := ((Rows.fnReadBackRow.laid.map Prod.fst).getD 2 Rows.fnReadBackRow.program)
abbrev powH {H : Type} : DataW H := Rows.laid_internal_strconv_uint64pow10
theorem gPow : Tryz.prog.globalNamed nmPow = some 2 := by kernel_rfl
theorem gPowType : (Tryz.prog.globals[2]?).map (·.type) = some 129 := by kernel_rfl
theorem cellsPow : Tryz.prog.cellsOf 129 = 20 := by kernel_rfl
def powZs : List Int := [1, 10, 100, 1000, 10000, 100000, 1000000, 10000000, 100000000, 1000000000, 10000000000, 100000000000, 1000000000000, 10000000000000, 100000000000000, 1000000000000000, 10000000000000000, 100000000000000000, 1000000000000000000, 10000000000000000000]
/-- the table of powers of ten lies as it was laid -/
def Pow (w : World) : Prop := Lib.TabIs Tryz.prog w nmPow .u64 powZs
theorem pow_of {W : World} {r : List (String × DataW Unit)} (h : laidMet Tryz.prog ((nmPow, powH) :: r) W) : Pow W :=
  Lib.tabIs_of_head gPow gPowType Tryz.underlying129 Tryz.underlying34 cellsU64 cellsPow h
theorem Pow.lt {w : World} (h : Pow w) : 2 < w.heap.size := by
  have h0 := h.cell gPow 0 (by decide)
  by_cases hb : 2 < w.heap.size
  · exact hb
  · have e : w.heap[2]? = none := Array.getElem?_eq_none (by omega)
    simp [World.cell?, e] at h0
theorem Pow.below {w w' : World} (h : Pow w) (hb : Below w.heap.size w w') : Pow w' := var?_below hb gPow h.lt h

/-- the two errors of the library -/
abbrev nmRange : String := ((Rows.fnReadBackRow.laid.map Prod.fst).getD 3 Rows.fnReadBackRow.program)
abbrev nmSyntax : String := ((Rows.fnReadBackRow.laid.map Prod.fst).getD 4 Rows.fnReadBackRow.program)
abbrev rangeH {H : Type} : DataW H := Rows.laid_strconv_ErrRange
abbrev syntaxH {H : Type} : DataW H := Rows.laid_strconv_ErrSyntax

/-- a variable that holds an error -/
def ErrAt (g : Nat) (w : World) : Prop := g < w.heap.size ∧ ∃ (tp : TypeId) (p : Value), w.cell? ⟨g, 0, none⟩ = some (.iface tp p)
theorem ErrAt.below {g : Nat} {w w' : World} (h : ErrAt g w) (hb : Below w.heap.size w w') : ErrAt g w' := by
  obtain ⟨h0, tp, p, h⟩ := h
  exact ⟨Nat.lt_of_lt_of_le h0 hb.size, tp, p, by rw [hb.cell (p := ⟨g, 0, none⟩) h0]; exact h⟩
theorem gRange : Tryz.prog.globalNamed nmRange = some 4 := by kernel_rfl
theorem gRangeType : (Tryz.prog.globals[4]?).map (·.type) = some 70 := by kernel_rfl
theorem gSyntax : Tryz.prog.globalNamed nmSyntax = some 3 := by kernel_rfl
theorem gSyntaxType : (Tryz.prog.globals[3]?).map (·.type) = some 70 := by kernel_rfl
theorem err_of {W : World} {r : List (String × DataW Unit)} {n nm : String} {g : Nat} {x : DataW Unit} {ms : Array (String × TypeId)} (h : laidMet Tryz.prog ((n, .iface nm x) :: r) W) (hg : Tryz.prog.globalNamed n = some g)
    (ht : (Tryz.prog.globals[g]?).map (·.type) = some 70) (hu : Tryz.prog.underlying 70 = some (.interface ms)) : ErrAt g W := by
  obtain ⟨ps, ⟨g', t', cs, fuel, p, q, hg', ht', hvar, hd', _, _⟩, _⟩ := h
  obtain rfl := Option.some.inj (hg.symm.trans hg')
  obtain rfl := Option.some.inj (ht.symm.trans ht')
  obtain ⟨f1, u, v, hcs, _⟩ := iface_of_trod hu hd'
  obtain ⟨l⟩ := cs
  simp only at hcs
  subst hcs
  have hc := World.var?_cell hg hvar 0
  have hc2 : W.cell? ⟨g, 0, none⟩ = some (.iface u v) := by simpa using hc
  refine ⟨?_, u, v, hc2⟩
  by_cases hb : g < W.heap.size
  · exact hb
  · have e : W.heap[g]? = none := Array.getElem?_eq_none (by omega)
    simp [World.cell?, e] at hc2
theorem range_of {W : World} {r : List (String × DataW Unit)} (h : laidMet Tryz.prog ((nmRange, rangeH) :: r) W) : ErrAt 4 W := err_of h gRange gRangeType Tryz.underlying70
theorem syntax_of {W : World} {r : List (String × DataW Unit)} (h : laidMet Tryz.prog ((nmSyntax, syntaxH) :: r) W) : ErrAt 3 W := err_of h gSyntax gSyntaxType Tryz.underlying70
def dB32 : List Int := [0, 1, 28, 2, 29, 14, 24, 3, 30, 22, 20, 15, 25, 17, 4, 8, 31, 27, 13, 23, 21, 19, 16, 7, 26, 12, 18, 6, 11, 5, 10, 9]
def dB64 : List Int := [0, 1, 56, 2, 57, 49, 28, 3, 61, 58, 42, 50, 38, 29, 17, 4, 62, 47, 59, 36, 45, 43, 51, 22, 53, 39, 33, 30, 24, 18, 12, 5, 63, 55, 48, 27, 60, 41, 37, 16, 46, 35, 44, 21, 52, 32, 23, 11, 54, 26, 40, 15, 34, 20, 31, 10, 25, 14, 19, 9, 13, 8, 7, 6]
/-- a world that holds them all -/
def laidWorld (P : Program) (os : Os) : World :=
  let w0 := World.holding P os ⟨#[.cells #[.string ⟨#[118, 97, 108, 117, 101, 32, 111, 117, 116, 32, 111, 102, 32, 114, 97, 110, 103, 101]⟩] 139, .cells #[.string ⟨#[105, 110, 118, 97, 108, 105, 100, 32, 115, 121, 110, 116, 97, 120]⟩] 139], #[], []⟩
  let low := (World.holding P os ⟨#[], #[], []⟩).heap.size
  let put := fun (h : Array Obj) (g : Nat) (cs : Array Value) => h.modify g fun
      | .cells _ t frozen => .cells cs t frozen
      | o => o
  { w0 with heap := put (put (put (put (put (put (put w0.heap 1 (maskZs.map fun z => Value.int .u64 z).toArray) 0 (signLs.map fun z => Value.string ⟨z.toArray⟩).toArray) 2 (powZs.map fun z => Value.int .u64 z).toArray)
      4 #[.iface 137 (.pointer (some ⟨low, 0, none⟩))]) 3 #[.iface 137 (.pointer (some ⟨low + 1, 0, none⟩))])
      5 (dB32.map fun z => Value.int .u8 z).toArray) 6 (dB64.map fun z => Value.int .u8 z).toArray }
end Go.Proofs.YtkfplichekebdaaGreatDoor
