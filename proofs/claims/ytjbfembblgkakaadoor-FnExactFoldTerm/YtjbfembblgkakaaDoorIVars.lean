/-
  The variables of a tree: the program's nameVars, hasVars and VarsIn.
-/
import Derived.Test.YtjbfembblgkakaaDoorILay2
import Derived.Test.YtjbfembblgkakaaDoorTreeM
import Derived.Test.YtjbfembblgkakaaDoorLVars
namespace Go.Proofs.YtjbfembblgkakaaDoor
open Go Go.RowKit
open M
set_option linter.unusedVariables false

/-- of what lay there nothing but block g has turned -/
structure But (g : Nat) (w w' : World) : Prop where
  os : w'.os = w.os
  tape : w'.tape = w.tape
  output : w'.output = w.output
  size : w.heap.size ≤ w'.heap.size
  block : ∀ k, k ≠ g → k < w.heap.size → w'.heap[k]? = w.heap[k]?
theorem But.refl (g : Nat) (w : World) : But g w w := ⟨rfl, rfl, rfl, Nat.le_refl _, fun _ _ _ => rfl⟩
theorem But.trans {g : Nat} {u v w : World} (h : But g u v) (k : But g v w) : But g u w :=
  ⟨k.os.trans h.os, k.tape.trans h.tape, k.output.trans h.output, Nat.le_trans h.size k.size, fun i hi hs => (k.block i hi (Nat.lt_of_lt_of_le hs h.size)).trans (h.block i hi hs)⟩
theorem But.setCell {g : Nat} {u w : World} (h : But g u w) (o : Nat) (v : Value) : But g u (w.setCell ⟨g, o, none⟩ v) :=
  h.trans ⟨rfl, rfl, rfl, by simp [World.setCell], fun k hk _ => Below.heap_setCell _ _ _ _ hk⟩
theorem But.drew {g : Nat} {u w : World} (h : But g u w) : But g u w.drew := ⟨h.os, h.tape, h.output, h.size, h.block⟩
theorem But.below {B g : Nat} {w w' : World} (h : But g w w') (hB : B ≤ g) (hs : B ≤ w.heap.size) : Below B w w' :=
  ⟨h.os, h.tape, h.output, h.size, fun k hk => h.block k (by omega) (by omega)⟩
/-- four truths in memory -/
def bools (f : Int → Bool) : Array Value := #[.bool (f 0), .bool (f 1), .bool (f 2), .bool (f 3)]
theorem bools_put (f : Int → Bool) (i : Nat) (h : i < 4) : (bools f).setIfInBounds i (.bool true) = bools (fun j => f j || j == (i : Int)) := by
  match i, h with
  | 0, _ => simp [bools]
  | 1, _ => simp [bools]
  | 2, _ => simp [bools]
  | 3, _ => simp [bools]
abbrev OldNot (w : World) (g : Nat) : Nat → Prop := fun k => k < w.heap.size ∧ k ≠ g
/-- what nameVars does with a tree -/
def NameP (r : Tr) : Prop := ∀ (b g : Nat) (f : Int → Bool) (w : World), TrAt w (OldNot w g) r b → w.heap[g]? = some (.cells (bools f) 114 (0, 0)) → (∀ x ∈ r.flat, x.1 = 2 → 0 ≤ x.2 ∧ x.2 < 4) → (∃ wide vars : Int, r.Ok wide vars) →
  Calls Tryd.prog 88 #[ptr b, ptr g] w fun e w' => e = .returned (.tuple #[]) ∧ w'.heap[g]? = some (.cells (bools (fun i => f i || decide ((2, i) ∈ r.flat))) 114 (0, 0)) ∧ But g w w'
set_option maxRecDepth 100000 in
set_option maxHeartbeats 4000000 in
theorem nameVars_leaf (b g i : Nat) (f : Int → Bool) (w : World) (htr : TrAt w (OldNot w g) (.leaf (2, (i : Int))) b) (hh : w.heap[g]? = some (.cells (bools f) 114 (0, 0))) (hi : i < 4) :
    Calls Tryd.prog 88 #[ptr b, ptr g] w fun e w' => e = .returned (.tuple #[]) ∧ w'.heap[g]? = some (.cells (bools (fun j => f j || j == (i : Int))) 114 (0, 0)) ∧ But g w w' := by
  obtain ⟨hb, n0, n1, _, _, pvl, n4, hpv⟩ := htr
  obtain ⟨pa, pc, rfl⟩ := hpv.shape
  have d0 : w.cell? ⟨g, i, none⟩ = some (.bool (f (i : Int))) := by
    rw [cell_heap hh]
    rcases (show i = 0 ∨ i = 1 ∨ i = 2 ∨ i = 3 by omega) with rfl | rfl | rfl | rfl <;> rfl
  have f0 := frozen_heap (o := i) hh
  have m4 : (w.setCell ⟨g, i, none⟩ (.bool true)).cell? ⟨b, 4, none⟩ = some (.slice pa 0 pc) := by
    rw [cell_otherBlock (fun e => hb.2 e.symm)]
    exact n4
  have m4' : (w.setCell ⟨g, i, none⟩ (.bool true)).drew.cell? ⟨b, 4, none⟩ = some (.slice pa 0 pc) := m4
  have HH : Hid ((w.setCell ⟨g, i, none⟩ (.bool true)).drew.heap[g]? = some (.cells (bools (fun j => f j || j == (i : Int))) 114 (0, 0))) := by
    show (w.setCell ⟨g, i, none⟩ (.bool true)).heap[g]? = _
    rw [heap_set hh, bools_put f i hi]
  have HB : Hid (But g w (w.setCell ⟨g, i, none⟩ (.bool true)).drew) := ((But.refl g w).setCell i _).drew
  simp only at n0 n1
  clear hpv hh hb n4
  go_enter Tryd.func88, Tryd.ntmps88
  go_wp2_with fail
  go_region
  all_goals
    go_wp2_with fail
    go_loop [25] (fun i => i = .int .i64 0) (fun _ => 0)
    case atStart => rfl
    case round =>
      obtain rfl := hrel
      go_wp2_with fail
      go_end0
      exact ⟨rfl, HH.out, HB.out⟩
set_option maxRecDepth 100000 in
set_option maxHeartbeats 4000000 in
theorem nameVars_step (r : Tr) (ih : ∀ q ∈ r.parts, NameP q) : NameP r := by
  intro b g f w htr hh hv ⟨wide, vars, hok⟩
  by_cases h2 : r.nd.1 = 2
  · have hm := (Tr.ok_nd hok).2.2
    rw [h2] at hm
    cases r with
    | leaf x =>
      obtain ⟨op, n⟩ := x
      obtain rfl : op = 2 := h2
      have h4 := hv (2, n) (by simp [Tr.flat]) rfl
      simp only at h4
      obtain ⟨i, rfl⟩ := Int.eq_ofNat_of_zero_le h4.1
      refine (nameVars_leaf b g i f w htr hh (by omega)).mono ?_
      rintro e w' ⟨he, h5, h6⟩
      refine ⟨he, ?_, h6⟩
      rw [h5]
      have e2 : (fun j : Int => f j || j == (i : Int)) = fun j => f j || decide (((2, j) : Nd) ∈ (Tr.leaf (2, (i : Int))).flat) := by
        funext j
        simp [Tr.flat]
        rfl
      rw [e2]
    | one x a => exact absurd (show (0 : Nat) = 1 from hm) (by decide)
    | two x a c => exact absurd (show (0 : Nat) = 2 from hm) (by decide)
  · have e2 : (r.nd.1 == 2) = false := beq_eq_false_iff_ne.2 h2
    obtain ⟨ps, ⟨hb, n0, n1, _, _, pvl, n4, hpv⟩, hpt⟩ := trAt_open htr
    obtain ⟨pa, pc, hpsh⟩ := hpv.shape
    have hpl2 : ps.length ≤ 2 := by
      have h2 : r.parts.length ≤ 2 := by cases r <;> simp [Tr.parts]
      have := hpt.1
      omega
    have HIH : Hid (∀ (j q' : Nat) (q : Tr) (w1 : World) (f' : Int → Bool), r.parts[j]? = some q → ps[j]? = some q' → But g w w1 → w1.heap[g]? = some (.cells (bools f') 114 (0, 0)) → Calls Tryd.prog 88 #[ptr q', ptr g] w1 fun e w' => e = .returned (.tuple #[]) ∧ w'.heap[g]? = some (.cells (bools (fun i => f' i || decide ((2, i) ∈ q.flat))) 114 (0, 0)) ∧ But g w1 w') := by
      intro j q' q w1 f' hq hq' hb1 hh1
      have hmem := List.mem_of_getElem? hq
      have hfl : ∀ x ∈ q.flat, x ∈ r.flat := by
        intro x hx
        rw [Tr.flat_eq r]
        exact List.mem_append_left _ (List.mem_flatMap.2 ⟨q, hmem, hx⟩)
      exact ih q hmem q' g f' w1 (TrAt.frame (fun k hk => ⟨Nat.lt_of_lt_of_le hk.1 hb1.size, hk.2⟩) (fun k hk => hb1.block k hk.2 hk.1) (hpt.2 j q q' hq hq')) hh1 (fun x hx => hv x (hfl x hx)) ⟨wide, vars, (Tr.ok_parts hok q hmem).2⟩
    have HPV : Hid _ := hpv
    have HL : Hid (r.parts.length = ps.length) := hpt.1
    have HE : Hid (∀ i : Int, decide (((2, i) : Nd) ∈ r.flat) = decide (((2, i) : Nd) ∈ r.parts.flatMap Tr.flat)) := by
      intro i
      apply decide_eq_decide.2
      rw [Tr.flat_eq r]
      constructor
      · intro h
        rcases List.mem_append.1 h with h | h
        · exact h
        · simp at h
          exact absurd (by rw [← h]) h2
      · intro h
        exact List.mem_append_left _ h
    have HH0 : Hid _ := hh
    clear ih hpt hpv htr hh hv hok h2
    subst hpsh
    generalize r.nd.1 = op at *
    go_enter Tryd.func88, Tryd.ntmps88
    go_wp2_with fail
    go_loopw [25] (fun i wr => ∃ j : Nat, j ≤ ps.length ∧ i = .int .i64 j ∧ Hid (wr.heap[g]? = some (.cells (bools (fun i => f i || decide ((2, i) ∈ (r.parts.take j).flatMap Tr.flat))) 114 (0, 0))) ∧ Hid (But g w wr)) (fun i _ => ps.length - (intOf i).toNat)
    case atStart =>
      refine ⟨0, by omega, rfl, ?_, But.refl _ _⟩
      show w.heap[g]? = _
      rw [HH0.out]
      simp
    case round =>
      obtain ⟨j, hj, rfl, HH, HB⟩ := hrel
      by_cases hlt' : j < ps.length
      · obtain ⟨p, hp⟩ : ∃ p, ps[j]? = some p := ⟨ps[j], List.getElem?_eq_getElem hlt'⟩
        obtain ⟨q, hq⟩ : ∃ q, r.parts[j]? = some q := ⟨r.parts[j]'(by have := HL.out; omega), List.getElem?_eq_getElem _⟩
        obtain ⟨pg, off, rfl, hg, c0⟩ := PtrsAt.at HPV.out hp
        have c1 : wr.cell? ⟨pg, off + j, none⟩ = some (ptr p) := by
          rw [World.cell?_of_block (w := w) (a := ⟨pg, off + j, none⟩) (HB.out.block pg hg.2 hg.1)]
          exact c0
        have gI := HIH.out j p q wr _ hq hp HB.out HH.out
        have HF : Hid ((fun i : Int => (f i || decide (((2, i) : Nd) ∈ (r.parts.take j).flatMap Tr.flat)) || decide (((2, i) : Nd) ∈ q.flat)) = fun i => f i || decide (((2, i) : Nd) ∈ (r.parts.take (j + 1)).flatMap Tr.flat)) := by
          show _ = _
          funext i
          rw [flats_take hq, Bool.or_assoc]
          congr 1
          by_cases h1 : ((2, i) : Nd) ∈ (r.parts.take j).flatMap Tr.flat <;> by_cases h3 : ((2, i) : Nd) ∈ q.flat <;> simp [h1, h3]
        rw [HF.out] at gI
        clear hp hq hg c0 HF
        generalize hfn : (fun i : Int => f i || decide (((2, i) : Nd) ∈ (r.parts.take (j + 1)).flatMap Tr.flat)) = fn at *
        have HFN : Hid _ := hfn
        clear hfn
        go_wp2_with fail
        refine gI.mono ?_
        rintro e w2 ⟨rfl, hh2, hb2⟩
        have HH2 : Hid _ := hh2
        have HB2 : Hid (But g w w2) := HB.out.trans hb2
        clear gI hh2 hb2
        go_wp2_with fail
        go_roundw
        case rel => exact ⟨j + 1, by omega, by go_num, by rw [HFN.out]; exact HH2, HB2⟩
        case measure => simp [intOf]; omega
      · obtain rfl : j = ps.length := by omega
        have HR : Hid (wr.heap[g]? = some (.cells (bools (fun i => f i || decide ((2, i) ∈ r.flat))) 114 (0, 0))) := by
          show wr.heap[g]? = _
          rw [HH.out]
          have h1 : r.parts.take ps.length = r.parts := by rw [← HL.out, List.take_length]
          rw [h1]
          have h3 : (fun i : Int => f i || decide (((2, i) : Nd) ∈ r.parts.flatMap Tr.flat)) = fun i => f i || decide (((2, i) : Nd) ∈ r.flat) := by
            funext i
            rw [HE.out i]
          rw [h3]
        clear HH HIH HPV HE
        go_wp2_with fail
        go_end0
        exact ⟨rfl, HR.out, HB.out⟩
theorem nameVars_any : ∀ r : Tr, NameP r := Tr.ind nameVars_step
end Go.Proofs.YtjbfembblgkakaaDoor
