/-
  The depth of a term: the program's depth and DepthOf.
-/
import Derived.Test.YtkfplichekebdaaDoorDepth
import Derived.Test.YtkfplichekebdaaDoorILay
import Derived.Outline
import Derived.Handy
namespace Go.Proofs.YtkfplichekebdaaDoor
open Go Go.RowKit
open M
set_option linter.unusedVariables false

/-- the greatest depth of trees side by side -/
def depL : List Tr → Nat
  | [] => 0
  | q :: l => max (trDepth q) (depL l)
theorem depL_snoc : ∀ (l : List Tr) (q : Tr), depL (l ++ [q]) = max (depL l) (trDepth q)
  | [], q => by simp [depL]
  | a :: l, q => by
    rw [List.cons_append]
    simp only [depL]
    rw [depL_snoc l q, Nat.max_assoc]
theorem trDepth_parts (r : Tr) : trDepth r = 1 + depL r.parts := by
  cases r <;> simp only [trDepth, Tr.parts, depL] <;> omega
theorem depL_le {l : List Tr} {n : Nat} (h : ∀ q ∈ l, trDepth q ≤ n) : depL l ≤ n := by
  induction l with
  | nil => simp [depL]
  | cons a l ih =>
    have h1 := h a (by simp)
    have h2 := ih (fun q hq => h q (by simp [hq]))
    simp only [depL]
    omega
/-- what depth does with a tree -/
def DepP (r : Tr) : Prop := ∀ (b : Nat) (w : World), TrAt w (Old w) r b → r.size ≤ 1048576 →
  Calls Tryd.prog 52 #[ptr b] w fun e w' => e = .returned (.int .i64 (trDepth r : Int)) ∧ Below w.heap.size w w'
set_option maxRecDepth 100000 in
set_option maxHeartbeats 4000000 in
theorem depth_step (r : Tr) (ih : ∀ q ∈ r.parts, DepP q) : DepP r := by
  intro b w htr hsz
  have HD : Hid (trDepth r = 1 + depL r.parts ∧ trDepth r ≤ 1048576) := ⟨trDepth_parts r, Nat.le_trans (trDepth_le r) hsz⟩
  obtain ⟨ps, ⟨hb, _, _, _, _, pvl, n4, hpv⟩, hpt⟩ := trAt_open htr
  obtain ⟨pa, pc, hpsh⟩ := hpv.shape
  have hpl2 : ps.length ≤ 2 := by
    have h2 : r.parts.length ≤ 2 := by cases r <;> simp [Tr.parts]
    have := hpt.1
    omega
  have HSZ : Hid (∀ q ∈ r.parts, q.size ≤ 1048576 ∧ trDepth q ≤ 1048576) := by
    intro q hq
    have h1 : q.size ≤ r.size := by
      rw [Tr.size_eq r]
      have : ∀ l : List Tr, q ∈ l → q.size ≤ sizes l := by
        intro l
        induction l with
        | nil => intro h; cases h
        | cons a l ih =>
          intro h
          simp only [sizes]
          rcases List.mem_cons.1 h with rfl | h
          · omega
          · have := ih h
            omega
      have := this _ hq
      omega
    have h2 := trDepth_le q
    exact ⟨by omega, by omega⟩
  have HIH : Hid (∀ (j q' : Nat) (q : Tr) (w1 : World), r.parts[j]? = some q → ps[j]? = some q' → Below w.heap.size w w1 → Calls Tryd.prog 52 #[ptr q'] w1 fun e w' => e = .returned (.int .i64 (trDepth q : Int)) ∧ Below w1.heap.size w1 w') := by
    intro j q' q w1 hq hq' hb1
    have hmem := List.mem_of_getElem? hq
    exact ih q hmem q' w1 ((hpt.2 j q q' hq hq').below hb1) (HSZ.out q hmem).1
  have HPV : Hid _ := hpv
  have HL : Hid (r.parts.length = ps.length) := hpt.1
  clear ih hpt hpv htr hsz hb
  subst hpsh
  go_enter Tryd.func52, Tryd.ntmps52
  go_wp2_with fail
  go_loopw [3, 11] (fun v i wr => ∃ j : Nat, j ≤ ps.length ∧ i = .int .i64 j ∧ v = .int .i64 (depL (r.parts.take j) : Int) ∧ Hid (Below w.heap.size w wr)) (fun _ i _ => ps.length - (intOf i).toNat)
  case atStart => exact ⟨0, by omega, rfl, rfl, Below.refl _ _⟩
  case round =>
    obtain ⟨j, hj, rfl, rfl, HB⟩ := hrel
    by_cases hlt' : j < ps.length
    · obtain ⟨p, hp⟩ : ∃ p, ps[j]? = some p := ⟨ps[j], List.getElem?_eq_getElem hlt'⟩
      obtain ⟨q, hq⟩ : ∃ q, r.parts[j]? = some q := ⟨r.parts[j]'(by have := HL.out; omega), List.getElem?_eq_getElem _⟩
      obtain ⟨g, off, rfl, hg, c0⟩ := PtrsAt.at HPV.out hp
      rw [← HB.out.cell (p := ⟨g, off + j, none⟩) hg] at c0
      have gI := HIH.out j p q wr hq hp HB.out
      have HE : Hid (depL (r.parts.take (j + 1)) = max (depL (r.parts.take j)) (trDepth q)) := by
        show depL (r.parts.take (j + 1)) = _
        rw [List.take_add_one, hq, ← depL_snoc]
        rfl
      clear hp hq hg
      generalize trDepth q = dq at *
      generalize depL (r.parts.take j) = dj at *
      go_wp2_with fail
      refine gI.mono ?_
      rintro e w2 ⟨rfl, hb2⟩
      have HB2 : Hid (Below w.heap.size w w2) := HB.out.trans (hb2.mono HB.out.size)
      clear gI hb2
      go_wp2_with fail
      go_roundw
      case rel => exact ⟨j + 1, by omega, by go_num, by rw [HE.out]; congr 1; split <;> omega, HB2⟩
      case measure => simp [intOf]; omega
    · obtain rfl : j = ps.length := by omega
      have HE : Hid (trDepth r = 1 + depL (r.parts.take ps.length) ∧ depL (r.parts.take ps.length) ≤ 1048576) := by
        have h1 := HD.out
        have h2 : r.parts.take ps.length = r.parts := List.take_of_length_le (by rw [HL.out]; exact Nat.le_refl _)
        rw [h2]
        exact ⟨h1.1, by omega⟩
      have hm := HE.out.2
      generalize depL (r.parts.take ps.length) = D at *
      clear HD
      go_wp2_with fail
      go_ret
      exact ⟨by rw [HE.out.1]; rfl, HB.out⟩
theorem depth_any : ∀ r : Tr, DepP r := Tr.ind depth_step
/-- what the program's DepthOf is to do -/
theorem impl_DepthOf (wide vars : Int) (v : Value) (t : List Nd) (w : World) (hT : Tab w) (h : NodesAt w v t) :
    Calls Tryd.prog 28 #[.int .i64 wide, .int .i64 vars, v] w fun e w' => e = .returned (.tuple #[.int .i64 (depthL wide vars t), .bool (decide (0 < kindL wide vars t))]) ∧ Below w.heap.size w w' := by
  by_cases hk : 0 < kindL wide vars t
  · obtain ⟨_, _, _, _, h5, r, hr, _, hfl, _⟩ := root_tree hk
    have g := rootOf_yes wide vars v t w hT h r hk hr
    have hsz : r.size ≤ 1048576 := by
      rw [← Tr.flat_len, hfl]
      omega
    rw [decide_eq_true hk, depthL_yes hk hr]
    have HG : Hid (∀ (b : Nat) (w1 : World), TrAt w1 (Old w1) r b → Calls Tryd.prog 52 #[ptr b] w1 fun e w' => e = .returned (.int .i64 (trDepth r : Int)) ∧ Below w1.heap.size w1 w') := fun b w1 htr => depth_any r b w1 htr hsz
    clear hr hk hT h hfl
    go_enter Tryd.func28, Tryd.ntmps28
    go_wp2_with fail
    refine g.mono ?_
    rintro e w' ⟨p, rfl, htr, hb⟩
    have g2 := HG.out p w' htr
    have HB : Hid _ := hb
    clear g hb htr HG
    go_wp2_with fail
    refine g2.mono ?_
    rintro e w2 ⟨rfl, hb2⟩
    have HB2 : Hid (Below w.heap.size w w2) := HB.out.trans (hb2.mono HB.out.size)
    clear g2 hb2
    go_wp2_with fail
    go_ret2
    exact ⟨rfl, HB2.out⟩
  · have g := rootOf_no wide vars v t w hT h hk
    rw [decide_eq_false hk, depthL_no hk]
    clear hk hT h
    go_enter Tryd.func28, Tryd.ntmps28
    go_wp2_with fail
    refine g.mono ?_
    rintro e w' ⟨rfl, hb⟩
    have HB : Hid _ := hb
    clear g hb
    go_wp2_with fail
    go_ret2
    exact ⟨rfl, HB.out⟩
end Go.Proofs.YtkfplichekebdaaDoor
