/-
  The text of a term: the program's leafText, text and TermText.
-/
import Derived.Test.YtkfplichekebdaaDoorTextC2
import Derived.Test.YtkfplichekebdaaDoorIFmt
import Derived.Test.YtkfplichekebdaaDoorIName
import Derived.Test.YtkfplichekebdaaDoorILay
import Derived.Lib.QuietBelow
namespace Go.Proofs.YtkfplichekebdaaDoor
open Go Go.RowKit
open M
set_option linter.unusedVariables false

theorem own_ops {op : Int} (h : ¬ ownOf op = 0) : 1 ≤ op ∧ op ≤ 20 := by
  unfold ownOf at h
  split at h
  · omega
  · split at h
    · omega
    · exact absurd rfl h
set_option maxRecDepth 100000 in
set_option maxHeartbeats 1000000 in
theorem leafText_any (op n : Int) (h0 : 0 ≤ n) (h1 : n < 18446744073709551616) (hop : op = 1 ∨ op = 2 ∧ n < 4 ∨ op = 20 ∧ n ≤ 1) (w : World) (hP : Pow w) :
    Calls Tryd.prog 71 #[.agg #[.int .i64 op, .int .u64 n]] w fun e w' => e = .returned (tx (leafL (op, n))) ∧ Below w.heap.size w w' := by
  obtain ⟨m, rfl⟩ := Int.eq_ofNat_of_zero_le h0
  have HB : Hid (Below w.heap.size w (w.alloc (.cells #[.int .i64 op, .int .u64 (m : Int)] 62))) := (Below.refl _ _).alloc (Nat.le_refl _) _
  rcases hop with rfl | ⟨rfl, hv⟩ | ⟨rfl, hv⟩
  · have e1 : leafL (1, (m : Int)) = numL m := rfl
    have g := iNumText_any m (by omega) (w.alloc (.cells #[.int .i64 1, .int .u64 (m : Int)] 62)) (hP.below HB.out)
    rw [e1]
    generalize numL m = l at *
    generalize (m : Int) = n at *
    clear hP
    go_enter Tryd.func71, Tryd.ntmps71
    go_wp2_with fail
    refine g.mono ?_
    rintro e w2 ⟨rfl, hb2⟩
    have HB2 : Hid (Below w.heap.size w w2) := HB.out.trans (hb2.mono HB.out.size)
    clear g hb2
    go_wp2_with fail
    go_ret
    exact ⟨rfl, HB2.out⟩
  · have e1 : leafL (2, (m : Int)) = nameT (m : Int) := by
      unfold nameT
      rw [if_pos ⟨by omega, by omega⟩]
      rfl
    have g := iNameOf_any (m : Int) (w.alloc (.cells #[.int .i64 2, .int .u64 (m : Int)] 62))
    rw [e1]
    generalize nameT (m : Int) = l at *
    generalize decide (0 ≤ (m : Int) ∧ (m : Int) ≤ 3) = z at *
    clear hP
    go_enter Tryd.func71, Tryd.ntmps71
    go_wp2_with fail
    refine g.mono ?_
    rintro e w2 ⟨rfl, rfl⟩
    clear g
    go_wp2_with fail
    go_ret
    exact ⟨rfl, HB.out⟩
  · clear hP
    rcases (show m = 0 ∨ m = 1 by omega) with rfl | rfl
    · have e1 : leafL (20, ((0 : Nat) : Int)) = noL := rfl
      rw [e1]
      go_enter Tryd.func71, Tryd.ntmps71
      go_wp2_with fail
      go_ret
      exact ⟨rfl, HB.out⟩
    · have e1 : leafL (20, ((1 : Nat) : Int)) = yesL := rfl
      rw [e1]
      go_enter Tryd.func71, Tryd.ntmps71
      go_wp2_with fail
      go_ret
      exact ⟨rfl, HB.out⟩
/-- what text does with a tree -/
def TextP (wide vars : Int) (r : Tr) : Prop := ∀ (b : Nat) (w : World), Signs w → Pow w → TrAt w (Old w) r b → r.Ok wide vars → Wd r → r.size ≤ 48 →
  Calls Tryd.prog 42 #[ptr b] w fun e w' => e = .returned (tx (trText r)) ∧ Below w.heap.size w w'
set_option maxRecDepth 100000 in
set_option maxHeartbeats 4000000 in
theorem text_leaf (wide vars : Int) (hv : vars ≤ 4) (x : Nd) : TextP wide vars (.leaf x) := by
  intro b w hS hP htr hok hwd hsz
  obtain ⟨op, n⟩ := x
  obtain ⟨hb, n0, n1', _, _, pvl, n4, hpv⟩ := htr
  obtain ⟨pa, pc, rfl⟩ := hpv.shape
  obtain ⟨k1, k2, k3⟩ := hok
  have hops := own_ops k1
  simp only at hops k1 k2 k3 n0 n1'
  obtain ⟨k, rfl⟩ := Int.eq_ofNat_of_zero_le (show 0 ≤ op by omega)
  have cs := hS.cell k (by omega)
  have g := leafText_any (k : Int) n hwd.1 hwd.2 (leaf_ops hv k1 k2 k3) w hP
  have e1 : trText (.leaf ((k : Int), n)) = leafL ((k : Int), n) := rfl
  rw [e1]
  generalize leafL ((k : Int), n) = l at *
  clear hS hP hpv hb k1 k2 k3
  generalize signN k = sg at *
  go_enter Tryd.func42, Tryd.ntmps42
  go_wp2_with fail
  refine g.mono ?_
  rintro e w2 ⟨rfl, hb2⟩
  have HB2 : Hid _ := hb2
  clear g hb2 e1
  go_wp2_with fail
  go_ret
  exact ⟨rfl, HB2.out⟩
set_option maxRecDepth 100000 in
set_option maxHeartbeats 4000000 in
theorem text_one (wide vars : Int) (x : Nd) (a : Tr) (ih : TextP wide vars a) : TextP wide vars (.one x a) := by
  intro b w hS hP htr hok hwd hsz
  obtain ⟨op, n⟩ := x
  obtain ⟨p, ⟨hb, n0, n1', _, _, pvl, n4, hpv⟩, hta⟩ := htr
  obtain ⟨pa, pc, rfl⟩ := hpv.shape
  obtain ⟨k1, k2, k3, k4, k5⟩ := hok
  have hops := own_ops k1
  simp only at hops k1 k2 k3 n0 n1'
  obtain ⟨k, rfl⟩ := Int.eq_ofNat_of_zero_le (show 0 ≤ op by omega)
  have cs := hS.cell k (by omega)
  obtain ⟨g0, off, rfl, hg, c0⟩ := PtrsAt.at hpv (show [p][0]? = some p from rfl)
  rw [Nat.add_zero] at c0
  have hs2 : a.size ≤ 48 := by simp only [Tr.size] at hsz; omega
  have g := ih p w hS hP hta k5 hwd hs2
  have hbd := trText_len a hwd
  have e1 : trText (.one ((k : Int), n) a) = signN k ++ trText a := rfl
  have ha := fun w : World => add_tx (signN k) (trText a) (by have := signN_len k; omega) w
  rw [e1]
  simp only [List.length_singleton] at n4
  generalize trText a = l at *
  clear hS hP hpv hb k1 k2 k3 k4 k5 ih hta hbd e1
  generalize hS2 : signN k ++ l = S2 at *
  generalize signN k = sg at *
  clear hS2
  go_enter Tryd.func42, Tryd.ntmps42
  go_wp2_with fail
  refine g.mono ?_
  rintro e w2 ⟨rfl, hb2⟩
  have HB2 : Hid _ := hb2
  clear g hb2
  go_wp2_with fail
  go_ret
  exact ⟨rfl, HB2.out⟩
set_option maxRecDepth 100000 in
set_option maxHeartbeats 4000000 in
theorem text_two (wide vars : Int) (x : Nd) (a c : Tr) (iha : TextP wide vars a) (ihc : TextP wide vars c) : TextP wide vars (.two x a c) := by
  intro b w hS hP htr hok hwd hsz
  obtain ⟨op, n⟩ := x
  obtain ⟨p, q, ⟨hb, n0, n1', _, _, pvl, n4, hpv⟩, hta, htc⟩ := htr
  obtain ⟨pa, pc, rfl⟩ := hpv.shape
  obtain ⟨x1, x2, x3, x4, x4', x5, x6⟩ := hok
  have hops := own_ops x1
  simp only at hops x1 x2 x3 n0 n1'
  obtain ⟨k, rfl⟩ := Int.eq_ofNat_of_zero_le (show 0 ≤ op by omega)
  have cs := hS.cell k (by omega)
  obtain ⟨g0, off, rfl, hg, c0⟩ := PtrsAt.at hpv (show [p, q][0]? = some p from rfl)
  obtain ⟨g1, off1, he1, hg1, c1⟩ := PtrsAt.at hpv (show [p, q][1]? = some q from rfl)
  simp only [Option.some.injEq, Addr.mk.injEq, and_true] at he1
  obtain ⟨rfl, rfl⟩ := he1
  rw [Nat.add_zero] at c0
  have hs2 : a.size ≤ 48 ∧ c.size ≤ 48 := by simp only [Tr.size] at hsz; omega
  have GA : Hid (∀ w1, Below w.heap.size w w1 → Calls Tryd.prog 42 #[ptr p] w1 fun e w' => e = .returned (tx (trText a)) ∧ Below w1.heap.size w1 w') := fun w1 hb1 => iha p w1 (hS.below hb1) (hP.below hb1) (hta.below hb1) x5 hwd.1 hs2.1
  have GC : Hid (∀ w1, Below w.heap.size w w1 → Calls Tryd.prog 42 #[ptr q] w1 fun e w' => e = .returned (tx (trText c)) ∧ Below w1.heap.size w1 w') := fun w1 hb1 => ihc q w1 (hS.below hb1) (hP.below hb1) (htc.below hb1) x6 hwd.2 hs2.2
  have hba := trText_len a hwd.1
  have hbc := trText_len c hwd.2
  have hsl := signN_len k
  have e1 : trText (.two ((k : Int), n) a c) = [40] ++ trText a ++ signN k ++ trText c ++ [41] := rfl
  have ha1 := fun w : World => add_tx [40] (trText a) (by simp; omega) w
  have ha2 := fun w : World => add_tx ([40] ++ trText a) (signN k) (by simp; omega) w
  have ha3 := fun w : World => add_tx ([40] ++ trText a ++ signN k) (trText c) (by simp; omega) w
  have ha4 := fun w : World => add_tx ([40] ++ trText a ++ signN k ++ trText c) [41] (by simp; omega) w
  have cA : ∀ d os, Calls Tryd.prog 42 #[ptr p] (Sort.grow (redrawn w d) os) fun e w'' => e = .returned (tx (trText a)) ∧ ∃ p : Regrown, w'' = Sort.grow (redrawn w p.d) p.os := fun d os => Calls.regrown_of (GA.out _ (below_regrown w d os))
  have cC : ∀ d os, Calls Tryd.prog 42 #[ptr q] (Sort.grow (redrawn w d) os) fun e w'' => e = .returned (tx (trText c)) ∧ ∃ p : Regrown, w'' = Sort.grow (redrawn w p.d) p.os := fun d os => Calls.regrown_of (GC.out _ (below_regrown w d os))
  rw [e1]
  have k0 := cell_regrown c0
  have k1 := cell_regrown c1
  have k4 := cell_regrown (show w.cell? ⟨b, 4, none⟩ = some (.slice (some ⟨g0, off, none⟩) 2 pc) from n4)
  replace n4 : w.cell? ⟨b, 4, none⟩ = some (.slice (some ⟨g0, off, none⟩) 2 pc) := n4
  clear GA GC
  generalize h4 : [40] ++ trText a ++ signN k ++ trText c ++ [41] = S4 at *
  generalize h3 : [40] ++ trText a ++ signN k ++ trText c = S3 at *
  generalize h2 : [40] ++ trText a ++ signN k = S2 at *
  generalize h1 : [40] ++ trText a = S1 at *
  generalize signN k = sg at *
  generalize trText a = la at *
  generalize trText c = lc at *
  clear hS hP hpv hb x1 x2 x3 x4 x4' x5 x6 iha ihc hta htc hba hbc e1 h1 h2 h3 h4
  go_enter Tryd.func42, Tryd.ntmps42
  go_wp2_with fail
  refine wp_region_quiet_below (by kernel_rfl) (by kernel_rfl) ?_
  iterate 7 (quiet_step (exact cA _ _))
  repeat (quiet_step (exact cC _ _))
  refine wpQuiet_nil ?_
  intro _ hw'
  obtain ⟨⟨dq, osq⟩, hw''⟩ := hw'
  subst hw''
  go_wp2_with fail
  go_ret
  exact ⟨rfl, below_regrown w dq osq⟩
/-- the three tables lie as they were laid -/
structure All3 (w : World) : Prop where
  masks : Tab w
  signs : Signs w
  pow : Pow w
theorem All3.below {w w' : World} (h : All3 w) (hb : Below w.heap.size w w') : All3 w' := ⟨h.masks.below hb h.masks.some, h.signs.below hb, h.pow.below hb⟩
theorem text_any (wide vars : Int) (hv : vars ≤ 4) : ∀ r : Tr, TextP wide vars r
  | .leaf x => text_leaf wide vars hv x
  | .one x a => text_one wide vars x a (text_any wide vars hv a)
  | .two x a c => text_two wide vars x a c (text_any wide vars hv a) (text_any wide vars hv c)
theorem flat_wd : ∀ r : Tr, (∀ x ∈ r.flat, NdOk x) → Wd r
  | .leaf x, h => by
    have := h x (by simp [Tr.flat])
    exact ⟨this.2.2.1, by have := this.2.2.2; omega⟩
  | .one x a, h => flat_wd a (fun y hy => h y (by simp [Tr.flat, hy]))
  | .two x a c, h => ⟨flat_wd a (fun y hy => h y (by simp [Tr.flat, hy])), flat_wd c (fun y hy => h y (by simp [Tr.flat, hy]))⟩
set_option maxRecDepth 100000 in
theorem impl_TermText (wide vars : Int) (v : Value) (t : List Nd) (w : World) (hA : All3 w) (h : NodesAt w v t) :
    Calls Tryd.prog 21 #[.int .i64 wide, .int .i64 vars, v] w fun e w' => e = .returned (.tuple #[tx (textL wide vars t), .bool (textB wide vars t)]) ∧ Below w.heap.size w w' := by
  by_cases hk : 0 < kindL wide vars t
  · obtain ⟨_, _, hv4, _, h5, r, hr, hok, hfl, _⟩ := root_tree hk
    have g := rootOf_yes wide vars v t w hA.masks h r hk hr
    have hsz : r.size ≤ 48 := by
      rw [← Tr.flat_len, hfl]
      exact h5
    have hwd : Wd r := flat_wd r (by rw [hfl]; exact h.1)
    have hbd := trText_len r hwd
    have HG : Hid (∀ (b : Nat) (w1 : World), Below w.heap.size w w1 → TrAt w1 (Old w1) r b → Calls Tryd.prog 42 #[ptr b] w1 fun e w' => e = .returned (tx (trText r)) ∧ Below w1.heap.size w1 w') := fun b w1 hb htr => text_any wide vars hv4 r b w1 (hA.signs.below hb) (hA.pow.below hb) htr hok hwd hsz
    by_cases h8 : (trText r).length ≤ 800
    · obtain ⟨e1, e2⟩ := textB_yes hk hr h8
      rw [e1, e2]
      clear hr hk hA h hfl hok hwd e1 e2
      generalize trText r = D at *
      go_enter Tryd.func21, Tryd.ntmps21
      go_wp2_with fail
      refine g.mono ?_
      rintro e w' ⟨p, rfl, htr, hb⟩
      have g2 := HG.out p w' hb htr
      have HB : Hid _ := hb
      clear g hb htr HG
      go_wp2_with fail
      refine g2.mono ?_
      rintro e w2 ⟨rfl, hb2⟩
      have HB2 : Hid (Below w.heap.size w w2) := HB.out.trans (hb2.mono HB.out.size)
      clear g2 hb2
      go_wp2_with fail
      go_ret2
      exact ⟨rfl, HB2.out⟩
    · obtain ⟨e1, e2⟩ := textB_long hk hr h8
      rw [e1, e2]
      clear hr hk hA h hfl hok hwd e1 e2
      generalize trText r = D at *
      go_enter Tryd.func21, Tryd.ntmps21
      go_wp2_with fail
      refine g.mono ?_
      rintro e w' ⟨p, rfl, htr, hb⟩
      have g2 := HG.out p w' hb htr
      have HB : Hid _ := hb
      clear g hb htr HG
      go_wp2_with fail
      refine g2.mono ?_
      rintro e w2 ⟨rfl, hb2⟩
      have HB2 : Hid (Below w.heap.size w w2) := HB.out.trans (hb2.mono HB.out.size)
      clear g2 hb2
      go_wp2_with fail
      go_ret2
      exact ⟨rfl, HB2.out⟩
  · obtain ⟨e1, e2⟩ := textB_no hk
    have g := rootOf_no wide vars v t w hA.masks h hk
    rw [e1, e2]
    clear hk hA h e1 e2
    go_enter Tryd.func21, Tryd.ntmps21
    go_wp2_with fail
    refine g.mono ?_
    rintro e w' ⟨rfl, hb⟩
    have HB : Hid _ := hb
    clear g hb
    go_wp2_with fail
    go_ret2
    exact ⟨rfl, HB.out⟩
end Go.Proofs.YtkfplichekebdaaDoor
