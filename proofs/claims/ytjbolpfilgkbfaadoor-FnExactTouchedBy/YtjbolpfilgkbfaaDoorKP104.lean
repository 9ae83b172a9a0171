/-
  The program's step.
  The model's TouchedBy.
  Marks in two lists of numbers that one call answers.
  The program's changed, read: what a command changes and reads.
  A region whose operations come up in whatever order, by an invariant (as in the part Reg5 of chapter 5); what has come up of l7Do's.
  What has come up of the last region of the program's TouchedBy.
  The program's TouchedBy.
-/
import Derived.Test.YtjbolpfilgkbfaaDoorKP103
import Derived.Lib.QuietBelow
import Derived.BigQuiet
import Derived.Test.YtjbolpfilgkbfaaDoorKP102
import Derived.Maps.AppendAt
import Derived.Test.YtjbolpfilgkbfaaDoorOwn3
import Derived.Test.YtjbolpfilgkbfaaDoorNeed
import Derived.Test.YtjbolpfilgkbfaaDoorKP101
namespace Go.Proofs.YtjbolpfilgkbfaaDoor
open Go Go.RowKit
open M
set_option linter.unusedVariables false

def cmdAt (p : Pg) (n : Int) : Cm := p.2.2.2.getD n.toNat ([], [])
/-- whether a command is there and enabled -/
def stepB (p : Pg) (st : List Int) (n : Int) : Bool := decide (0 ≤ n ∧ n < (p.2.2.2.length : Int)) && holdsL p.1 (cmdAt p n).1 st
def nextP (p : Pg) (st : List Int) (n : Int) : List Int := doC p.1 st (cmdAt p n)
theorem cmdAt_in {p : Pg} {n : Int} (h : 0 ≤ n ∧ n < (p.2.2.2.length : Int)) : p.2.2.2[n.toNat]? = some (cmdAt p n) := by
  have hl : n.toNat < p.2.2.2.length := by omega
  unfold cmdAt
  rw [List.getD_eq_getElem?_getD, List.getElem?_eq_getElem hl]
  rfl
theorem step_en {p : Pg} {st : List Int} {n : Int} : n ∈ enF p.1 st p.2.2.2 0 ↔ stepB p st n = true := by
  rw [enF_mem]
  unfold stepB
  constructor
  · rintro ⟨j, c, h1, h2, h3⟩
    have hj := (List.getElem?_eq_some_iff.1 h1).1
    have hin : 0 ≤ n ∧ n < (p.2.2.2.length : Int) := by omega
    have h4 := cmdAt_in hin
    rw [show n.toNat = j from by omega, h1] at h4
    obtain rfl := Option.some.inj h4
    rw [decide_eq_true hin, h3]
    rfl
  · intro h
    rw [Bool.and_eq_true] at h
    have hin := of_decide_eq_true h.1
    exact ⟨n.toNat, cmdAt p n, cmdAt_in hin, by omega, h.2⟩
theorem padW_set {st : List Int} {i : Nat} (x : Int) (hi : i < st.length) (j : Nat) : padW (st.set i x) j = if j = i then x else padW st j := by
  unfold padW
  rw [List.getD_eq_getElem?_getD, List.getD_eq_getElem?_getD, List.getElem?_set]
  by_cases e : i = j
  · subst e
    simp [hi]
  · rw [if_neg e, if_neg (fun h => e h.symm)]
theorem boxS_set {w : World} {b i : Nat} {st : List Int} (h : BoxS w b st) (hi : i < st.length) (h4 : st.length ≤ 4) (x : Int) : BoxS (w.setCell ⟨b, i, none⟩ (.int .u64 x)) b (st.set i x) := by
  show Box4 _ _ _ _ _ _ _
  rw [padW_set x hi, padW_set x hi, padW_set x hi, padW_set x hi]
  rcases (show i = 0 ∨ i = 1 ∨ i = 2 ∨ i = 3 by omega) with rfl | rfl | rfl | rfl
  · exact h.set0 _
  · exact h.set1 _
  · exact h.set2 _
  · exact h.set3 _
set_option maxRecDepth 100000 in
set_option maxHeartbeats 4000000 in
theorem step_no {k vars : Nat} {st : List Int} (hw : WordsIn k vars st) (p : Pg) (hp1 : p.1 = k) (hp2 : p.2.1 = vars) (hpos : ∀ c ∈ p.2.2.2, ∀ x ∈ c.1, 0 ≤ x.2) (hc1 : 1 ≤ p.2.2.2.length) (hc6 : p.2.2.2.length ≤ 6) (P : Nat) (n : Int) (hno : stepB p st n = false) (w : World) (hT : Tab w) (hR : Rooted w (Old w) p P) :
    Calls Tryd.prog 62 #[ptr P, aggS st, .int .i64 n] w fun e w' => e = .returned (.tuple #[zeroS, .bool false]) ∧ Below w.heap.size w w' := by
  unfold aggS
  have hb2 : Below w.heap.size w ((w.alloc (.cells #[.int .u64 (padW st 0), .int .u64 (padW st 1), .int .u64 (padW st 2), .int .u64 (padW st 3)] 90)).alloc (.cells #[.int .u64 0, .int .u64 0, .int .u64 0, .int .u64 0] 90)) := ((Below.refl _ _).alloc (Nat.le_refl _) _).alloc (by rw [World.size_alloc]; omega) _
  have HB2 : Hid _ := hb2
  have s0 := (box4_alloc w 90 (.int .u64 (padW st 0)) (.int .u64 (padW st 1)) (.int .u64 (padW st 2)) (.int .u64 (padW st 3))).alloc (.cells #[.int .u64 0, .int .u64 0, .int .u64 0, .int .u64 0] 90)
  have z0 := box4_alloc (w.alloc (.cells #[.int .u64 (padW st 0), .int .u64 (padW st 1), .int .u64 (padW st 2), .int .u64 (padW st 3)] 90)) 90 (.int .u64 0) (.int .u64 0) (.int .u64 0) (.int .u64 0)
  simp only [World.size_alloc] at z0
  have hw0z : ((w.alloc (.cells #[.int .u64 (padW st 0), .int .u64 (padW st 1), .int .u64 (padW st 2), .int .u64 (padW st 3)] 90)).alloc (.cells #[.int .u64 0, .int .u64 0, .int .u64 0, .int .u64 0] 90)).heap.size = w.heap.size + 2 := by rw [World.size_alloc, World.size_alloc]
  obtain ⟨_, x, y, hx0, _, hcm⟩ := hR
  obtain ⟨g, cap, rfl⟩ : ∃ g cap, y = .slice (some ⟨g, 0, none⟩) p.2.2.2.length cap := by
    rcases hcm with ⟨e, _⟩ | ⟨g, cap, e, _⟩
    · rw [e] at hc1
      simp at hc1
    · exact ⟨g, cap, e⟩
  have hx2 := hx0.below hb2 hx0.lt
  obtain ⟨p0, p1, p2, p3⟩ := hx2.cells
  have ph := hx2.heap
  have pl := hx2.lt
  obtain ⟨q0, q1, q2, q3⟩ := s0.cells
  have qh := s0.heap
  have ql := s0.lt
  have h4 : (Tryd.prog.info? 90).map (·.size) = some 4 := by kernel_rfl
  have HZ : Hid _ := z0
  by_cases hin : 0 ≤ n ∧ n < (p.2.2.2.length : Int)
  · have hc := cmdAt_in hin
    obtain ⟨xx, yy, cx, cy, hel⟩ : ∃ xx yy : Value, w.cell? ⟨g, n.toNat * 2, none⟩ = some xx ∧ w.cell? ⟨g, n.toNat * 2 + 1, none⟩ = some yy ∧ CmEl w (Old w) p.1 p.2.1 (cmdAt p n) xx yy := by
      rcases hcm with ⟨e, _⟩ | ⟨g', cap', e, _, _, hcc⟩
      · rw [e] at hc
        simp at hc
      · injection e with e1 _ _
        injection e1 with e1
        injection e1 with e1
        subst e1
        exact hcc _ _ hc
    have hgl : g < w.heap.size := block_lt_of_cell cx
    have hh : holdsL p.1 (cmdAt p n).1 st = false := by
      unfold stepB at hno
      rw [decide_eq_true hin, Bool.true_and] at hno
      exact hno
    have cx2 : ((w.alloc (.cells #[.int .u64 (padW st 0), .int .u64 (padW st 1), .int .u64 (padW st 2), .int .u64 (padW st 3)] 90)).alloc (.cells #[.int .u64 0, .int .u64 0, .int .u64 0, .int .u64 0] 90)).cell? ⟨g, n.toNat * 2, none⟩ = some xx := by rw [hb2.cell (p := ⟨g, n.toNat * 2, none⟩) hgl]; exact cx
    have cA : ∀ d os', Calls Tryd.prog 70 #[ptr P, .int .i64 n] (Sort.grow (redrawn ((w.alloc (.cells #[.int .u64 (padW st 0), .int .u64 (padW st 1), .int .u64 (padW st 2), .int .u64 (padW st 3)] 90)).alloc (.cells #[.int .u64 0, .int .u64 0, .int .u64 0, .int .u64 0] 90)) d) os') fun e w'' => e = .returned (.bool true) ∧ ∃ q : Regrown, w'' = Sort.grow (redrawn ((w.alloc (.cells #[.int .u64 (padW st 0), .int .u64 (padW st 1), .int .u64 (padW st 2), .int .u64 (padW st 3)] 90)).alloc (.cells #[.int .u64 0, .int .u64 0, .int .u64 0, .int .u64 0] 90)) q.d) q.os := fun d os' => Calls.regrown_of ((hasCommand_any P _ _ _ _ _ _ n _ (hx2.below (below_regrown _ d os') hx2.lt)).mono fun e w' ⟨he, hw⟩ => ⟨by rw [he, decide_eq_true hin], hw⟩)
    have cC : ∀ d os', Calls Tryd.prog 107 #[ptr P, xx, .agg #[.int .u64 (padW st 0), .int .u64 (padW st 1), .int .u64 (padW st 2), .int .u64 (padW st 3)]] (Sort.grow (redrawn ((w.alloc (.cells #[.int .u64 (padW st 0), .int .u64 (padW st 1), .int .u64 (padW st 2), .int .u64 (padW st 3)] 90)).alloc (.cells #[.int .u64 0, .int .u64 0, .int .u64 0, .int .u64 0] 90)) d) os') fun e w'' => e = .returned (.bool false) ∧ ∃ q : Regrown, w'' = Sort.grow (redrawn ((w.alloc (.cells #[.int .u64 (padW st 0), .int .u64 (padW st 1), .int .u64 (padW st 2), .int .u64 (padW st 3)] 90)).alloc (.cells #[.int .u64 0, .int .u64 0, .int .u64 0, .int .u64 0] 90)) q.d) q.os := fun d os' => by
      have hbr := below_regrown ((w.alloc (.cells #[.int .u64 (padW st 0), .int .u64 (padW st 1), .int .u64 (padW st 2), .int .u64 (padW st 3)] 90)).alloc (.cells #[.int .u64 0, .int .u64 0, .int .u64 0, .int .u64 0] 90)) d os'
      have hb3 := hb2.trans (hbr.mono hb2.size)
      have hx3 := hx0.below hb3 hx0.lt
      have hz3 := hel.1.frame (S' := Old _) (fun i hi => Nat.lt_of_lt_of_le hi hb3.size) (fun i hi => hb3.block i hi)
      rw [hp1, hp2] at hx3 hz3
      have gg := holds_any (hpos _ (List.mem_of_getElem? hc)) hw P _ _ xx _ (hT.below hb3 hT.some) hx3 hz3
      rw [hp1] at hh
      rw [hh] at gg
      exact Calls.regrown_of gg
    obtain ⟨_, xb, rfl, _⟩ := hel.1
    obtain ⟨m, rfl⟩ : ∃ m : Nat, n = m := ⟨n.toNat, by omega⟩
    rw [Int.toNat_natCast] at cx2
    have hml : m < p.2.2.2.length := by omega
    have hnn : ((m : Int) < (p.2.2.2.length : Int)) := hin.2
    have pr := cell_regrown cx2
    have p3r := cell_regrown p3
    have q0r := cell_regrown q0
    have q1r := cell_regrown q1
    have q2r := cell_regrown q2
    have q3r := cell_regrown q3
    clear hcm hx0 hx2 hT hw hpos s0 z0 hb2 hno hc cx cy hel hh hp1 hp2
    generalize p.2.2.2.length = L at *
    generalize padW st 0 = x0 at *
    generalize padW st 1 = x1 at *
    generalize padW st 2 = x2 at *
    generalize padW st 3 = x3 at *
    go_enter Tryd.func62, Tryd.ntmps62
    go_wp2_with fail
    generalize (w.alloc (.cells #[.int .u64 x0, .int .u64 x1, .int .u64 x2, .int .u64 x3] 90)).alloc (.cells #[.int .u64 0, .int .u64 0, .int .u64 0, .int .u64 0] 90) = w0 at *
    refine wp_region_quiet_below (by kernel_rfl) (by kernel_rfl) ?_
    iterate 6 (go_big_quiet_step (exact cA _ _))
    repeat (go_big_quiet_step (exact cC _ _))
    refine wpQuiet_nil ?_
    intro _ hw'
    obtain ⟨⟨dq, osq⟩, hw''⟩ := hw'
    subst hw''
    have hbq := below_regrown w0 dq osq
    have HBQ : Hid (Below w.heap.size w (Sort.grow (redrawn w0 dq) osq)) := HB2.out.trans (hbq.mono HB2.out.size)
    have HZQ : Hid _ := HZ.out.below hbq HZ.out.lt
    obtain ⟨z0, z1, z2, z3⟩ := HZQ.out.cells
    have zh := HZQ.out.heap
    have zl := HZQ.out.lt
    have f0 := HZQ.out.frozen 0
    have f1 := HZQ.out.frozen 1
    have f2 := HZQ.out.frozen 2
    have f3 := HZQ.out.frozen 3
    clear hbq p0 p1 p2 p3 ph pl q0 q1 q2 q3 qh ql
    generalize Sort.grow (redrawn w0 dq) osq = w1 at *
    go_wp2_with fail
    refine bodyPost_ret (results_a4 rfl _ _ _ _ _ _ rfl ((((HZQ.out.set0 (.int .u64 0)).set1 (.int .u64 0)).set2 (.int .u64 0)).set3 (.int .u64 0)).heap) rfl ?_
    exact ⟨rfl, set4_below HBQ.out (Nat.le_succ _) _ _ _ _⟩
  · have cA : ∀ d os', Calls Tryd.prog 70 #[ptr P, .int .i64 n] (Sort.grow (redrawn ((w.alloc (.cells #[.int .u64 (padW st 0), .int .u64 (padW st 1), .int .u64 (padW st 2), .int .u64 (padW st 3)] 90)).alloc (.cells #[.int .u64 0, .int .u64 0, .int .u64 0, .int .u64 0] 90)) d) os') fun e w'' => e = .returned (.bool false) ∧ ∃ q : Regrown, w'' = Sort.grow (redrawn ((w.alloc (.cells #[.int .u64 (padW st 0), .int .u64 (padW st 1), .int .u64 (padW st 2), .int .u64 (padW st 3)] 90)).alloc (.cells #[.int .u64 0, .int .u64 0, .int .u64 0, .int .u64 0] 90)) q.d) q.os := fun d os' => Calls.regrown_of ((hasCommand_any P _ _ _ _ _ _ n _ (hx2.below (below_regrown _ d os') hx2.lt)).mono fun e w' ⟨he, hw⟩ => ⟨by rw [he, decide_eq_false hin], hw⟩)
    clear hcm hx0 hx2 hT hw hpos s0 z0 hb2 hno
    generalize padW st 0 = x0 at *
    generalize padW st 1 = x1 at *
    generalize padW st 2 = x2 at *
    generalize padW st 3 = x3 at *
    go_enter Tryd.func62, Tryd.ntmps62
    go_wp2_with fail
    generalize (w.alloc (.cells #[.int .u64 x0, .int .u64 x1, .int .u64 x2, .int .u64 x3] 90)).alloc (.cells #[.int .u64 0, .int .u64 0, .int .u64 0, .int .u64 0] 90) = w0 at *
    refine wp_region_quiet_below (by kernel_rfl) (by kernel_rfl) ?_
    repeat (go_big_quiet_step (exact cA _ _))
    refine wpQuiet_nil ?_
    intro _ hw'
    obtain ⟨⟨dq, osq⟩, hw''⟩ := hw'
    subst hw''
    have hbq := below_regrown w0 dq osq
    have HBQ : Hid (Below w.heap.size w (Sort.grow (redrawn w0 dq) osq)) := HB2.out.trans (hbq.mono HB2.out.size)
    have HZQ : Hid _ := HZ.out.below hbq HZ.out.lt
    obtain ⟨z0, z1, z2, z3⟩ := HZQ.out.cells
    have zh := HZQ.out.heap
    have zl := HZQ.out.lt
    have f0 := HZQ.out.frozen 0
    have f1 := HZQ.out.frozen 1
    have f2 := HZQ.out.frozen 2
    have f3 := HZQ.out.frozen 3
    clear hbq p0 p1 p2 p3 ph pl q0 q1 q2 q3 qh ql
    generalize Sort.grow (redrawn w0 dq) osq = w1 at *
    go_wp2_with fail
    refine bodyPost_ret (results_a4 rfl _ _ _ _ _ _ rfl ((((HZQ.out.set0 (.int .u64 0)).set1 (.int .u64 0)).set2 (.int .u64 0)).set3 (.int .u64 0)).heap) rfl ?_
    exact ⟨rfl, set4_below HBQ.out (Nat.le_succ _) _ _ _ _⟩
end Go.Proofs.YtjbolpfilgkbfaaDoor

namespace Go.Proofs.YtjbolpfilgkbfaaDoor
open Go Go.RowKit
open M
set_option linter.unusedVariables false

/-- two rows that lie in no one block -/
def Ap2 (r v : Value) : Prop := ∀ k, r.ownBlock = some k → v.ownBlock ≠ some k
theorem ap2_nil (v : Value) : Ap2 (.slice none 0 0) v := fun k hk => by simp [Value.ownBlock] at hk
def touchB (p : Pg) (n : Int) : Bool := goodP p && decide (0 ≤ n ∧ n < (p.2.2.2.length : Int))
def touchR (p : Pg) (n : Int) : List Int := if touchB p n = true then readsL (cmdAt p n) else []
def touchW (p : Pg) (n : Int) : List Int := if touchB p n = true then writesL (cmdAt p n) else []
theorem touchR_len (p : Pg) (n : Int) : (touchR p n).length ≤ 1048576 := by
  unfold touchR
  split
  · have := sorted4_len (readF (cmdAt p n))
    unfold readsL
    omega
  · simp
theorem touchW_len {p : Pg} {n : Int} (ok : PgOk p) : (touchW p n).length ≤ 1048576 := by
  unfold touchW
  split
  · rename_i h
    unfold touchB at h
    rw [Bool.and_eq_true] at h
    have := (ok.2.2.2.2 _ (List.mem_of_getElem? (cmdAt_in (of_decide_eq_true h.2)))).2.1
    unfold writesL
    rw [List.length_map]
    exact this
  · simp
theorem ns_vars {wide vars : Int} {t : List Nd} (hk : 0 < kindL wide vars t) (hv : vars ≤ 4) (ht : NsOk t) : (∀ x ∈ t, x.1 = 2 → 0 ≤ x.2 ∧ x.2 < 4) ∧ 1 ≤ t.length := by
  obtain ⟨_, _, _, h1, _, r, _, k1, k2, _⟩ := root_tree hk
  refine ⟨fun x hx h2 => ?_, h1⟩
  have a := ok_vars k1 x (by rw [k2]; exact hx) h2
  have b := (ht.1 x hx).2.2.1
  omega
theorem l2Vars_at {wide vars : Int} {t : List Nd} (hk : 0 < kindL wide vars t) (hv : vars ≤ 4) (ht : NsOk t) (u : Value) (w : World) (hu : NodesAt w u t) :
    Calls Tryd.prog 79 #[u] w fun e w' => ∃ v, e = .returned v ∧ VarsOwn w' w.heap.size v (sorted4 (fun i => decide (((2, i) : Nd) ∈ t))) ∧ Below w.heap.size w w' := by
  obtain ⟨h4, h1⟩ := ns_vars hk hv ht
  rw [← varsL_sorted t.length t rfl h4]
  obtain ⟨hok, _, hN⟩ := hu
  rcases hN with ⟨rfl, _⟩ | ⟨b, off, cap, rfl, hlt, hc⟩
  · simp at h1
  · exact l2Vars_in b off cap t ht.2 hok (fun x hx h2 => by have := h4 x hx h2; omega) w hlt hc
set_option maxRecDepth 100000 in
set_option maxHeartbeats 8000000 in
theorem sTouched_any (v : Value) (p : Pg) (ok : PgOk p) (n : Int) (hn : Fit n) (w : World) (h : AtProg w v p) :
    Calls Tryd.prog 34 #[v, .int .i64 n] w fun e w' => ∃ r0 r1, e = .returned (.tuple #[r0, r1, .bool (touchB p n)]) ∧ OwnIS w' w.heap.size w'.heap.size r0 (touchR p n) ∧ OwnIS w' w.heap.size w'.heap.size r1 (touchW p n) ∧ Ap2 r0 r1 ∧ Below w.heap.size w w' := by
  obtain ⟨hn0, hn1⟩ := hn
  have HS : Hid (∀ w1 : World, Below w.heap.size w w1 → Calls Tryd.prog 20 #[v] w1 fun e w' => e = .returned (.bool (goodP p)) ∧ Below w1.heap.size w1 w') := fun w1 hb => sGoodProg_any v p w1 (h.below hb)
  obtain ⟨⟨hfw0, hfw1⟩, ⟨hfv0, hfv1⟩, s, c, rfl, hns, hcm⟩ := id h
  obtain ⟨sa, sc, rfl⟩ := hns.shape
  obtain ⟨ca, cc, rfl, hcc⟩ := hcm.opened
  have hcl := ok.2.2.2.1
  have HB0 : Hid (Below w.heap.size w (w.alloc (.cells #[.int .i64 p.1, .int .i64 p.2.1, .slice sa p.2.2.1.length sc, .slice ca p.2.2.2.length cc] 27))) := (Below.refl _ _).alloc (Nat.le_refl _) _
  have x0 := box4_alloc w 27 (.int .i64 p.1) (.int .i64 p.2.1) (.slice sa p.2.2.1.length sc) (.slice ca p.2.2.2.length cc)
  have HX0 : Hid _ := x0
  clear x0
  cases hgp : goodP p with
  | false =>
    have HFB : Hid (touchB p n = false) := by
      show touchB p n = false
      unfold touchB
      rw [hgp, Bool.false_and]
    have HR : Hid (touchR p n = []) := by
      show touchR p n = []
      unfold touchR
      rw [HFB.out, if_neg (by decide)]
    have HW : Hid (touchW p n = []) := by
      show touchW p n = []
      unfold touchW
      rw [HFB.out, if_neg (by decide)]
    rw [hgp] at HS
    clear HX0 hgp hcc hcm hns h ok hcl
    generalize p.2.2.1.length = sn at *
    generalize p.2.2.2.length = cn at *
    generalize p.1 = pw at *
    generalize p.2.1 = pv at *
    go_enter Tryd.func34, Tryd.ntmps34
    go_wp2_with fail
    refine (HS.out _ HB0.out).mono ?_
    rintro e w1 ⟨rfl, hs⟩
    have HB1 : Hid (Below w.heap.size w w1) := Below.step HB0.out HB0.out.size hs
    clear hs
    go_wp2_with fail
    go_ret3
    exact ⟨_, _, by rw [HFB.out]; rfl, by rw [HR.out]; exact ownIS_nil _ _ HB1.out.size, by rw [HW.out]; exact ownIS_nil _ _ HB1.out.size, ap2_nil _, HB1.out⟩
  | true =>
    rw [hgp] at HS
    by_cases hin : 0 ≤ n ∧ n < (p.2.2.2.length : Int)
    case neg =>
      have HFB : Hid (touchB p n = false) := by
        show touchB p n = false
        unfold touchB
        rw [decide_eq_false hin, Bool.and_false]
      have HR : Hid (touchR p n = []) := by
        show touchR p n = []
        unfold touchR
        rw [HFB.out, if_neg (by decide)]
      have HW : Hid (touchW p n = []) := by
        show touchW p n = []
        unfold touchW
        rw [HFB.out, if_neg (by decide)]
      clear hgp hcc hcm hns h ok
      generalize p.2.2.1.length = sn at *
      generalize p.2.2.2.length = cn at *
      generalize p.1 = pw at *
      generalize p.2.1 = pv at *
      go_enter Tryd.func34, Tryd.ntmps34
      go_wp2_with fail
      refine (HS.out _ HB0.out).mono ?_
      generalize w.alloc (.cells #[.int .i64 pw, .int .i64 pv, .slice sa sn sc, .slice ca cn cc] 27) = w0 at *
      rintro e w1 ⟨rfl, hs⟩
      have HB1 : Hid (Below w.heap.size w w1) := Below.step HB0.out HB0.out.size hs
      have x1 := HX0.out.below hs HX0.out.lt
      obtain ⟨a0, a1, a2, a3⟩ := x1.cells
      have ah := x1.heap
      have al := x1.lt
      have g := l1In_any n 0 ((cn : Int) - 1) w1
      rw [decide_eq_false (by omega)] at g
      clear hs x1 HX0
      go_wp2_with fail
      refine g.mono ?_
      rintro e w2 ⟨rfl, rfl⟩
      clear g
      go_wp2_with fail
      go_ret3
      exact ⟨_, _, by rw [HFB.out]; rfl, by rw [HR.out]; exact ownIS_nil _ _ HB1.out.size, by rw [HW.out]; exact ownIS_nil _ _ HB1.out.size, ap2_nil _, HB1.out⟩
    have hc := cmdAt_in hin
    have hcmem := List.mem_of_getElem? hc
    have hcok := ok.2.2.2.2 _ hcmem
    obtain ⟨_, q0, q1, q2, q3, _, hc6, hcm0⟩ := goodP_parts hgp
    have hcb := hcm0 _ hcmem
    unfold cmB at hcb
    rw [Bool.and_eq_true] at hcb
    have hch := chsB_mem _ _ _ _ hcb.2
    have hchl := chsB_len _ _ _ _ hcb.2 (by omega)
    have hk2 := beq_iff_eq.1 hcb.1
    obtain ⟨pb, poff, rfl, hplt, xx, yy, cx, cy, hV⟩ := hcc _ _ hc
    obtain ⟨hV1, hV2⟩ := hV
    have G1 : Hid (∀ w1 : World, Below w.heap.size w w1 → Calls Tryd.prog 79 #[xx] w1 fun e w' => ∃ v, e = .returned v ∧ VarsOwn w' w1.heap.size v (sorted4 (readJ (cmdAt p n) 0)) ∧ Below w1.heap.size w1 w') := fun w1 hb => by
      rw [readJ_zero]
      exact l2Vars_at (wide := p.1) (vars := p.2.1) (by omega) q3 hcok.1 xx w1 (hV1.below hb)
    have G2 : Hid (∀ (w1 : World) (u : Value) (d : Ch), d ∈ (cmdAt p n).2 → NodesAt w1 u d.2 → Calls Tryd.prog 79 #[u] w1 fun e w' => ∃ v, e = .returned v ∧ VarsOwn w' w1.heap.size v (sorted4 (fun i => decide (((2, i) : Nd) ∈ d.2))) ∧ Below w1.heap.size w1 w') := fun w1 u d hd hu => l2Vars_at (wide := p.1) (vars := p.2.1) (by have := hch d hd; omega) q3 (hcok.2.2 d hd).2 u w1 hu
    obtain ⟨ya, yc, rfl, hyc⟩ := hV2.opened
    have HCH : Hid (∀ (i : Nat) (d : Ch), (cmdAt p n).2[i]? = some d → ∃ (b off : Nat) (y : Value), ya = some ⟨b, off, none⟩ ∧ ∀ w1 : World, Below w.heap.size w w1 → w1.cell? ⟨b, off + i * 2, none⟩ = some (.int .i64 d.1) ∧ w1.cell? ⟨b, off + i * 2 + 1, none⟩ = some y ∧ NodesAt w1 y d.2) := fun i d hi => by
      obtain ⟨b, off, e, hlt, x, y, h3, h4, h5⟩ := hyc i d hi
      obtain ⟨_, rfl, h6⟩ := h5
      exact ⟨b, off, y, e, fun w1 hb' => ⟨by rw [hb'.cell (p := ⟨b, off + i * 2, none⟩) hlt]; exact h3, by rw [hb'.cell (p := ⟨b, off + i * 2 + 1, none⟩) hlt]; exact h4, h6.below hb'⟩⟩
    have HCX : Hid (∀ w1 : World, Below w.heap.size w w1 → w1.cell? ⟨pb, poff + n.toNat * 2, none⟩ = some xx ∧ w1.cell? ⟨pb, poff + n.toNat * 2 + 1, none⟩ = some (.slice ya (cmdAt p n).2.length yc)) := fun w1 hb' => ⟨by rw [hb'.cell (p := ⟨pb, poff + n.toNat * 2, none⟩) hplt]; exact cx, by rw [hb'.cell (p := ⟨pb, poff + n.toNat * 2 + 1, none⟩) hplt]; exact cy⟩
    have HIN : Hid (∀ d ∈ (cmdAt p n).2, 0 ≤ d.1 ∧ d.1 < 4) := fun d hd => by
      have := hch d hd
      omega
    have HFB : Hid (touchB p n = true) := by
      show touchB p n = true
      unfold touchB
      rw [hgp, decide_eq_true hin]
      rfl
    have HR : Hid (touchR p n = sorted4 (readJ (cmdAt p n) (cmdAt p n).2.length)) := by
      show touchR p n = _
      unfold touchR
      rw [HFB.out, if_pos rfl, readJ_all]
      rfl
    have HW : Hid (touchW p n = (cmdAt p n).2.map (fun x => x.1)) := by
      show touchW p n = _
      unfold touchW
      rw [HFB.out, if_pos rfl]
      rfl
    have HJ : Hid (∀ (j : Nat) (d : Ch), (cmdAt p n).2[j]? = some d → sorted4 (fun i => readJ (cmdAt p n) j i || decide (i ∈ sorted4 (fun i => decide (((2, i) : Nd) ∈ d.2)))) = sorted4 (readJ (cmdAt p n) (j + 1))) := fun j d hd => by
      rw [readJ_succ hd]
      apply sorted4_congr
      intro i h0 h4
      congr 1
      have hm := sorted4_mem (fun i => decide (((2, i) : Nd) ∈ d.2)) i
      cases hx : decide (((2, i) : Nd) ∈ d.2) with
      | true => exact decide_eq_true (hm.2 ⟨⟨h0, h4⟩, hx⟩)
      | false => exact decide_eq_false (fun hh => by have := (hm.1 hh).2; rw [hx] at this; cases this)
    obtain ⟨xa, xc, rfl⟩ := hV1.shape
    have hchl4 : (cmdAt p n).2.length ≤ 4 := by omega
    obtain ⟨m, rfl⟩ : ∃ m : Nat, n = m := ⟨n.toNat, by omega⟩
    rw [Int.toNat_natCast] at HCX
    have hnn : ((m : Int) < (p.2.2.2.length : Int)) := hin.2
    obtain ⟨i0, hi, hz0, hz1, hz2⟩ := info_parts infoInt
    clear hgp hcc hcm hns h ok hc hcmem hcok q0 q1 q2 q3 hcm0 hcb hch hchl hk2 hplt cx cy hV1 hV2 hyc
    generalize hcmd : cmdAt p m = cmd at *
    clear hcmd
    generalize p.2.2.1.length = sn at *
    generalize p.2.2.2.length = cn at *
    generalize p.1 = pw at *
    generalize p.2.1 = pv at *
    generalize cmd.1.length = xn at *
    have g := fun w1 => l1In_any (m : Int) 0 ((cn : Int) - 1) w1
    rw [decide_eq_true (by omega)] at g
    have GI : Hid _ := g
    clear g
    go_enter Tryd.func34, Tryd.ntmps34
    go_wp2_with fail
    refine (HS.out _ HB0.out).mono ?_
    generalize w.alloc (.cells #[.int .i64 pw, .int .i64 pv, .slice sa sn sc, .slice (some ⟨pb, poff, none⟩) cn cc] 27) = w0 at *
    rintro e w1 ⟨rfl, hs⟩
    have HB1 : Hid (Below w.heap.size w w1) := Below.step HB0.out HB0.out.size hs
    have x1 := HX0.out.below hs HX0.out.lt
    have HX1 : Hid _ := x1
    obtain ⟨a0, a1, a2, a3⟩ := x1.cells
    have ah := x1.heap
    have al := x1.lt
    obtain ⟨cx1, cy1⟩ := HCX.out _ HB1.out
    clear hs x1 HX0 HS
    go_wp2_with fail
    refine (GI.out _).mono ?_
    rintro e w2 ⟨rfl, rfl⟩
    go_wp2_with fail
    refine (G1.out _ HB1.out).mono ?_
    rintro e w3 ⟨r, rfl, hr, hs⟩
    have HB3 : Hid (Below w.heap.size w w3) := HB1.out.trans (hs.mono HB1.out.size)
    have x3 := HX1.out.below hs HX1.out.lt
    clear a0 a1 a2 a3 ah al cx1 cy1
    obtain ⟨a0, a1, a2, a3⟩ := x3.cells
    have ah := x3.heap
    have al := x3.lt
    obtain ⟨cx1, cy1⟩ := HCX.out _ HB3.out
    have HR3 : Hid (VarsOwn w3 w.heap.size r (sorted4 (readJ cmd 0))) := ⟨own_weaken hr.1 HB1.out.size, hr.2⟩
    obtain ⟨ra, rn, rc, rfl⟩ : ∃ a n c, r = .slice a n c := by
      rcases hr.1.2 with ⟨rfl, _⟩ | ⟨_, _, _, rfl, _⟩ <;> exact ⟨_, _, _, rfl⟩
    clear hs x3 HX1 hr GI G1 HCX
    go_wp2_with fail
    have HW3 : Hid (OwnInts w3 w.heap.size (.slice none 0 0) ((cmd.2.take 0).map (fun x => x.1))) := World.ownsRow_nil _ _ _ _
    go_loopw [7, 8, 39] (fun rv wv i wr => ∃ j : Nat, j ≤ cmd.2.length ∧ i = .int .i64 j ∧ Hid (VarsOwn wr w.heap.size rv (sorted4 (readJ cmd j))) ∧ Hid (OwnInts wr w.heap.size wv ((cmd.2.take j).map (fun x => x.1))) ∧ Hid (Ap2 rv wv) ∧ Hid (Below w.heap.size w wr)) (fun _ _ i _ => cmd.2.length - (intOf i).toNat)
    case atStart => exact ⟨0, by omega, rfl, HR3, HW3, fun k _ hk => by simp [Value.ownBlock] at hk, HB3⟩
    case round =>
      obtain ⟨j, hj, rfl, HRJ, HWJ, HAP, HB⟩ := hrel
      clear HR3 HW3 HB3 a0 a1 a2 a3 ah al cx1 cy1
      by_cases hlt : j < cmd.2.length
      · obtain ⟨d, hd⟩ : ∃ d, cmd.2[j]? = some d := ⟨cmd.2[j], List.getElem?_eq_getElem hlt⟩
        have hmem := List.mem_of_getElem? hd
        obtain ⟨bb, off, y, rfl, hcell⟩ := HCH.out j d hd
        obtain ⟨cx, cy, hye⟩ := hcell wr HB.out
        obtain ⟨hd0, hd4⟩ := HIN.out d hmem
        obtain ⟨yya, yyc, rfl⟩ := hye.shape
        have hal : Below wr.heap.size wr (wr.alloc (.cells #[.int .i64 d.1, .slice yya d.2.length yyc] 122)) := (Below.refl _ _).alloc (Nat.le_refl _) _
        have hal2 : Below wr.heap.size wr ((wr.alloc (.cells #[.int .i64 d.1, .slice yya d.2.length yyc] 122)).alloc (.cells #[.int .i64 d.1] 3)) := hal.alloc hal.size _
        have hbx := (box2_alloc wr 122 (.int .i64 d.1) (.slice yya d.2.length yyc)).alloc (.cells #[.int .i64 d.1] 3)
        have hsz1 : (wr.alloc (.cells #[.int .i64 d.1, .slice yya d.2.length yyc] 122)).heap.size = wr.heap.size + 1 := World.size_alloc _ _
        have hsz2 : ((wr.alloc (.cells #[.int .i64 d.1, .slice yya d.2.length yyc] 122)).alloc (.cells #[.int .i64 d.1] 3)).heap.size = wr.heap.size + 2 := by rw [World.size_alloc, hsz1]
        have own1 := owns_below HWJ.out hal2
        have cellsN := oneI_cells (wr.alloc (.cells #[.int .i64 d.1, .slice yya d.2.length yyc] 122)) d.1
        rw [hsz1] at cellsN
        have hle : ((cmd.2.take j).map (fun x => x.1)).length ≤ 4 := by rw [List.length_map, List.length_take]; omega
        have HYE : Hid (∀ w8 : World, Below w.heap.size w w8 → NodesAt w8 (.slice yya d.2.length yyc) d.2) := fun w8 hb8 => (hcell w8 hb8).2.2
        have HRJ2 : Hid _ := owns_below HRJ.out.1 hal2
        have HWL : Hid (∀ k, u8.ownBlock = some k → w.heap.size ≤ k ∧ k < wr.heap.size) := fun k hk => World.ownsRow.lt HWJ.out k hk
        have HBX : Hid _ := hbx
        have HD : Hid (cmd.2[j]? = some d) := hd
        have HMEM : Hid (d ∈ cmd.2) := hmem
        have hszr := HB.out.size
        have HHAL2 : Hid _ := hal2
        have HMAP : Hid ((cmd.2.take (j + 1)).map (fun x => x.1) = (cmd.2.take j).map (fun x => x.1) ++ [d.1]) := by
          show (cmd.2.take (j + 1)).map (fun x => x.1) = _
          rw [List.take_add_one, hd, List.map_append]
          rfl
        have hwl := World.ownsRow.lt HWJ.out
        have HFX : Hid (∀ x ∈ sorted4 (fun i => decide (((2, i) : Nd) ∈ d.2)), 0 ≤ x ∧ x < 4) := fun x hx => ((sorted4_mem _ x).1 hx).1
        have HJ2 : Hid _ := HJ.out j d hd
        have GV : Hid (∀ (w8 : World), Below w.heap.size w w8 → Calls Tryd.prog 79 #[.slice yya d.2.length yyc] w8 fun e w' => ∃ v, e = .returned v ∧ VarsOwn w' w8.heap.size v (sorted4 (fun i => decide (((2, i) : Nd) ∈ d.2))) ∧ Below w8.heap.size w8 w') := fun w8 hb8 => G2.out w8 _ d hmem (hcell w8 hb8).2.2
        clear hye hal hal2 hbx hd hmem HCH HIN hcell HYE HMEM HD HJ G2
        generalize (fun i => decide (((2, i) : Nd) ∈ d.2)) = VF at *
        generalize hdn : d.2.length = dn at *
        generalize hdv : d.1 = dv at *
        generalize (cmd.2.take j).map (fun x => x.1) = WL at *
        go_wp2_with (at_builtin; refine wpList_append_own_at _ rfl _ _ 29 rfl w.heap.size 3 i0 (.int .i64 0) 1 8 Tryd.underlying29 hi hz0 hz1 hz2 rfl (by decide) _ _ _ rfl own1 ⟨wr.heap.size + 1, 0, none⟩ 1 1 [.int .i64 dv] rfl rfl cellsN (ints_one [dv]) (by unfold maxLen; omega) (by omega) (by omega) ?_)
        intro v7 w7 own7 grow7 _ hat
        have hbw := HB.out.trans (HHAL2.out.mono hszr)
        have HB7 : Hid (Below w.heap.size w w7) := hbw.grown grow7 (by omega) (fun q hq => (hwl q hq).1)
        have HW7 : Hid (OwnInts w7 w.heap.size v7 ((cmd.2.take (j + 1)).map (fun x => x.1))) := by
          show OwnInts w7 w.heap.size v7 ((cmd.2.take (j + 1)).map (fun x => x.1))
          rw [HMAP.out]
          unfold OwnInts
          rw [List.map_append, List.length_append]
          exact own7
        have HR7 : Hid (OwnInts w7 w.heap.size u7 (sorted4 (readJ cmd j))) := World.ownsRow.kept HRJ2.out grow7 (by
          cases hu : u7.ownBlock with
          | none => exact Or.inl rfl
          | some q => exact Or.inr (fun e => HAP.out q hu e.symm))
        have HRN : Hid (sorted4 (readJ cmd j) = [] → u7 = .slice none 0 0) := HRJ.out.2
        have HAP7 : Hid (Ap2 u7 v7) := fun q hq => by
          rcases hat with e | e
          · rw [e]
            exact HAP.out q hq
          · rw [e]
            have := (World.ownsRow.lt HRJ.out.1 q hq).2
            intro e2
            injection e2 with e2
            omega
        have hb7 : Box2 w7 wr.heap.size 122 (.int .i64 dv) (.slice yya dn yyc) := ⟨by rw [grow7.block _ (by omega) (fun e => by have := (hwl _ e.symm).2; omega)]; exact HBX.out.heap⟩
        obtain ⟨b0, b1⟩ := hb7.cells
        have bh := hb7.heap
        have bl := hb7.lt
        have gv := GV.out w7 HB7.out
        clear own7 grow7 hat own1 cellsN hb7 hbw hwl HRJ HWJ HAP HB HBX HHAL2 HMAP HRJ2 HWL
        go_wp2_with fail
        refine gv.mono ?_
        rintro e w8 ⟨vv, rfl, hvv, hs⟩
        have HB8 : Hid (Below w.heap.size w w8) := HB7.out.trans (hs.mono HB7.out.size)
        have HW8 : Hid _ := owns_below HW7.out hs
        have HR8 : Hid (VarsOwn w8 w.heap.size u7 (sorted4 (readJ cmd j))) := ⟨owns_below HR7.out hs, HRN.out⟩
        obtain ⟨va, vc, rfl⟩ : ∃ a c, vv = .slice a (sorted4 VF).length c := by
          obtain ⟨a, c, e⟩ := own_shape hvv.1
          exact ⟨a, c, e⟩
        have HVV : Hid (OwnInts w8 w7.heap.size (.slice va (sorted4 VF).length vc) (sorted4 VF)) := hvv.1
        have hvl : (sorted4 VF).length ≤ 4 := sorted4_len VF
        clear hs gv hvv b0 b1 bh bl HB7 HW7 HR7
        go_wp2_with fail
        go_loopw [7, 52] (fun rv i wq => ∃ q : Nat, q ≤ (sorted4 VF).length ∧ i = .int .i64 q ∧ Hid (VarsOwn wq w.heap.size rv (((sorted4 VF).take q).foldl putL (sorted4 (readJ cmd j)))) ∧ Hid (OwnInts wq w.heap.size v7 ((cmd.2.take (j + 1)).map (fun x => x.1))) ∧ Hid (Ap2 rv v7) ∧ Hid (Below w.heap.size w wq) ∧ Hid (OwnInts wq w7.heap.size (.slice va (sorted4 VF).length vc) (sorted4 VF))) (fun _ i _ => (sorted4 VF).length - (intOf i).toNat)
        case atStart => exact ⟨0, by omega, rfl, HR8, HW8, HAP7, HB8, HVV⟩
        case round =>
          obtain ⟨q, hq, rfl, HRQ, HWQ, HAQ, HBQ, HVQ⟩ := hrel
          clear HR8 HW8 HAP7 HB8 HVV HRN
          by_cases hlq : q < (sorted4 VF).length
          · obtain ⟨x, hx⟩ : ∃ x, (sorted4 VF)[q]? = some x := ⟨(sorted4 VF)[q], List.getElem?_eq_getElem hlq⟩
            obtain ⟨hx0, hx4⟩ := HFX.out x (List.mem_of_getElem? hx)
            have hgc : ∃ g, va = some ⟨g, 0, none⟩ ∧ wr.cell? ⟨g, q, none⟩ = some (.int .i64 x) := by
              rcases HVQ.out.2 with ⟨e, h0⟩ | ⟨g, cap, cur, e, _⟩
              · omega
              · injection e with e1 e2 e3
                subst e1 e3
                refine ⟨g, rfl, ?_⟩
                have := World.ownsRow.cellAt HVQ.out q (by omega)
                rw [this]
                simp [hx]
            obtain ⟨vg, rfl, cq⟩ := hgc
            have hfl : (((sorted4 VF).take q).foldl putL (sorted4 (readJ cmd j))).length ≤ 1048576 := by
              rw [puts_sorted _ _ (fun y hy => HFX.out y (List.mem_of_mem_take hy))]
              have := sorted4_len (fun i => readJ cmd j i || decide (i ∈ (sorted4 VF).take q))
              omega
            have gp := l1Put_fresh _ _ x (by omega) (by omega) hfl wr w.heap.size HBQ.out.size HRQ.out
            rw [← fold_take _ hx] at gp
            have HLT : Hid (∀ k, v7.ownBlock = some k → k < wr.heap.size) := fun k hk => (World.ownsRow.lt HWQ.out k hk).2
            clear hx hfl
            go_wp2_with fail
            refine gp.mono ?_
            rintro e w9 ⟨v9, rfl, ho9, hor, hs9⟩
            have HB9 : Hid (Below w.heap.size w w9) := HBQ.out.trans (hs9.mono HBQ.out.size)
            have HW9 : Hid _ := owns_below HWQ.out hs9
            have HV9 : Hid _ := owns_below HVQ.out hs9
            have HR9 : Hid _ := ho9
            have HA9 : Hid (Ap2 v9 v7) := fun k hk => by
              rcases hor with rfl | hf
              · exact HAQ.out k hk
              · intro e2
                have := hf k hk
                have := HLT.out k e2
                omega
            clear gp hs9 ho9 hor cq
            go_wp2_with fail
            go_roundw
            case rel => exact ⟨q + 1, by omega, by go_num, HR9, HW9, HA9, HB9, HV9⟩
            case measure => simp [intOf]; omega
          · obtain rfl : q = (sorted4 VF).length := by omega
            have HR9 : Hid (VarsOwn wr w.heap.size u7 (sorted4 (readJ cmd (j + 1)))) := by
              have h9 := HRQ.out
              rw [List.take_length, puts_sorted _ _ HFX.out, HJ2.out] at h9
              exact h9
            clear HRQ HVQ HFX HJ2 GV
            go_wp2_with fail
            go_roundw
            case rel => exact ⟨j + 1, by omega, by go_num, HR9, HWQ, HAQ, HBQ⟩
            case measure => simp [intOf]; omega
      · obtain rfl : j = cmd.2.length := by omega
        have HRE : Hid (OwnIS wr w.heap.size wr.heap.size u7 (touchR p m)) := by
          show RowIn _ _ _ _ _ _ _ _
          rw [HR.out]
          exact rowIn_of HRJ.out.1
        have HWE : Hid (OwnIS wr w.heap.size wr.heap.size u8 (touchW p m)) := by
          show RowIn _ _ _ _ _ _ _ _
          have h9 := HWJ.out
          rw [List.take_length] at h9
          rw [HW.out]
          exact rowIn_of h9
        clear HRJ HWJ HCH HIN HJ G2
        go_wp2_with fail
        go_ret3
        exact ⟨_, _, by rw [HFB.out]; rfl, HRE.out, HWE.out, HAP.out, HB.out⟩
end Go.Proofs.YtjbolpfilgkbfaaDoor

namespace Go.Proofs.YtjbolpfilgkbfaaDoor
open Go Go.RowKit
open M
set_option linter.unusedVariables false

theorem Ap2.other {v v1 : Value} (h : Ap2 v v1) : v1.ownBlock = none ∨ v1.ownBlock ≠ v.ownBlock := by
  cases e : v.ownBlock with
  | none =>
    cases e1 : v1.ownBlock with
    | none => exact Or.inl rfl
    | some k => exact Or.inr (by simp)
  | some k => exact Or.inr (h k e)
theorem Ap2.other' {v v1 : Value} (h : Ap2 v v1) : v.ownBlock = none ∨ v.ownBlock ≠ v1.ownBlock := by
  cases e : v.ownBlock with
  | none => exact Or.inl rfl
  | some k => exact Or.inr (fun e1 => h k e e1.symm)
theorem markIS_first (v v1 : Value) (a b : List Int) (lo hi : Nat) (k : Int) (hl : a.length ≤ 1048576) (hk0 : 0 ≤ k) (hk : k ≤ 100000000000) (w : World) (h : OwnIS w lo hi v a) (h1 : OwnIS w lo hi v1 b) (hap : Ap2 v v1) :
    Calls Tryd.prog 53 #[v, .int .i64 k] w fun e w' => e = .returned (.int .i64 (k + a.length)) ∧ MarkIS w' lo hi v a k ∧ OwnIS w' lo hi v1 b ∧ Touch lo hi w w' := by
  refine (markIntS_any v _ _ _ _ k (by omega) hk0 (by omega) w h.1).mono ?_
  rintro e w' ⟨he, m, gr⟩
  exact ⟨he, RowIn.marked h m gr, ⟨World.ownsRow.kept h1.1 gr hap.other, h1.2.1, Nat.le_trans h1.2.2 gr.size⟩, touch_of_grown gr (fun k hk => ⟨(own_block h.1 hk).1, h.2.1 k hk⟩)⟩
theorem markIS_second (v v1 : Value) (a b : List Int) (lo hi : Nat) (k k0 : Int) (hl : b.length ≤ 1048576) (hk0 : 0 ≤ k) (hk : k ≤ 100000000000) (w : World) (h : MarkIS w lo hi v a k0) (h1 : OwnIS w lo hi v1 b) (hap : Ap2 v v1) :
    Calls Tryd.prog 53 #[v1, .int .i64 k] w fun e w' => e = .returned (.int .i64 (k + b.length)) ∧ MarkIS w' lo hi v1 b k ∧ MarkIS w' lo hi v a k0 ∧ Touch lo hi w w' := by
  refine (markIntS_any v1 _ _ _ _ k (by omega) hk0 (by omega) w h1.1).mono ?_
  rintro e w' ⟨he, m, gr⟩
  exact ⟨he, RowIn.marked h1 m gr, ⟨World.ownsRow.kept h.1 gr hap.other', h.2.1, Nat.le_trans h.2.2 gr.size⟩, touch_of_grown gr (fun k hk => ⟨(own_block h1.1 hk).1, h1.2.1 k hk⟩)⟩
end Go.Proofs.YtjbolpfilgkbfaaDoor

namespace Go.Proofs.YtjbolpfilgkbfaaDoor
open Go Go.RowKit
open M
set_option linter.unusedVariables false

/-- four truths as they lie in a block -/
abbrev BoxB (w : World) (b : Nat) (f : Int → Bool) : Prop := Box4 w b 113 (.bool (f 0)) (.bool (f 1)) (.bool (f 2)) (.bool (f 3))
abbrev aggB (f : Int → Bool) : Value := .agg #[.bool (f 0), .bool (f 1), .bool (f 2), .bool (f 3)]
theorem results_v4 {fn : Func} {p : Tmp} (h : fn.results = #[.cell p 113]) (tmps : Array Value) (w : World) (g : Nat) (t : TypeId) (cs : Array Value) (fr : Nat × Nat)
    (hp : tmps.getD p undef = .pointer (some ⟨g, 0, none⟩)) (hg : w.heap[g]? = some (.cells cs t fr)) (hi : cs.size = 4 := by rfl) :
    (results fn tmps).run Tryd.prog w = .ok (.agg cs) w := by
  have hp' : tmps[p]?.getD undef = .pointer (some ⟨g, 0, none⟩) := by simpa using hp
  have h4 : (Tryd.prog.info? 113).map (·.size) = some 4 := by kernel_rfl
  simp [results, h, hp', asAddr, run_loadVar_row w g t 113 cs fr _ hg Tryd.underlying113 rfl (by rw [hi]; exact h4)]
theorem boxB_cell {w : World} {b i : Nat} {f : Int → Bool} (h : BoxB w b f) (hi : i < 4) : w.cell? ⟨b, i, none⟩ = some (.bool (f i)) := by
  obtain ⟨c0, c1, c2, c3⟩ := h.cells
  rcases (show i = 0 ∨ i = 1 ∨ i = 2 ∨ i = 3 by omega) with rfl | rfl | rfl | rfl
  · exact c0
  · exact c1
  · exact c2
  · exact c3
theorem boxB_set {w : World} {b i : Nat} {f : Int → Bool} (h : BoxB w b f) (hi : i < 4) : BoxB (w.setCell ⟨b, i, none⟩ (.bool true)) b (fun j => f j || j == (i : Int)) := by
  show Box4 _ _ _ _ _ _ _
  rcases (show i = 0 ∨ i = 1 ∨ i = 2 ∨ i = 3 by omega) with rfl | rfl | rfl | rfl
  · simpa using h.set0 (.bool true)
  · simpa using h.set1 (.bool true)
  · simpa using h.set2 (.bool true)
  · simpa using h.set3 (.bool true)
set_option maxRecDepth 100000 in
set_option maxHeartbeats 4000000 in
theorem changed_any (c : Cm) (wide vars : Int) (x y : Value) (hv1 : 1 ≤ vars) (hv4 : vars ≤ 4) (hch : chsB wide vars 0 c.2 = true) (w : World) (hel : CmEl w (Old w) wide vars c x y) :
    Calls Tryd.prog 73 #[.agg #[x, y]] w fun e w' => e = .returned (aggB (changeF c)) ∧ Below w.heap.size w w' := by
  have hin := chsB_mem wide vars c.2 0 hch
  have hcl := chsB_len wide vars c.2 0 hch (by omega)
  have HCR : Hid (∀ w1 : World, Below w.heap.size w w1 → CrAt w1 (Old w1) wide vars y c.2) := fun w1 hb => hel.2.frame hb.size (fun i hi => Nat.lt_of_lt_of_le hi hb.size) (fun i hi => hb.block i hi)
  obtain ⟨_, xb, rfl, _⟩ := hel.1
  obtain ⟨ya, yc, rfl⟩ : ∃ a cc, y = .slice a c.2.length cc := by
    rcases hel.2 with ⟨e, rfl⟩ | ⟨g, cap, rfl, _⟩
    · rw [e]
      exact ⟨_, _, rfl⟩
    · exact ⟨_, _, rfl⟩
  have hb3 : Below w.heap.size w (((w.alloc (.cells #[ptr xb, .slice ya c.2.length yc] 108)).alloc (.cells #[.bool false, .bool false, .bool false, .bool false] 113)).alloc (.cells #[.bool false, .bool false, .bool false, .bool false] 113)) := (((Below.refl _ _).alloc (Nat.le_refl _) _).alloc (by rw [World.size_alloc]; omega) _).alloc (by rw [World.size_alloc, World.size_alloc]; omega) _
  have z0 := (box4_alloc (w.alloc (.cells #[ptr xb, .slice ya c.2.length yc] 108)) 113 (.bool false) (.bool false) (.bool false) (.bool false)).alloc (.cells #[.bool false, .bool false, .bool false, .bool false] 113)
  have r0 := box4_alloc ((w.alloc (.cells #[ptr xb, .slice ya c.2.length yc] 108)).alloc (.cells #[.bool false, .bool false, .bool false, .bool false] 113)) 113 (.bool false) (.bool false) (.bool false) (.bool false)
  have k0 := ((box2_alloc w 108 (ptr xb) (.slice ya c.2.length yc)).alloc (.cells #[.bool false, .bool false, .bool false, .bool false] 113)).alloc (.cells #[.bool false, .bool false, .bool false, .bool false] 113)
  simp only [World.size_alloc] at z0 r0
  have HB0 : Hid _ := hb3
  have HZ0 : Hid (BoxB (((w.alloc (.cells #[ptr xb, .slice ya c.2.length yc] 108)).alloc (.cells #[.bool false, .bool false, .bool false, .bool false] 113)).alloc (.cells #[.bool false, .bool false, .bool false, .bool false] 113)) (w.heap.size + 1) (fun _ => false)) := z0
  have HR0 : Hid (BoxB (((w.alloc (.cells #[ptr xb, .slice ya c.2.length yc] 108)).alloc (.cells #[.bool false, .bool false, .bool false, .bool false] 113)).alloc (.cells #[.bool false, .bool false, .bool false, .bool false] 113)) (w.heap.size + 1 + 1) (changeJ c 0)) := by
    rw [changeJ_zero]
    exact r0
  obtain ⟨k1, k2⟩ := k0.cells
  have kh := k0.heap
  have kl := k0.lt
  have HIN : Hid (∀ d ∈ c.2, ∃ i : Nat, d.1 = i ∧ i < 4) := fun d hd => by
    have := hin d hd
    exact ⟨d.1.toNat, by omega, by omega⟩
  have HJ : Hid (∀ (j : Nat) (d : Ch), c.2[j]? = some d → changeJ c (j + 1) = fun i => changeJ c j i || i == d.1) := fun j d h => changeJ_succ h
  have HA : Hid (changeJ c c.2.length = changeF c) := changeJ_all c
  have h4 : (Tryd.prog.info? 113).map (·.size) = some 4 := by kernel_rfl
  clear hb3 z0 r0 k0 hel hin hch
  go_enter Tryd.func73, Tryd.ntmps73
  go_wp2_with fail
  go_loopw [9] (fun i wr => ∃ j : Nat, j ≤ c.2.length ∧ i = .int .i64 j ∧ Hid (BoxB wr (w.heap.size + 1 + 1) (changeJ c j)) ∧ Hid (Below w.heap.size w wr) ∧ Hid (BoxB wr (w.heap.size + 1) (fun _ => false))) (fun i _ => c.2.length - (intOf i).toNat)
  case atStart => exact ⟨0, by omega, rfl, HR0, HB0, HZ0⟩
  case round =>
    obtain ⟨j, hj, rfl, HR, HB, HZ⟩ := hrel
    clear HR0 HB0 HZ0 k1 k2 kh kl
    by_cases hlt : j < c.2.length
    · obtain ⟨d, hd⟩ : ∃ d, c.2[j]? = some d := ⟨c.2[j], List.getElem?_eq_getElem hlt⟩
      obtain ⟨i, hi1, hi4⟩ := HIN.out d (List.mem_of_getElem? hd)
      obtain ⟨b2, rfl, u, v, cx, cy, rfl, hv⟩ : ∃ b2 : Nat, ya = some ⟨b2, 0, none⟩ ∧ ∃ u v : Value, wr.cell? ⟨b2, j * 2, none⟩ = some u ∧ wr.cell? ⟨b2, j * 2 + 1, none⟩ = some v ∧ u = .int .i64 d.1 ∧ RtAt wr (Old wr) wide vars 1 d.2 v := by
        rcases HCR.out wr HB.out with ⟨e, _⟩ | ⟨g', cap', e, _, _, hcc⟩
        · rw [e] at hd
          simp at hd
        · injection e with e1 _ _
          obtain ⟨u, v, k1, k2, k3⟩ := hcc j d hd
          exact ⟨g', e1, u, v, k1, k2, k3.1, k3.2⟩
      obtain ⟨_, zb, rfl, _⟩ := hv
      have hj1 := HJ.out j d hd
      rw [hi1] at cx hj1
      have hal : Below wr.heap.size wr (wr.alloc (.cells #[.int .i64 (i : Int), ptr zb] 147)) := (Below.refl _ _).alloc (Nat.le_refl _) _
      have hr2 := HR.out.below hal HR.out.lt
      have HZ2 : Hid _ := HZ.out.below hal HZ.out.lt
      have HB2 : Hid _ := HB.out.trans (hal.mono HB.out.size)
      have cn := boxB_cell hr2 hi4
      have fn := hr2.frozen i
      have nl := hr2.lt
      have HR3 : Hid (BoxB ((wr.alloc (.cells #[.int .i64 (i : Int), ptr zb] 147)).setCell ⟨w.heap.size + 1 + 1, i, none⟩ (.bool true)) (w.heap.size + 1 + 1) (changeJ c (j + 1))) := by
        rw [hj1]
        exact boxB_set hr2 hi4
      have hii : ((i : Int) < 4) := by omega
      clear hr2 hal hj1 hd HCR HIN HJ HA HR HB HZ hi1
      go_wp2_with fail
      go_roundw
      case rel => exact ⟨j + 1, by omega, by go_num, HR3, HB2.out.setCell (by show w.heap.size ≤ w.heap.size + 1 + 1; omega) _, HZ2.out.other (by omega) _⟩
      case measure => simp [intOf]; omega
    · obtain rfl : j = c.2.length := by omega
      obtain ⟨q0, q1, q2, q3⟩ := HR.out.cells
      have qh := HR.out.heap
      have ql := HR.out.lt
      obtain ⟨z0, z1, z2, z3⟩ := HZ.out.cells
      have zh := HZ.out.heap
      have zl := HZ.out.lt
      have f0 := HZ.out.frozen 0
      have f1 := HZ.out.frozen 1
      have f2 := HZ.out.frozen 2
      have f3 := HZ.out.frozen 3
      clear HCR HIN HJ
      generalize changeJ c c.2.length = FF at *
      go_wp2_with fail
      refine bodyPost_ret (results_v4 rfl _ _ _ _ _ _ rfl ((((HZ.out.set0 (.bool (FF 0))).set1 (.bool (FF 1))).set2 (.bool (FF 2))).set3 (.bool (FF 3))).heap) rfl ?_
      exact ⟨by rw [← HA.out], set4_below HB.out (Nat.le_succ _) _ _ _ _⟩
theorem nameR_any {wide vars kind : Int} {t : List Nd} (hpos : ∀ x ∈ t, 0 ≤ x.2) (hv4 : vars ≤ 4) (z : Value) (g : Nat) (f : Int → Bool) (w : World) (hr : RtAt w (OldNot w g) wide vars kind t z) (hh : w.heap[g]? = some (.cells (bools f) 113 (0, 0))) :
    Calls Tryd.prog 113 #[z, ptr g] w fun e w' => e = .returned (.tuple #[]) ∧ w'.heap[g]? = some (.cells (bools (fun i => f i || decide (((2, i) : Nd) ∈ t))) 113 (0, 0)) ∧ But g w w' := by
  obtain ⟨r, b, rfl, hf, hok, _, _, htr⟩ := hr
  have h := nameVars_any r b g f w htr hh (fun x hx h2 => by
    have a := ok_vars hok x hx h2
    have b := hpos x (by rw [← hf]; exact hx)
    omega) ⟨wide, vars, hok⟩
  rw [hf] at h
  exact h
set_option maxRecDepth 100000 in
set_option maxHeartbeats 4000000 in
theorem read_any (c : Cm) (ok : CmOk c) (wide vars : Int) (x y : Value) (hv1 : 1 ≤ vars) (hv4 : vars ≤ 4) (hch : chsB wide vars 0 c.2 = true) (w : World) (hel : CmEl w (Old w) wide vars c x y) :
    Calls Tryd.prog 71 #[.agg #[x, y]] w fun e w' => e = .returned (aggB (readF c)) ∧ Below w.heap.size w w' := by
  have hcl := chsB_len wide vars c.2 0 hch (by omega)
  have HCR : Hid (∀ w1 : World, Below w.heap.size w w1 → CrAt w1 (Old w1) wide vars y c.2) := fun w1 hb => hel.2.frame hb.size (fun i hi => Nat.lt_of_lt_of_le hi hb.size) (fun i hi => hb.block i hi)
  have GN0 : ∀ (w1 : World) (f : Int → Bool), Below w.heap.size w w1 → w.heap.size + 1 + 1 < w1.heap.size → w1.heap[w.heap.size + 1 + 1]? = some (.cells (bools f) 113 (0, 0)) → Calls Tryd.prog 113 #[x, ptr (w.heap.size + 1 + 1)] w1 fun e w' => e = .returned (.tuple #[]) ∧ w'.heap[w.heap.size + 1 + 1]? = some (.cells (bools (fun i => f i || decide (((2, i) : Nd) ∈ c.1))) 113 (0, 0)) ∧ But (w.heap.size + 1 + 1) w1 w' := fun w1 f hb hl hh =>
    nameR_any (ns_pos ok.1) hv4 x _ f w1 (hel.1.frame (fun i hi => ⟨Nat.lt_of_lt_of_le hi hb.size, by have : i < w.heap.size := hi; omega⟩) (fun i hi => hb.block i hi)) hh
  have GJ0 : ∀ (w1 : World) (f : Int → Bool) (z : Value) (d : Ch), d ∈ c.2 → RtAt w1 (OldNot w1 (w.heap.size + 1 + 1)) wide vars 1 d.2 z → w1.heap[w.heap.size + 1 + 1]? = some (.cells (bools f) 113 (0, 0)) → Calls Tryd.prog 113 #[z, ptr (w.heap.size + 1 + 1)] w1 fun e w' => e = .returned (.tuple #[]) ∧ w'.heap[w.heap.size + 1 + 1]? = some (.cells (bools (fun i => f i || decide (((2, i) : Nd) ∈ d.2))) 113 (0, 0)) ∧ But (w.heap.size + 1 + 1) w1 w' := fun w1 f z d hd hr hh =>
    nameR_any (ns_pos (ok.2.2 d hd).2) hv4 z _ f w1 hr hh
  have HRO : Hid (∀ (w1 : World), Below w.heap.size w w1 → ∀ (g cap : Nat) (hy : y = .slice (some ⟨g, 0, none⟩) c.2.length cap) (j : Nat) (d : Ch), c.2[j]? = some d → ∃ u v : Value, w1.cell? ⟨g, j * 2, none⟩ = some u ∧ w1.cell? ⟨g, j * 2 + 1, none⟩ = some v ∧ u = .int .i64 d.1 ∧ RtAt w (Old w) wide vars 1 d.2 v) := fun w1 hb g cap hy j d hd => by
    rcases hel.2 with ⟨e, _⟩ | ⟨g', cap', e, hg, _, hcc⟩
    · rw [e] at hd
      simp at hd
    · rw [hy] at e
      injection e with e1 _ _
      injection e1 with e1
      injection e1 with e1
      subst e1
      obtain ⟨u, v, k1, k2, k3⟩ := hcc j d hd
      exact ⟨u, v, by rw [hb.cell (p := ⟨g, j * 2, none⟩) (block_lt_of_cell k1)]; exact k1, by rw [hb.cell (p := ⟨g, j * 2 + 1, none⟩) (block_lt_of_cell k2)]; exact k2, k3.1, k3.2⟩
  obtain ⟨_, xb, rfl, _⟩ := hel.1
  obtain ⟨ya, yc, rfl⟩ : ∃ a cc, y = .slice a c.2.length cc := by
    rcases hel.2 with ⟨e, rfl⟩ | ⟨g, cap, rfl, _⟩
    · rw [e]
      exact ⟨_, _, rfl⟩
    · exact ⟨_, _, rfl⟩
  have hya : ∀ (j : Nat) (d : Ch), c.2[j]? = some d → ∃ b2 : Nat, ya = some ⟨b2, 0, none⟩ := fun j d hd => by
    rcases hel.2 with ⟨e, _⟩ | ⟨g', cap', e, _⟩
    · rw [e] at hd
      simp at hd
    · injection e with e1 _ _
      exact ⟨g', e1⟩
  have HYA : Hid _ := hya
  have hb3 : Below w.heap.size w (((w.alloc (.cells #[ptr xb, .slice ya c.2.length yc] 108)).alloc (.cells #[.bool false, .bool false, .bool false, .bool false] 113)).alloc (.cells #[.bool false, .bool false, .bool false, .bool false] 113)) := (((Below.refl _ _).alloc (Nat.le_refl _) _).alloc (by rw [World.size_alloc]; omega) _).alloc (by rw [World.size_alloc, World.size_alloc]; omega) _
  have hz3 : (((w.alloc (.cells #[ptr xb, .slice ya c.2.length yc] 108)).alloc (.cells #[.bool false, .bool false, .bool false, .bool false] 113)).alloc (.cells #[.bool false, .bool false, .bool false, .bool false] 113)).heap.size = w.heap.size + 1 + 1 + 1 := by rw [World.size_alloc, World.size_alloc, World.size_alloc]
  have z0 := (box4_alloc (w.alloc (.cells #[ptr xb, .slice ya c.2.length yc] 108)) 113 (.bool false) (.bool false) (.bool false) (.bool false)).alloc (.cells #[.bool false, .bool false, .bool false, .bool false] 113)
  have r0 := box4_alloc ((w.alloc (.cells #[ptr xb, .slice ya c.2.length yc] 108)).alloc (.cells #[.bool false, .bool false, .bool false, .bool false] 113)) 113 (.bool false) (.bool false) (.bool false) (.bool false)
  have k0 := ((box2_alloc w 108 (ptr xb) (.slice ya c.2.length yc)).alloc (.cells #[.bool false, .bool false, .bool false, .bool false] 113)).alloc (.cells #[.bool false, .bool false, .bool false, .bool false] 113)
  simp only [World.size_alloc] at z0 r0
  have g0 := GN0 _ (fun _ => false) hb3 (by omega) r0.heap
  have HB0 : Hid _ := hb3
  have HZ0 : Hid (BoxB (((w.alloc (.cells #[ptr xb, .slice ya c.2.length yc] 108)).alloc (.cells #[.bool false, .bool false, .bool false, .bool false] 113)).alloc (.cells #[.bool false, .bool false, .bool false, .bool false] 113)) (w.heap.size + 1) (fun _ => false)) := z0
  have HK0 : Hid _ := k0
  obtain ⟨k1, k2⟩ := k0.cells
  have kh := k0.heap
  have kl := k0.lt
  have HJ : Hid (∀ (j : Nat) (d : Ch), c.2[j]? = some d → readJ c (j + 1) = fun i => readJ c j i || decide (((2, i) : Nd) ∈ d.2)) := fun j d h => readJ_succ h
  have HA : Hid (readJ c c.2.length = readF c) := readJ_all c
  have HJ0 : Hid (readJ c 0 = fun i => decide (((2, i) : Nd) ∈ c.1)) := readJ_zero c
  have GJ : Hid _ := GJ0
  have h4 : (Tryd.prog.info? 113).map (·.size) = some 4 := by kernel_rfl
  clear hb3 z0 r0 k0 hel hch GN0 GJ0 hya ok
  go_enter Tryd.func71, Tryd.ntmps71
  go_wp2_with fail
  refine g0.mono ?_
  clear k1 k2 kh kl
  generalize (((w.alloc (.cells #[ptr xb, .slice ya c.2.length yc] 108)).alloc (.cells #[.bool false, .bool false, .bool false, .bool false] 113)).alloc (.cells #[.bool false, .bool false, .bool false, .bool false] 113)) = w0 at *
  rintro e w1 ⟨rfl, hh1, hbut⟩
  have HR1 : Hid (w1.heap[w.heap.size + 1 + 1]? = some (.cells (bools (readJ c 0)) 113 (0, 0))) := by
    show w1.heap[w.heap.size + 1 + 1]? = some (.cells (bools (readJ c 0)) 113 (0, 0))
    rw [hh1, HJ0.out]
    congr 2
  have HB1 : Hid (Below w.heap.size w w1) := HB0.out.trans (hbut.below (by omega) (by omega))
  have HZ1 : Hid (BoxB w1 (w.heap.size + 1) (fun _ => false)) := ⟨by rw [hbut.block _ (by omega) HZ0.out.lt]; exact HZ0.out.heap⟩
  have hk1 : Box2 w1 w.heap.size 108 (ptr xb) (.slice ya c.2.length yc) := ⟨by rw [hbut.block _ (by omega) HK0.out.lt]; exact HK0.out.heap⟩
  obtain ⟨k1, k2⟩ := hk1.cells
  have kh := hk1.heap
  have kl := hk1.lt
  clear g0 hh1 hbut hk1 HK0 HJ0 HB0 HZ0
  go_wp2_with fail
  go_loopw [12] (fun i wr => ∃ j : Nat, j ≤ c.2.length ∧ i = .int .i64 j ∧ Hid (wr.heap[w.heap.size + 1 + 1]? = some (.cells (bools (readJ c j)) 113 (0, 0))) ∧ Hid (Below w.heap.size w wr) ∧ Hid (BoxB wr (w.heap.size + 1) (fun _ => false))) (fun i _ => c.2.length - (intOf i).toNat)
  case atStart => exact ⟨0, by omega, rfl, HR1, HB1, HZ1⟩
  case round =>
    obtain ⟨j, hj, rfl, HR, HB, HZ⟩ := hrel
    clear HR1 HB1 HZ1 k1 k2 kh kl
    by_cases hlt : j < c.2.length
    · obtain ⟨d, hd⟩ : ∃ d, c.2[j]? = some d := ⟨c.2[j], List.getElem?_eq_getElem hlt⟩
      have hmem := List.mem_of_getElem? hd
      obtain ⟨b2, rfl⟩ := HYA.out j d hd
      obtain ⟨u, v, cx, cy, rfl, hv⟩ := HRO.out wr HB.out b2 yc rfl j d hd
      have hj1 := HJ.out j d hd
      have hal : Below wr.heap.size wr (wr.alloc (.cells #[.int .i64 d.1, v] 147)) := (Below.refl _ _).alloc (Nat.le_refl _) _
      have hgl : w.heap.size + 1 + 1 < wr.heap.size := (Array.getElem?_eq_some_iff.1 HR.out).1
      have hb2 := HB.out.trans (hal.mono HB.out.size)
      have hv2 : RtAt (wr.alloc (.cells #[.int .i64 d.1, v] 147)) (OldNot _ (w.heap.size + 1 + 1)) wide vars 1 d.2 v := hv.frame (fun i hi => ⟨Nat.lt_of_lt_of_le hi hb2.size, by have : i < w.heap.size := hi; omega⟩) (fun i hi => hb2.block i hi)
      have hh2 : (wr.alloc (.cells #[.int .i64 d.1, v] 147)).heap[w.heap.size + 1 + 1]? = some (.cells (bools (readJ c j)) 113 (0, 0)) := by rw [hal.block _ hgl]; exact HR.out
      have gj := GJ.out _ _ v d hmem hv2 hh2
      rw [← hj1] at gj
      have HB2 : Hid _ := hb2
      have HZ2 : Hid _ := HZ.out.below hal HZ.out.lt
      have hsz := hal.size
      obtain ⟨_, zb, rfl, _⟩ := hv
      clear hal hj1 hd HCR HRO HYA HJ HA HR HB HZ hv2 hh2 hmem GJ hb2
      generalize d.1 = dv at *
      go_wp2_with fail
      refine gj.mono ?_
      rintro e w3 ⟨rfl, hh3, hbut⟩
      have HR3 : Hid _ := hh3
      have HB3 : Hid (Below w.heap.size w w3) := HB2.out.trans (hbut.below (by omega) (by omega))
      have HZ3 : Hid (BoxB w3 (w.heap.size + 1) (fun _ => false)) := ⟨by rw [hbut.block _ (by omega) HZ2.out.lt]; exact HZ2.out.heap⟩
      clear gj hh3 hbut
      go_wp2_with fail
      go_roundw
      case rel => exact ⟨j + 1, by omega, by go_num, HR3, HB3, HZ3⟩
      case measure => simp [intOf]; omega
    · obtain rfl : j = c.2.length := by omega
      have hbx : BoxB wr (w.heap.size + 1 + 1) (readJ c c.2.length) := ⟨HR.out⟩
      obtain ⟨q0, q1, q2, q3⟩ := hbx.cells
      have qh := hbx.heap
      have ql := hbx.lt
      obtain ⟨z0, z1, z2, z3⟩ := HZ.out.cells
      have zh := HZ.out.heap
      have zl := HZ.out.lt
      have f0 := HZ.out.frozen 0
      have f1 := HZ.out.frozen 1
      have f2 := HZ.out.frozen 2
      have f3 := HZ.out.frozen 3
      clear HCR HRO HYA HJ hbx GJ
      generalize readJ c c.2.length = FF at *
      go_wp2_with fail
      refine bodyPost_ret (results_v4 rfl _ _ _ _ _ _ rfl ((((HZ.out.set0 (.bool (FF 0))).set1 (.bool (FF 1))).set2 (.bool (FF 2))).set3 (.bool (FF 3))).heap) rfl ?_
      exact ⟨by rw [← HA.out], set4_below HB.out (Nat.le_succ _) _ _ _ _⟩
end Go.Proofs.YtjbolpfilgkbfaaDoor

namespace Go.Proofs.YtjbolpfilgkbfaaDoor
open Go Go.RowKit
open M
set_option linter.unusedVariables false
set_option linter.unusedSimpArgs false

/-- how many operations have not come up -/
def undone (l : Array Bool) : Nat := (l.toList.filter (fun b => !b)).length
theorem filter_set : ∀ (l : List Bool) (i : Nat), l[i]? = some false → ((l.set i true).filter (fun b => !b)).length + 1 = (l.filter (fun b => !b)).length
  | [], i, h => by simp at h
  | x :: l, 0, h => by
    simp at h
    subst h
    simp
  | x :: l, i + 1, h => by
    have ih := filter_set l i (by simpa using h)
    cases x <;> simp [List.set, ih]
theorem undone_set {l : Array Bool} {i : Nat} (hi : l.getD i true = false) : undone (l.setIfInBounds i true) + 1 = undone l := by
  have h : l.toList[i]? = some false := by
    rw [Array.getElem?_toList]
    rw [Array.getD_eq_getD_getElem?] at hi
    cases e : l[i]? with
    | none => rw [e] at hi; simp at hi
    | some x => rw [e] at hi; simp at hi; rw [hi]
  unfold undone
  rw [Array.toList_setIfInBounds]
  exact filter_set l.toList i h
theorem wpAny_inv {P : Program} {md : Region.Mode} {ops : Array Oper} {Q : Exit → Act → World → Prop} (I : Array Bool → Act → World → Prop)
    (hdone : ∀ l a w, I l a w → Region.ready md ops l = [] → Q .normal a w) (hstep : ∀ l a w, I l a w → ∀ i ∈ Region.ready md ops l, wpOp P ops Q i (I (l.setIfInBounds i true)) a w) :
    ∀ (fuel : Nat) (l : Array Bool) (a : Act) (w : World), I l a w → undone l ≤ fuel → wpAny P md ops Q fuel l a w
  | 0, l, a, w, h, hu => by
    have hr : Region.ready md ops l = [] := by
      cases e : Region.ready md ops l with
      | nil => rfl
      | cons i r =>
        have hi : i ∈ Region.ready md ops l := by rw [e]; simp
        have := undone_set (mem_ready.1 hi).1
        omega
    exact ⟨hr, hdone l a w h hr⟩
  | fuel + 1, l, a, w, h, hu => ⟨hdone l a w h, fun i hi => wpOp_mono (fun a' w' h' => wpAny_inv I hdone hstep fuel _ a' w' h' (by have := undone_set (mem_ready.1 hi).1; omega)) (hstep l a w h i hi)⟩
theorem wpOp_run {P : Program} {ops : Array Oper} {Q : Exit → Act → World → Prop} {i : Nat} {o : Oper} {a : Act} {w : World} {K' : Act → World → Prop} (ho : ops[i]? = some o) (hg : o.guard = none)
    (h : ∀ K : Act → World → Prop, (∀ a w, K' a w → K a w) → o.wp P a w K Q) : wpOp P ops Q i K' a w := by
  unfold wpOp
  rw [ho]
  simp only
  rw [if_pos (by simp [Region.wanted, hg])]
  exact Or.inl (h K' (fun _ _ h => h))
theorem ready_none {md : Region.Mode} {ops : Array Oper} {l : Array Bool} (hr : Region.ready md ops l = []) (i : Nat) {o : Oper} (ho : ops[i]? = some o) (hl : l.getD i true = false) (hd : (o.after.toList.all fun e => l.getD e.on false) = true) : False := by
  have h : i ∈ Region.ready md ops l := mem_ready.2 ⟨hl, o, ho, fun e he _ => List.all_eq_true.1 hd e (Array.mem_def.1 he)⟩
  rw [hr] at h
  cases h
theorem ready_lt {md : Region.Mode} {ops : Array Oper} {l : Array Bool} {i : Nat} (hi : i ∈ Region.ready md ops l) : i < ops.size := by
  unfold Region.ready at hi
  rw [List.mem_filter, List.mem_range] at hi
  exact hi.1
theorem ready_dep {md : Region.Mode} {ops : Array Oper} {l : Array Bool} {i : Nat} {o : Oper} (hi : i ∈ Region.ready md ops l) (ho : ops[i]? = some o) : l.getD i true = false ∧ ∀ e ∈ o.after, Region.binds md e = true → l.getD e.on false = true := by
  obtain ⟨h1, o', h2, h3⟩ := mem_ready.1 hi
  rw [ho] at h2
  obtain rfl := Option.some.inj h2
  exact ⟨h1, h3⟩
structure RegD (W w' : World) (g7 i : Nat) (VV : Int) (l0 l1 l2 l3 l4 l5 l6 l7 l8 l9 l10 l11 l12 l13 l14 : Bool) (s0 s1 s2 s3 s4 s5 s6 s7 s8 s9 s10 s11 s12 s13 v0 v1 v2 v3 v4 v5 v6 v7 v8 v9 v10 v11 v12 v13 : Value) : Prop where
  (bel : l14 = false → Below W.heap.size W w')
  (fin : l14 = true → ∃ w4, Below W.heap.size W w4 ∧ w' = w4.setCell ⟨g7, i, none⟩ (.int .u64 VV))
  (all : l14 = true → l0 = true ∧ l1 = true ∧ l2 = true ∧ l3 = true ∧ l4 = true ∧ l5 = true ∧ l6 = true ∧ l7 = true ∧ l8 = true ∧ l9 = true ∧ l10 = true ∧ l11 = true ∧ l12 = true ∧ l13 = true)
  (d0 : l0 = true → s0 = v0 ∧ True)
  (d1 : l1 = true → s1 = v1 ∧ True)
  (d2 : l2 = true → s2 = v2 ∧ l1 = true)
  (d3 : l3 = true → s3 = v3 ∧ True)
  (d4 : l4 = true → s4 = v4 ∧ l3 = true)
  (d5 : l5 = true → s5 = v5 ∧ True)
  (d6 : l6 = true → s6 = v6 ∧ l5 = true)
  (d7 : l7 = true → s7 = v7 ∧ True)
  (d8 : l8 = true → s8 = v8 ∧ l7 = true)
  (d9 : l9 = true → s9 = v9 ∧ l8 = true)
  (d10 : l10 = true → s10 = v10 ∧ l9 = true)
  (d11 : l11 = true → s11 = v11 ∧ True)
  (d12 : l12 = true → s12 = v12 ∧ l4 = true ∧ l6 = true ∧ l10 = true ∧ l11 = true)
  (d13 : l13 = true → s13 = v13 ∧ l0 = true ∧ l2 = true)
end Go.Proofs.YtjbolpfilgkbfaaDoor

namespace Go.Proofs.YtjbolpfilgkbfaaDoor
open Go Go.RowKit
open M
set_option linter.unusedVariables false

structure RegT (W w' : World) (cv rv wv : Value) (lr lw : List Int) (l0 l1 l2 l3 l4 l5 l6 l7 l8 : Bool) (s0 s1 s2 s3 s4 s5 s6 s7 s8 : Value) : Prop where
  (bel : Below W.heap.size W w')
  (d0 : l0 = true → s0 = cv ∧ True)
  (d1 : l1 = true → s1 = rv ∧ l0 = true)
  (d2 : l2 = true → OwnInts w' W.heap.size s2 lr ∧ l1 = true)
  (d3 : l3 = true → s3 = cv ∧ True)
  (d4 : l4 = true → s4 = wv ∧ l3 = true)
  (d5 : l5 = true → OwnInts w' W.heap.size s5 lw ∧ l4 = true)
  (d6 : l6 = true → s6 = s2 ∧ l2 = true)
  (d7 : l7 = true → s7 = s5 ∧ l5 = true)
  (d8 : l8 = true → s8 = .bool true ∧ True)
  (ap : l2 = true → l5 = true → Ap2 s2 s5)
theorem RegT.below {W w' w2 : World} {cv rv wv : Value} {lr lw : List Int} {l0 l1 l2 l3 l4 l5 l6 l7 l8 : Bool} {s0 s1 s2 s3 s4 s5 s6 s7 s8 : Value} (h : RegT W w' cv rv wv lr lw l0 l1 l2 l3 l4 l5 l6 l7 l8 s0 s1 s2 s3 s4 s5 s6 s7 s8) (hb : Below w'.heap.size w' w2) : RegT W w2 cv rv wv lr lw l0 l1 l2 l3 l4 l5 l6 l7 l8 s0 s1 s2 s3 s4 s5 s6 s7 s8 :=
  { bel := h.bel.trans (hb.mono h.bel.size), d0 := h.d0, d1 := h.d1, d2 := fun e => ⟨owns_below (h.d2 e).1 hb, (h.d2 e).2⟩, d3 := h.d3, d4 := h.d4, d5 := fun e => ⟨owns_below (h.d5 e).1 hb, (h.d5 e).2⟩, d6 := h.d6, d7 := h.d7, d8 := h.d8, ap := h.ap }
end Go.Proofs.YtjbolpfilgkbfaaDoor

namespace Go.Proofs.YtjbolpfilgkbfaaDoor
open Go Go.RowKit
open M
set_option linter.unusedVariables false

theorem writes_only {p : Pg} {n : Int} (hg : goodP p = true) (hin : 0 ≤ n ∧ n < (p.2.2.2.length : Int)) : writesL (cmdAt p n) = only4 (changeF (cmdAt p n)) 4 := by
  obtain ⟨_, q0, q1, q2, q3, _, _, hcm0⟩ := goodP_parts hg
  have hcb := hcm0 _ (List.mem_of_getElem? (cmdAt_in hin))
  unfold cmB at hcb
  rw [Bool.and_eq_true] at hcb
  exact writes_sorted q3 (cmdAt p n).2 0 (Int.le_refl _) hcb.2
set_option maxRecDepth 100000 in
set_option maxHeartbeats 8000000 in
theorem iTouched_any (v : Value) (p : Pg) (ok : PgOk p) (n : Int) (w : World) (hT : Tab w) (h : AtProg w v p) :
    Calls Tryd.prog 23 #[v, .int .i64 n] w fun e w' => ∃ r0 r1, e = .returned (.tuple #[r0, r1, .bool (touchB p n)]) ∧ OwnIS w' w.heap.size w'.heap.size r0 (touchR p n) ∧ OwnIS w' w.heap.size w'.heap.size r1 (touchW p n) ∧ Ap2 r0 r1 ∧ Below w.heap.size w w' := by
  obtain ⟨sa, sn, sc, ca, cn, cc, rfl⟩ := h.shape
  have HB0 : Hid (Below w.heap.size w (w.alloc (.cells #[.int .i64 p.1, .int .i64 p.2.1, .slice sa sn sc, .slice ca cn cc] 27))) := (Below.refl _ _).alloc (Nat.le_refl _) _
  have g := rootsOf_full _ p ok _ (hT.below HB0.out hT.some) (h.below HB0.out)
  have HOK : Hid (PgOk p) := ok
  clear h hT ok
  go_enter Tryd.func23, Tryd.ntmps23
  go_wp2_with fail
  refine g.mono ?_
  generalize w.alloc (.cells #[.int .i64 p.1, .int .i64 p.2.1, .slice sa sn sc, .slice ca cn cc] 27) = w0 at *
  rintro e w1 ⟨ho, hb1⟩
  have HB1 : Hid (Below w.heap.size w w1) := Below.step HB0.out HB0.out.size hb1
  clear g
  have HNO : Hid (touchB p n = false → touchR p n = [] ∧ touchW p n = []) := fun hf => by
    unfold touchR touchW
    rw [hf]
    exact ⟨rfl, rfl⟩
  rcases ho with ⟨hg, P, rfl, hroot⟩ | ⟨hg, rfl⟩
  · obtain ⟨_, q0, q1, q2, q3, hc1, hc6, hcm0⟩ := goodP_parts hg
    have hr1 : Rooted w1 (Old w1) p P := Rooted.old hroot (Below.refl _ _)
    obtain ⟨_, x, y, hx, _, hcm⟩ := id hr1
    obtain ⟨gb, cap, rfl⟩ : ∃ g cap, y = .slice (some ⟨g, 0, none⟩) p.2.2.2.length cap := by
      rcases hcm with ⟨e, _⟩ | ⟨g, cap, e, _⟩
      · rw [e] at hc1
        simp at hc1
      · exact ⟨g, cap, e⟩
    have gs := hasCommand_any P _ _ _ _ _ _ n w1 hx
    have HTB : Hid (touchB p n = decide (0 ≤ n ∧ n < (p.2.2.2.length : Int))) := by
      show touchB p n = _
      unfold touchB
      rw [hg, Bool.true_and]
    have HX : Hid _ := hx
    by_cases hin : 0 ≤ n ∧ n < (p.2.2.2.length : Int)
    case neg =>
      rw [decide_eq_false hin] at gs HTB
      obtain ⟨e1, e2⟩ := HNO.out HTB.out
      have E1 : Hid _ := e1
      have E2 : Hid _ := e2
      clear hx hcm hr1 hroot hg hcm0 hb1 e1 e2 HOK HX HNO
      go_wp2_with fail
      refine gs.mono ?_
      rintro e w2 ⟨rfl, hs2⟩
      have HB2 : Hid (Below w.heap.size w w2) := HB1.out.trans (hs2.mono HB1.out.size)
      clear gs hs2
      go_wp2_with fail
      go_ret3
      exact ⟨_, _, by rw [HTB.out]; rfl, by rw [E1.out]; exact ownIS_nil _ _ HB2.out.size, by rw [E2.out]; exact ownIS_nil _ _ HB2.out.size, ap2_nil _, HB2.out⟩
    rw [decide_eq_true hin] at gs HTB
    have hc := cmdAt_in hin
    have hcmem := List.mem_of_getElem? hc
    have hcok := HOK.out.2.2.2.2 _ hcmem
    have hcb := hcm0 _ hcmem
    unfold cmB at hcb
    rw [Bool.and_eq_true] at hcb
    obtain ⟨xx, yy, cx, cy, hel⟩ : ∃ xx yy : Value, w1.cell? ⟨gb, n.toNat * 2, none⟩ = some xx ∧ w1.cell? ⟨gb, n.toNat * 2 + 1, none⟩ = some yy ∧ CmEl w1 (Old w1) p.1 p.2.1 (cmdAt p n) xx yy := by
      rcases hcm with ⟨e, _⟩ | ⟨g', cap', e, _, _, hcc⟩
      · rw [e] at hc
        simp at hc
      · injection e with e1 _ _
        injection e1 with e1
        injection e1 with e1
        subst e1
        exact hcc _ _ hc
    have hgl : gb < w1.heap.size := block_lt_of_cell cx
    have HCX : Hid (∀ w2 : World, Below w1.heap.size w1 w2 → w2.cell? ⟨gb, n.toNat * 2, none⟩ = some xx ∧ w2.cell? ⟨gb, n.toNat * 2 + 1, none⟩ = some yy) := fun w2 hb => ⟨by rw [hb.cell (p := ⟨gb, n.toNat * 2, none⟩) hgl]; exact cx, by rw [hb.cell (p := ⟨gb, n.toNat * 2 + 1, none⟩) hgl]; exact cy⟩
    have GR : Hid (∀ w2 : World, Below w1.heap.size w1 w2 → Calls Tryd.prog 71 #[.agg #[xx, yy]] w2 fun e w' => e = .returned (aggB (readF (cmdAt p n))) ∧ Below w2.heap.size w2 w') := fun w2 hb => read_any (cmdAt p n) hcok p.1 p.2.1 xx yy q2 q3 hcb.2 w2 (hel.frame hb.size (fun i hi => Nat.lt_of_lt_of_le hi hb.size) (fun i hi => hb.block i hi))
    have GW : Hid (∀ w2 : World, Below w1.heap.size w1 w2 → Calls Tryd.prog 73 #[.agg #[xx, yy]] w2 fun e w' => e = .returned (aggB (changeF (cmdAt p n))) ∧ Below w2.heap.size w2 w') := fun w2 hb => changed_any (cmdAt p n) p.1 p.2.1 xx yy q2 q3 hcb.2 w2 (hel.frame hb.size (fun i hi => Nat.lt_of_lt_of_le hi hb.size) (fun i hi => hb.block i hi))
    have HER : Hid (touchR p n = only4 (readF (cmdAt p n)) 4) := by
      show touchR p n = _
      unfold touchR
      rw [HTB.out, if_pos rfl]
      rfl
    have HEW : Hid (touchW p n = only4 (changeF (cmdAt p n)) 4) := by
      show touchW p n = _
      unfold touchW
      rw [HTB.out, if_pos rfl]
      exact writes_only hg hin
    have hys := hel.2.shape
    obtain ⟨_, xb, hxb, _⟩ := hel.1
    subst hxb
    obtain ⟨ya, yn, yc, rfl⟩ := hys
    obtain ⟨m, rfl⟩ : ∃ m : Nat, n = m := ⟨n.toNat, by omega⟩
    rw [Int.toNat_natCast] at HCX
    have hnn : ((m : Int) < (p.2.2.2.length : Int)) := hin.2
    clear hx hcm hr1 hroot hg hcm0 hb1 HNO hc hcmem hcok hcb cx cy hel hgl HOK
    generalize readF (cmdAt p m) = RF at *
    generalize changeF (cmdAt p m) = WF at *
    generalize p.2.2.2.length = L at *
    go_wp2_with fail
    refine gs.mono ?_
    rintro e w2 ⟨rfl, hs2⟩
    have HB2 : Hid (Below w.heap.size w w2) := HB1.out.trans (hs2.mono HB1.out.size)
    have x2 := HX.out.below hs2 HX.out.lt
    obtain ⟨p0, p1, p2, p3⟩ := x2.cells
    have ph := x2.heap
    have pl := x2.lt
    obtain ⟨cx2, cy2⟩ := HCX.out w2 hs2
    have hb3 : Below w2.heap.size w2 (w2.alloc (.cells #[ptr xb, .slice ya yn yc] 108)) := (Below.refl _ _).alloc (Nat.le_refl _) _
    have HBD : Hid (Below w1.heap.size w1 (w2.alloc (.cells #[ptr xb, .slice ya yn yc] 108)).drew) := (hs2.trans (hb3.mono hs2.size)).drew
    have HB3 : Hid (Below w.heap.size w (w2.alloc (.cells #[ptr xb, .slice ya yn yc] 108)).drew) := (HB2.out.trans (hb3.mono HB2.out.size)).drew
    have hk := box2_alloc w2 108 (ptr xb) (.slice ya yn yc)
    have HK : Hid (Box2 (w2.alloc (.cells #[ptr xb, .slice ya yn yc] 108)).drew w2.heap.size 108 (ptr xb) (.slice ya yn yc)) := ⟨hk.heap⟩
    obtain ⟨k0, k1⟩ := hk.cells
    have kh := hk.heap
    have kl := hk.lt
    clear gs hs2 x2 hk hb3 HX HCX
    have GLR : Hid (∀ w9 : World, Calls Tryd.prog 72 #[.agg #[.bool (RF 0), .bool (RF 1), .bool (RF 2), .bool (RF 3)]] w9 fun e w' => ∃ v, e = .returned v ∧ OwnInts w' w9.heap.size v (only4 RF 4) ∧ Below w9.heap.size w9 w') := fun w9 => listV_any RF w9
    have GLW : Hid (∀ w9 : World, Calls Tryd.prog 72 #[.agg #[.bool (WF 0), .bool (WF 1), .bool (WF 2), .bool (WF 3)]] w9 fun e w' => ∃ v, e = .returned v ∧ OwnInts w' w9.heap.size v (only4 WF 4) ∧ Below w9.heap.size w9 w') := fun w9 => listV_any WF w9
    have hzd := HBD.out.size
    have hz1 := HB1.out.size
    have h4 : (Tryd.prog.info? 113).map (·.size) = some 4 := by kernel_rfl
    generalize only4 RF 4 = LRF at *
    generalize only4 WF 4 = LWF at *
    have GR2 : Hid (∀ w9 : World, Below (w2.alloc (.cells #[ptr xb, .slice ya yn yc] 108)).drew.heap.size (w2.alloc (.cells #[ptr xb, .slice ya yn yc] 108)).drew w9 → Calls Tryd.prog 71 #[.agg #[ptr xb, .slice ya yn yc]] w9 fun e w' => e = .returned (aggB RF) ∧ Below w9.heap.size w9 w') := fun w9 hb => GR.out w9 (HBD.out.trans (hb.mono HBD.out.size))
    have GW2 : Hid (∀ w9 : World, Below (w2.alloc (.cells #[ptr xb, .slice ya yn yc] 108)).drew.heap.size (w2.alloc (.cells #[ptr xb, .slice ya yn yc] 108)).drew w9 → Calls Tryd.prog 73 #[.agg #[ptr xb, .slice ya yn yc]] w9 fun e w' => e = .returned (aggB WF) ∧ Below w9.heap.size w9 w') := fun w9 hb => GW.out w9 (HBD.out.trans (hb.mono HBD.out.size))
    clear GR GW
    go_wp2_with fail
    clear p0 p1 p2 p3 ph pl cx2 cy2 hnn hin
    refine wp_region_any (by kernel_rfl) ?_
    change wpAny _ _ _ _ _ _ _ (World.drew _)
    refine wpAny_inv (fun l a w' => ∃ (l0 l1 l2 l3 l4 l5 l6 l7 l8 : Bool) (s0 s1 s2 s3 s4 s5 s6 s7 s8 : Value), l = #[l0, l1, l2, l3, l4, l5, l6, l7, l8] ∧ a = { tmps := (.agg #[.int .i64 p.1, .int .i64 p.2.1, .slice sa sn sc, .slice ca cn cc] :: .int .i64 m :: .pointer (some ⟨w.heap.size, 0, none⟩) :: undef :: s6 :: s7 :: s8 :: ptr P :: .pointer (some ⟨w2.heap.size, 0, none⟩) :: .agg #[.int .i64 p.1, .int .i64 p.2.1, .slice sa sn sc, .slice ca cn cc] :: ptr P :: ptr P :: .bool false :: .bool false :: ptr P :: .int .i64 m :: .bool true :: .bool false :: .bool false :: ptr P :: .pointer (some ⟨P, 0, none⟩) :: .pointer (some ⟨P, 3, none⟩) :: .slice (some ⟨gb, 0, none⟩) L cap :: .int .i64 m :: .pointer (some ⟨gb, m * 2, none⟩) :: .agg #[ptr xb, .slice ya yn yc] :: s0 :: s1 :: s2 :: s3 :: s4 :: s5 :: ([] : List Value)).toArray, defers := [] } ∧ RegT (w2.alloc (.cells #[ptr xb, .slice ya yn yc] 108)).drew w' (.agg #[ptr xb, .slice ya yn yc]) (.agg #[.bool (RF 0), .bool (RF 1), .bool (RF 2), .bool (RF 3)]) (.agg #[.bool (WF 0), .bool (WF 1), .bool (WF 2), .bool (WF 3)]) LRF LWF l0 l1 l2 l3 l4 l5 l6 l7 l8 s0 s1 s2 s3 s4 s5 s6 s7 s8) ?done ?step 9 _ _ _ ⟨false, false, false, false, false, false, false, false, false, _, _, _, _, _, _, _, _, _, rfl, rfl, ?init⟩ (by decide)
    case init => exact { bel := Below.refl _ _, d0 := fun e => (by cases e), d1 := fun e => (by cases e), d2 := fun e => (by cases e), d3 := fun e => (by cases e), d4 := fun e => (by cases e), d5 := fun e => (by cases e), d6 := fun e => (by cases e), d7 := fun e => (by cases e), d8 := fun e => (by cases e), ap := fun e => (by cases e) }
    case step =>
      rintro l a w3 ⟨l0, l1, l2, l3, l4, l5, l6, l7, l8, s0, s1, s2, s3, s4, s5, s6, s7, s8, rfl, rfl, h⟩
      intro q hq
      have hlt9 := ready_lt hq
      match q, hq, hlt9 with
      | 0, hq, _ =>
        have hr := ready_dep hq rfl
        have hme : l0 = false := hr.1
        obtain ⟨k0, k1⟩ := (HK.out.below h.bel HK.out.lt).cells
        have kh := (HK.out.below h.bel HK.out.lt).heap
        have kl := (HK.out.below h.bel HK.out.lt).lt
        clear hr hq
        refine wpOp_run rfl rfl (fun K hK => ?_)
        go_simp
        refine hK _ _ ⟨true, l1, l2, l3, l4, l5, l6, l7, l8, _, _, _, _, _, _, _, _, _, rfl, rfl, ?_⟩
        exact { bel := h.bel, d0 := fun _ => ⟨rfl, trivial⟩, d1 := fun e => absurd (h.d1 e).2 (by rw [hme]; decide), d2 := h.d2, d3 := h.d3, d4 := h.d4, d5 := h.d5, d6 := h.d6, d7 := h.d7, d8 := h.d8, ap := h.ap }
      | 1, hq, _ =>
        have hr := ready_dep hq rfl
        have hme : l1 = false := hr.1
        have e0 : l0 = true := hr.2 ⟨0, .data⟩ (by simp) (by kernel_rfl)
        obtain rfl := (h.d0 e0).1
        clear hr hq
        refine wpOp_run rfl rfl (fun K hK => ?_)
        go_simp
        go_at_call 71
        refine Calls.mono (GR2.out w3 h.bel) ?_
        rintro e w4 ⟨rfl, hs4⟩
        have h4 := h.below hs4
        refine hK _ _ ⟨l0, true, l2, l3, l4, l5, l6, l7, l8, _, _, _, _, _, _, _, _, _, rfl, rfl, ?_⟩
        exact { bel := h4.bel, d0 := h4.d0, d1 := fun _ => ⟨rfl, e0⟩, d2 := fun e => absurd (h4.d2 e).2 (by rw [hme]; decide), d3 := h4.d3, d4 := h4.d4, d5 := h4.d5, d6 := h4.d6, d7 := h4.d7, d8 := h4.d8, ap := h4.ap }
      | 2, hq, _ =>
        have hr := ready_dep hq rfl
        have hme : l2 = false := hr.1
        have e1 : l1 = true := hr.2 ⟨1, .data⟩ (by simp) (by kernel_rfl)
        obtain rfl := (h.d1 e1).1
        clear hr hq
        refine wpOp_run rfl rfl (fun K hK => ?_)
        go_simp
        go_at_call 72
        refine Calls.mono (GLR.out w3) ?_
        rintro e w4 ⟨v9, rfl, ho9, hs4⟩
        have h4 := h.below hs4
        have hlo := World.ownsRow.lt ho9
        refine hK _ _ ⟨l0, l1, true, l3, l4, l5, l6, l7, l8, _, _, _, _, _, _, _, _, _, rfl, rfl, ?_⟩
        exact { bel := h4.bel, d0 := h4.d0, d1 := h4.d1, d2 := fun _ => ⟨own_weaken ho9 h.bel.size, e1⟩, d3 := h4.d3, d4 := h4.d4, d5 := h4.d5, d6 := fun e => absurd (h4.d6 e).2 (by rw [hme]; decide), d7 := h4.d7, d8 := h4.d8, ap := fun _ e5 k hk hk2 => (by have a9 := (hlo k hk).1; have b9 := (World.ownsRow.lt (h.d5 e5).1 k hk2).2; omega) }
      | 3, hq, _ =>
        have hr := ready_dep hq rfl
        have hme : l3 = false := hr.1
        obtain ⟨k0, k1⟩ := (HK.out.below h.bel HK.out.lt).cells
        have kh := (HK.out.below h.bel HK.out.lt).heap
        have kl := (HK.out.below h.bel HK.out.lt).lt
        clear hr hq
        refine wpOp_run rfl rfl (fun K hK => ?_)
        go_simp
        refine hK _ _ ⟨l0, l1, l2, true, l4, l5, l6, l7, l8, _, _, _, _, _, _, _, _, _, rfl, rfl, ?_⟩
        exact { bel := h.bel, d0 := h.d0, d1 := h.d1, d2 := h.d2, d3 := fun _ => ⟨rfl, trivial⟩, d4 := fun e => absurd (h.d4 e).2 (by rw [hme]; decide), d5 := h.d5, d6 := h.d6, d7 := h.d7, d8 := h.d8, ap := h.ap }
      | 4, hq, _ =>
        have hr := ready_dep hq rfl
        have hme : l4 = false := hr.1
        have e3 : l3 = true := hr.2 ⟨3, .data⟩ (by simp) (by kernel_rfl)
        obtain rfl := (h.d3 e3).1
        clear hr hq
        refine wpOp_run rfl rfl (fun K hK => ?_)
        go_simp
        go_at_call 73
        refine Calls.mono (GW2.out w3 h.bel) ?_
        rintro e w4 ⟨rfl, hs4⟩
        have h4 := h.below hs4
        refine hK _ _ ⟨l0, l1, l2, l3, true, l5, l6, l7, l8, _, _, _, _, _, _, _, _, _, rfl, rfl, ?_⟩
        exact { bel := h4.bel, d0 := h4.d0, d1 := h4.d1, d2 := h4.d2, d3 := h4.d3, d4 := fun _ => ⟨rfl, e3⟩, d5 := fun e => absurd (h4.d5 e).2 (by rw [hme]; decide), d6 := h4.d6, d7 := h4.d7, d8 := h4.d8, ap := h4.ap }
      | 5, hq, _ =>
        have hr := ready_dep hq rfl
        have hme : l5 = false := hr.1
        have e4 : l4 = true := hr.2 ⟨4, .data⟩ (by simp) (by kernel_rfl)
        obtain rfl := (h.d4 e4).1
        clear hr hq
        refine wpOp_run rfl rfl (fun K hK => ?_)
        go_simp
        go_at_call 72
        refine Calls.mono (GLW.out w3) ?_
        rintro e w4 ⟨v9, rfl, ho9, hs4⟩
        have h4 := h.below hs4
        have hlo := World.ownsRow.lt ho9
        refine hK _ _ ⟨l0, l1, l2, l3, l4, true, l6, l7, l8, _, _, _, _, _, _, _, _, _, rfl, rfl, ?_⟩
        exact { bel := h4.bel, d0 := h4.d0, d1 := h4.d1, d2 := h4.d2, d3 := h4.d3, d4 := h4.d4, d5 := fun _ => ⟨own_weaken ho9 h.bel.size, e4⟩, d6 := h4.d6, d7 := fun e => absurd (h4.d7 e).2 (by rw [hme]; decide), d8 := h4.d8, ap := fun e2 _ k hk hk2 => (by have a9 := (World.ownsRow.lt (h.d2 e2).1 k hk).2; have b9 := (hlo k hk2).1; omega) }
      | 6, hq, _ =>
        have hr := ready_dep hq rfl
        have hme : l6 = false := hr.1
        have e2 : l2 = true := hr.2 ⟨2, .data⟩ (by simp) (by kernel_rfl)
        clear hr hq
        refine wpOp_run rfl rfl (fun K hK => ?_)
        go_simp
        refine hK _ _ ⟨l0, l1, l2, l3, l4, l5, true, l7, l8, _, _, _, _, _, _, _, _, _, rfl, rfl, ?_⟩
        exact { bel := h.bel, d0 := h.d0, d1 := h.d1, d2 := h.d2, d3 := h.d3, d4 := h.d4, d5 := h.d5, d6 := fun _ => ⟨rfl, e2⟩, d7 := h.d7, d8 := h.d8, ap := h.ap }
      | 7, hq, _ =>
        have hr := ready_dep hq rfl
        have hme : l7 = false := hr.1
        have e5 : l5 = true := hr.2 ⟨5, .data⟩ (by simp) (by kernel_rfl)
        clear hr hq
        refine wpOp_run rfl rfl (fun K hK => ?_)
        go_simp
        refine hK _ _ ⟨l0, l1, l2, l3, l4, l5, l6, true, l8, _, _, _, _, _, _, _, _, _, rfl, rfl, ?_⟩
        exact { bel := h.bel, d0 := h.d0, d1 := h.d1, d2 := h.d2, d3 := h.d3, d4 := h.d4, d5 := h.d5, d6 := h.d6, d7 := fun _ => ⟨rfl, e5⟩, d8 := h.d8, ap := h.ap }
      | 8, hq, _ =>
        have hr := ready_dep hq rfl
        have hme : l8 = false := hr.1
        clear hr hq
        refine wpOp_run rfl rfl (fun K hK => ?_)
        go_simp
        refine hK _ _ ⟨l0, l1, l2, l3, l4, l5, l6, l7, true, _, _, _, _, _, _, _, _, _, rfl, rfl, ?_⟩
        exact { bel := h.bel, d0 := h.d0, d1 := h.d1, d2 := h.d2, d3 := h.d3, d4 := h.d4, d5 := h.d5, d6 := h.d6, d7 := h.d7, d8 := fun _ => ⟨rfl, trivial⟩, ap := h.ap }
    case done =>
      rintro l a w3 ⟨l0, l1, l2, l3, l4, l5, l6, l7, l8, s0, s1, s2, s3, s4, s5, s6, s7, s8, rfl, rfl, h⟩ hr
      cases l0
      · exact (ready_none hr 0 rfl rfl rfl).elim
      cases l1
      · exact (ready_none hr 1 rfl rfl rfl).elim
      cases l2
      · exact (ready_none hr 2 rfl rfl rfl).elim
      cases l3
      · exact (ready_none hr 3 rfl rfl rfl).elim
      cases l4
      · exact (ready_none hr 4 rfl rfl rfl).elim
      cases l5
      · exact (ready_none hr 5 rfl rfl rfl).elim
      cases l6
      · exact (ready_none hr 6 rfl rfl rfl).elim
      cases l7
      · exact (ready_none hr 7 rfl rfl rfl).elim
      cases l8
      · exact (ready_none hr 8 rfl rfl rfl).elim
      have HB3E := h.bel
      have o0 := (h.d2 rfl).1
      have o1 := (h.d5 rfl).1
      have hap := h.ap rfl rfl
      obtain rfl := (h.d6 rfl).1
      obtain rfl := (h.d7 rfl).1
      obtain rfl := (h.d8 rfl).1
      clear hr h
      have HBE : Hid (Below w.heap.size w w3) := HB3.out.trans (HB3E.mono HB3.out.size)
      have hze := HB3.out.size
      have O0 : Hid (OwnIS w3 w.heap.size w3.heap.size s6 LRF) := RowIn.weak (rowIn_of o0) hze (Nat.le_refl _) (Nat.le_refl _)
      have O1 : Hid (OwnIS w3 w.heap.size w3.heap.size s7 LWF) := RowIn.weak (rowIn_of o1) hze (Nat.le_refl _) (Nat.le_refl _)
      have HAP : Hid (Ap2 s6 s7) := hap
      clear o0 o1 hap HB3E hze
      go_wp2_with fail
      go_ret3
      exact ⟨_, _, by rw [HTB.out]; rfl, by rw [HER.out]; exact O0.out, by rw [HEW.out]; exact O1.out, HAP.out, HBE.out⟩
  · have HTB : Hid (touchB p n = false) := by
      show touchB p n = false
      unfold touchB
      rw [hg, Bool.false_and]
    obtain ⟨e1, e2⟩ := HNO.out HTB.out
    have E1 : Hid _ := e1
    have E2 : Hid _ := e2
    clear hg hb1 e1 e2 HOK HNO
    go_wp2_with fail
    go_ret3
    exact ⟨_, _, by rw [HTB.out]; rfl, by rw [E1.out]; exact ownIS_nil _ _ HB1.out.size, by rw [E2.out]; exact ownIS_nil _ _ HB1.out.size, ap2_nil _, HB1.out⟩
end Go.Proofs.YtjbolpfilgkbfaaDoor
