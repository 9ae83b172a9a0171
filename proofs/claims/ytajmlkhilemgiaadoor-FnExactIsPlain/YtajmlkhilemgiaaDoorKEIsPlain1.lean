/-
  The program's plain and IsPlain, and the model's IsPlain.
  The model's IsPlain.
  The walk of the exact law of IsPlain.
-/
import Derived.Test.YtajmlkhilemgiaaDoorIRoot
import Derived.Test.YtajmlkhilemgiaaDoorILay2
import Derived.Test.YtajmlkhilemgiaaDoorLaidM2
import Derived.Test.YtajmlkhilemgiaaDoorLTurn
namespace Go.Proofs.YtajmlkhilemgiaaDoor
open Go Go.RowKit
open M
set_option linter.unusedVariables false

/-- an op that can be laid out -/
def plainO (op : Int) : Bool := !(op == 6 || op == 7 || op == 11 || op == 12)
def plainX (x : Nd) : Bool := plainO x.1
theorem plainX_true {x : Nd} (h : plainX x = true) : plainN x := by
  simp [plainX, plainO] at h
  exact ⟨h.1.1.1, h.1.1.2, h.1.2, h.2⟩
def plainL (wide vars : Int) (t : List Nd) : Bool := decide (0 < kindL wide vars t) && t.all plainX
/-- what plain does with a tree -/
def PlainP (r : Tr) : Prop := ∀ (b : Nat) (w : World), TrAt w (Old w) r b →
  Calls Tryd.prog 55 #[ptr b] w fun e w' => e = .returned (.bool (r.flat.all plainX)) ∧ Below w.heap.size w w'
set_option maxRecDepth 100000 in
set_option maxHeartbeats 4000000 in
theorem plain_step (r : Tr) (ih : ∀ q ∈ r.parts, PlainP q) : PlainP r := by
  intro b w htr
  have hfl : r.flat.all plainX = (r.parts.all (fun q => q.flat.all plainX) && plainX r.nd) := by
    rw [Tr.flat_eq r, List.all_append, List.all_flatMap]
    simp
  rw [hfl]
  obtain ⟨ps, ⟨hb, n0, n1, _, _, pvl, n4, hpv⟩, hpt⟩ := trAt_open htr
  obtain ⟨pa, pc, hpsh⟩ := hpv.shape
  have hpl2 : ps.length ≤ 2 := by
    have h2 : r.parts.length ≤ 2 := by cases r <;> simp [Tr.parts]
    have := hpt.1
    omega
  obtain ⟨op, hop⟩ : ∃ op, r.nd.1 = op := ⟨_, rfl⟩
  have hpx : plainX r.nd = plainO op := by rw [← hop]; rfl
  rw [hpx]
  rw [hop] at n0
  have HIH : Hid (∀ (j q' : Nat) (q : Tr) (w1 : World), r.parts[j]? = some q → ps[j]? = some q' → Below w.heap.size w w1 → Calls Tryd.prog 55 #[ptr q'] w1 fun e w' => e = .returned (.bool (q.flat.all plainX)) ∧ Below w1.heap.size w1 w') := by
    intro j q' q w1 hq hq' hb1
    exact ih q (List.mem_of_getElem? hq) q' w1 ((hpt.2 j q q' hq hq').below hb1)
  have HPV : Hid _ := hpv
  have HL : Hid (r.parts.length = ps.length) := hpt.1
  subst hpsh
  clear ih hpt hpv htr hfl hpx hop
  by_cases h6 : op = 6
  · subst h6
    rw [show plainO 6 = false from rfl, Bool.and_false]
    go_enter Tryd.func55, Tryd.ntmps55
    go_wp2_with fail
    go_ret
    exact ⟨rfl, Below.refl _ _⟩
  by_cases h7 : op = 7
  · subst h7
    rw [show plainO 7 = false from rfl, Bool.and_false]
    go_enter Tryd.func55, Tryd.ntmps55
    go_wp2_with fail
    go_ret
    exact ⟨rfl, Below.refl _ _⟩
  by_cases h11 : op = 11
  · subst h11
    rw [show plainO 11 = false from rfl, Bool.and_false]
    go_enter Tryd.func55, Tryd.ntmps55
    go_wp2_with fail
    go_ret
    exact ⟨rfl, Below.refl _ _⟩
  by_cases h12 : op = 12
  · subst h12
    rw [show plainO 12 = false from rfl, Bool.and_false]
    go_enter Tryd.func55, Tryd.ntmps55
    go_wp2_with fail
    go_ret
    exact ⟨rfl, Below.refl _ _⟩
  have e6 : (op == 6) = false := beq_eq_false_iff_ne.2 h6
  have e7 : (op == 7) = false := beq_eq_false_iff_ne.2 h7
  have e11 : (op == 11) = false := beq_eq_false_iff_ne.2 h11
  have e12 : (op == 12) = false := beq_eq_false_iff_ne.2 h12
  have hpo : plainO op = true := by simp [plainO, e6, e7, e11, e12]
  rw [hpo, Bool.and_true]
  obtain ⟨z, hz0⟩ : ∃ z, r.parts.all (fun q => q.flat.all plainX) = z := ⟨_, rfl⟩
  rw [hz0]
  have HZ : Hid (r.parts.all (fun q => q.flat.all plainX) = z) := hz0
  clear h6 h7 h11 h12 hpo hz0
  go_enter Tryd.func55, Tryd.ntmps55
  go_wp2_with fail
  go_loopw [20] (fun i wr => ∃ j : Nat, j ≤ ps.length ∧ i = .int .i64 j ∧ Hid ((r.parts.take j).all (fun q => q.flat.all plainX) = true) ∧ Hid (Below w.heap.size w wr)) (fun i _ => ps.length - (intOf i).toNat)
  case atStart => exact ⟨0, by omega, rfl, rfl, Below.refl _ _⟩
  case round =>
    obtain ⟨j, hj, rfl, HA, HB⟩ := hrel
    by_cases hlt' : j < ps.length
    · obtain ⟨p, hp⟩ : ∃ p, ps[j]? = some p := ⟨ps[j], List.getElem?_eq_getElem hlt'⟩
      obtain ⟨q, hq⟩ : ∃ q, r.parts[j]? = some q := ⟨r.parts[j]'(by have := HL.out; omega), List.getElem?_eq_getElem _⟩
      obtain ⟨pg, off, rfl, hg, c0⟩ := PtrsAt.at HPV.out hp
      have c1 : wr.cell? ⟨pg, off + j, none⟩ = some (ptr p) := by
        rw [HB.out.cell (p := ⟨pg, off + j, none⟩) hg]
        exact c0
      have gI := HIH.out j p q wr hq hp HB.out
      have HT : Hid (r.parts.take (j + 1) = r.parts.take j ++ [q]) := by
        show r.parts.take (j + 1) = _
        rw [List.take_add_one, hq]
        rfl
      have HQ : Hid (r.parts[j]? = some q) := hq
      clear hp hq hg c0
      cases hz : q.flat.all plainX with
      | true =>
        have HA2 : Hid ((r.parts.take (j + 1)).all (fun q => q.flat.all plainX) = true) := by
          show (r.parts.take (j + 1)).all (fun q => q.flat.all plainX) = true
          rw [HT.out, List.all_append, HA.out]
          simp [hz]
        rw [hz] at gI
        clear hz
        go_wp2_with fail
        refine gI.mono ?_
        rintro e w2 ⟨rfl, hb2⟩
        have HB2 : Hid (Below w.heap.size w w2) := HB.out.trans (hb2.mono HB.out.size)
        clear gI hb2
        go_wp2_with fail
        go_roundw
        case rel => exact ⟨j + 1, by omega, by go_num, HA2, HB2⟩
        case measure => simp [intOf]; omega
      | false =>
        have HR : Hid (r.parts.all (fun q => q.flat.all plainX) = false) := by
          show r.parts.all (fun q => q.flat.all plainX) = false
          rw [List.all_eq_false]
          exact ⟨q, List.mem_of_getElem? HQ.out, by simp [hz]⟩
        rw [hz] at gI
        clear hz
        obtain rfl : z = false := HZ.out.symm.trans HR.out
        go_wp2_with fail
        refine gI.mono ?_
        rintro e w2 ⟨rfl, hb2⟩
        have HB2 : Hid (Below w.heap.size w w2) := HB.out.trans (hb2.mono HB.out.size)
        clear gI hb2
        go_wp2_with fail
        go_ret
        exact ⟨rfl, HB2.out⟩
    · obtain rfl : j = ps.length := by omega
      have HR : Hid (r.parts.all (fun q => q.flat.all plainX) = true) := by
        have h1 := HA.out
        rw [← HL.out, List.take_length] at h1
        exact h1
      obtain rfl : z = true := HZ.out.symm.trans HR.out
      clear HIH HPV
      go_wp2_with fail
      go_ret
      exact ⟨rfl, HB.out⟩
theorem plain_any : ∀ r : Tr, PlainP r := Tr.ind plain_step
set_option maxRecDepth 100000 in
theorem iIsPlain_any (wide vars : Int) (v : Value) (t : List Nd) (w : World) (hT : Tab w) (h : NodesAt w v t) :
    Calls Tryd.prog 21 #[.int .i64 wide, .int .i64 vars, v] w fun e w' => e = .returned (.tuple #[.bool (plainL wide vars t), .bool (decide (0 < kindL wide vars t))]) ∧ Below w.heap.size w w' := by
  by_cases hk : 0 < kindL wide vars t
  · obtain ⟨_, _, _, _, _, r, hr, _, hrf, _⟩ := root_tree hk
    have g := rootOf_yes wide vars v t w hT h r hk hr
    unfold plainL
    rw [decide_eq_true hk, Bool.true_and, ← hrf]
    generalize hz : r.flat.all plainX = z
    have HP : Hid (∀ (b : Nat) (w1 : World), TrAt w1 (Old w1) r b → Calls Tryd.prog 55 #[ptr b] w1 fun e w' => e = .returned (.bool z) ∧ Below w1.heap.size w1 w') := by
      intro b w1 h1
      have g1 := plain_any r b w1 h1
      rw [hz] at g1
      exact g1
    clear hr hk hT h hrf hz
    go_enter Tryd.func21, Tryd.ntmps21
    go_wp2_with fail
    refine g.mono ?_
    rintro e w' ⟨p, rfl, htr, hb⟩
    have g2 := HP.out p w' htr
    have HB : Hid _ := hb
    clear g hb htr
    go_wp2_with fail
    refine g2.mono ?_
    rintro e w2 ⟨rfl, hb2⟩
    have HB2 : Hid (Below w.heap.size w w2) := HB.out.trans (hb2.mono HB.out.size)
    clear g2 hb2
    go_wp2_with fail
    go_ret2
    exact ⟨rfl, HB2.out⟩
  · have g := rootOf_no wide vars v t w hT h hk
    unfold plainL
    rw [decide_eq_false hk, Bool.false_and]
    clear hk hT h
    go_enter Tryd.func21, Tryd.ntmps21
    go_wp2_with fail
    refine g.mono ?_
    rintro e w' ⟨rfl, hb⟩
    have HB : Hid _ := hb
    clear g hb
    go_wp2_with fail
    go_ret2
    exact ⟨rfl, HB.out⟩
end Go.Proofs.YtajmlkhilemgiaaDoor

namespace Go.Proofs.YtajmlkhilemgiaaDoor
open Go Go.RowKit
open M
set_option linter.unusedVariables false

set_option maxRecDepth 100000 in
set_option maxHeartbeats 4000000 in
theorem sIsPlain_any (wide vars : Int) (v : Value) (t : List Nd) (w : World) (h : NodesAt w v t) :
    Calls Tryd.prog 19 #[.int .i64 wide, .int .i64 vars, v] w fun e w' => e = .returned (.tuple #[.bool (plainL wide vars t), .bool (decide (0 < kindL wide vars t))]) ∧ Below w.heap.size w w' := by
  have g := goodTerm_any wide vars v t w h
  by_cases hk : 0 < kindL wide vars t
  · unfold plainL
    rw [decide_eq_true hk] at g ⊢
    rw [Bool.true_and]
    obtain ⟨z, hz0⟩ : ∃ z, t.all plainX = z := ⟨_, rfl⟩
    rw [hz0]
    have HZ : Hid (t.all plainX = z) := hz0
    have hne : t ≠ [] := by
      obtain ⟨_, _, _, h1, _⟩ := root_tree hk
      intro e
      rw [e] at h1
      simp at h1
    obtain ⟨_, hl, h3⟩ := h
    rcases h3 with ⟨rfl, _⟩ | ⟨b, off, cap, rfl, hlt, hc⟩
    · exact absurd rfl hne
    have HC : Hid (∀ (w' : World), Below w.heap.size w w' → ∀ (i : Nat) (x : Nd), t[i]? = some x → w'.cell? ⟨b, off + i * 2, none⟩ = some (.int .i64 x.1) ∧ w'.cell? ⟨b, off + i * 2 + 1, none⟩ = some (.int .u64 x.2)) := by
      intro w' hb i x hx
      obtain ⟨h1, h2⟩ := hc i x hx
      exact ⟨(hb.cell (p := ⟨b, off + i * 2, none⟩) hlt).trans h1, (hb.cell (p := ⟨b, off + i * 2 + 1, none⟩) hlt).trans h2⟩
    have HLT : Hid (b < w.heap.size) := hlt
    clear hk hne hc hz0 hlt
    generalize hn : t.length = n at *
    have HL : Hid (t.length = n) := hn
    clear hn
    go_enter Tryd.func19, Tryd.ntmps19
    go_wp2_with fail
    refine g.mono ?_
    rintro e w1 ⟨rfl, hb1⟩
    have HB1 : Hid _ := hb1
    clear g hb1
    go_wp2_with fail
    go_loopw [17] (fun i wr => ∃ j : Nat, j ≤ n ∧ i = .int .i64 j ∧ Hid ((t.take j).all plainX = true) ∧ Hid (Below w.heap.size w wr)) (fun i _ => n - (intOf i).toNat)
    case atStart => exact ⟨0, by omega, rfl, rfl, HB1⟩
    case round =>
      obtain ⟨j, hj, rfl, HA, HB⟩ := hrel
      clear HB1
      by_cases hlt' : j < n
      · obtain ⟨x, hx⟩ : ∃ x, t[j]? = some x := ⟨t[j]'(by have := HL.out; omega), List.getElem?_eq_getElem _⟩
        obtain ⟨c0, c1⟩ := HC.out wr HB.out j x hx
        have hbl : b < wr.heap.size := Nat.lt_of_lt_of_le HLT.out HB.out.size
        have HT : Hid (t.take (j + 1) = t.take j ++ [x]) := by
          show t.take (j + 1) = _
          rw [List.take_add_one, hx]
          rfl
        have HX : Hid (t[j]? = some x) := hx
        have hjA : (j : Int) < (n : Int) := by omega
        obtain ⟨op, N⟩ := x
        simp only at c0 c1
        have HBa : Hid (Below w.heap.size w (wr.alloc (.cells #[.int .i64 op, .int .u64 N] 79))) := HB.out.alloc HB.out.size _
        clear hx HC
        by_cases hp : op = 6 ∨ op = 7 ∨ op = 11 ∨ op = 12
        · have HR : Hid (t.all plainX = false) := by
            show t.all plainX = false
            rw [List.all_eq_false]
            refine ⟨_, List.mem_of_getElem? HX.out, ?_⟩
            rcases hp with rfl | rfl | rfl | rfl <;> simp [plainX, plainO]
          obtain rfl : z = false := HZ.out.symm.trans HR.out
          rcases hp with rfl | rfl | rfl | rfl
          all_goals
            go_wp2_with fail
            go_ret2
            exact ⟨rfl, HBa.out⟩
        · have h6 : ¬ op = 6 := fun e => hp (Or.inl e)
          have h7 : ¬ op = 7 := fun e => hp (Or.inr (Or.inl e))
          have h11 : ¬ op = 11 := fun e => hp (Or.inr (Or.inr (Or.inl e)))
          have h12 : ¬ op = 12 := fun e => hp (Or.inr (Or.inr (Or.inr e)))
          have e6 : (op == 6) = false := beq_eq_false_iff_ne.2 h6
          have e7 : (op == 7) = false := beq_eq_false_iff_ne.2 h7
          have e11 : (op == 11) = false := beq_eq_false_iff_ne.2 h11
          have e12 : (op == 12) = false := beq_eq_false_iff_ne.2 h12
          have HA2 : Hid ((t.take (j + 1)).all plainX = true) := by
            show (t.take (j + 1)).all plainX = true
            rw [HT.out, List.all_append, HA.out]
            simp [plainX, plainO, h6, h7, h11, h12]
          clear hp h6 h7 h11 h12 HT HX
          go_wp2_with fail
          go_roundw
          case rel => exact ⟨j + 1, by omega, by go_num, HA2, HBa⟩
          case measure => simp [intOf]; omega
      · obtain rfl : j = n := by omega
        have HR : Hid (t.all plainX = true) := by
          have h1 := HA.out
          rw [← HL.out, List.take_length] at h1
          exact h1
        obtain rfl : z = true := HZ.out.symm.trans HR.out
        clear HC
        go_wp2_with fail
        go_ret2
        exact ⟨rfl, HB.out⟩
  · unfold plainL
    rw [decide_eq_false hk] at g ⊢
    rw [Bool.false_and]
    clear hk h
    go_enter Tryd.func19, Tryd.ntmps19
    go_wp2_with fail
    refine g.mono ?_
    rintro e w' ⟨rfl, hb⟩
    have HB : Hid _ := hb
    clear g hb
    go_wp2_with fail
    go_ret2
    exact ⟨rfl, HB.out⟩
end Go.Proofs.YtajmlkhilemgiaaDoor

namespace Go.Proofs.YtajmlkhilemgiaaDoor
open Go Go.RowKit
open M
set_option linter.unusedVariables false
set_option linter.unusedSimpArgs false

theorem isPlain_any (wide vars : Int) (v : Value) (t : List Nd) (w : World) (h : NodesAt w v t) :
    Calls Tryd.prog 19 #[.int .i64 wide, .int .i64 vars, v] w fun e w' => e = .returned (.tuple #[.bool (plainL wide vars t), .bool (decide (0 < kindL wide vars t))]) ∧ Below w.heap.size w w' := sIsPlain_any wide vars v t w h
/-- what the program's IsPlain is to do -/
def DoesIsPlain : Prop := ∀ (wide : Int) (vars : Int) (tv : Value) (t : List Nd) (w : World), Tab w → NodesAt w tv t → t.length ≤ 1048576 → -9223372036854775808 ≤ wide → wide ≤ 9223372036854775807 → -9223372036854775808 ≤ vars → vars ≤ 9223372036854775807 →
  Calls Tryd.prog 21 #[.int .i64 wide, .int .i64 vars, tv] w fun e w' => e = .returned (.tuple #[.bool (plainL wide vars t), .bool (decide (0 < kindL wide vars t))]) ∧ Below w.heap.size w w'
set_option maxRecDepth 100000 in
set_option maxHeartbeats 4000000 in
theorem isPlain_small (hI : DoesIsPlain) (wide : Int) (vars : Int) (hwide0 : -9223372036854775808 ≤ wide) (hwide1 : wide ≤ 9223372036854775807) (hvars0 : -9223372036854775808 ≤ vars) (hvars1 : vars ≤ 9223372036854775807) (tv : Value) (t : List Nd) (htot : t.length ≤ 1048576) (w : World) (hT : Tab w) (h_t : NodesAt w tv t) :
    Calls Tryd.prog 4 #[.int .i64 wide, .int .i64 vars, tv] w fun e w' => e = .returned (.bool true) ∧ Below w.heap.size w w' := by
  have hl_t : t.length ≤ 1048576 := by omega
  have z0 : Calls Tryd.prog 18 #[tv, .int .i64 (1048576)] w fun e w' => e = .returned (.int .i64 (1048576 - (t.length : Int))) ∧ w' = w := by
    obtain ⟨ad, cap, hsh⟩ := h_t.shape
    have g := szNodeS_any ad t.length cap (1048576) (by omega) (by omega) (by omega) w
    rw [if_neg (by omega), ← hsh] at g
    exact g
  have GT_t : Hid (∀ w1 : World, Below w.heap.size w w1 → Calls Tryd.prog 20 #[tv] w1 fun e w' => ∃ v', e = .returned v' ∧ OwnNodes w' w1.heap.size v' t ∧ Below w1.heap.size w1 w') := fun w1 hb => toNodeS_any tv t hl_t w1 (h_t.below hb)
  have HN_t : Hid (∀ (w1 : World) (B : Nat) (v1 : Value), OwnNodes w1 B v1 t → NodesAt w1 v1 t) := fun w1 B v1 ho => nodes_of_own h_t.1 (by omega) ho
  have GS : Hid (∀ (t1 : Value) (w1 : World), NodesAt w1 t1 t → Calls Tryd.prog 19 #[.int .i64 wide, .int .i64 vars, t1] w1 fun e w' => e = .returned (.tuple #[.bool (plainL wide vars t), .bool (decide (0 < kindL wide vars t))]) ∧ Below w1.heap.size w1 w') := fun t1 w1 n_t => isPlain_any wide vars t1 t w1 n_t
  have GI : Hid (∀ (t1 : Value) (w1 : World), Below w.heap.size w w1 → NodesAt w1 t1 t → Calls Tryd.prog 21 #[.int .i64 wide, .int .i64 vars, t1] w1 fun e w' => e = .returned (.tuple #[.bool (plainL wide vars t), .bool (decide (0 < kindL wide vars t))]) ∧ Below w1.heap.size w1 w') := fun t1 w1 hb n_t => hI wide vars t1 t w1 (hT.below hb hT.some) n_t hl_t hwide0 hwide1 hvars0 hvars1
  clear hI hT h_t
  generalize plainL wide vars t = R0 at *
  generalize decide (0 < kindL wide vars t) = R1 at *
  go_enter Tryd.func4, Tryd.ntmps4
  go_wp2_with fail
  refine z0.mono ?_
  rintro e w' ⟨rfl, rfl⟩
  clear z0
  have hb_0_0 := Below.refl w'.heap.size w'
  have g1 := GT_t.out _ hb_0_0
  go_wp2_with fail
  refine g1.mono ?_
  rintro e w1 ⟨kst, rfl, ho_new, hstep⟩
  clear g1
  have hb_0_1 := Below.step hb_0_0 hb_0_0.size hstep
  clear hb_0_0
  clear hstep
  have ho_kst_1 := ho_new
  clear ho_new
  have g2 := GS.out kst _ (HN_t.out _ _ _ ho_kst_1)
  go_wp2_with fail
  refine g2.mono ?_
  clear ho_kst_1
  rintro e w2 ⟨rfl, hstep⟩
  clear g2
  have hb_0_2 := Below.step hb_0_1 hb_0_1.size hstep
  clear hb_0_1
  clear hstep
  have g3 := GT_t.out _ hb_0_2
  go_wp2_with fail
  refine g3.mono ?_
  rintro e w3 ⟨kxt, rfl, ho_new, hstep⟩
  clear g3
  have hb_0_3 := Below.step hb_0_2 hb_0_2.size hstep
  clear hb_0_2
  clear hstep
  have ho_kxt_3 := ho_new
  clear ho_new
  have g4 := GI.out kxt _ hb_0_3 (HN_t.out _ _ _ ho_kxt_3)
  go_wp2_with fail
  refine g4.mono ?_
  rintro e w4 ⟨rfl, hstep⟩
  clear g4
  have ho_kxt_4 := owns_below ho_kxt_3 hstep
  clear ho_kxt_3
  have hb_0_4 := Below.step hb_0_3 hb_0_3.size hstep
  clear hb_0_3
  clear hstep
  have g5 := GT_t.out _ hb_0_4
  go_wp2_with fail
  refine g5.mono ?_
  rintro e w5 ⟨c_, rfl, ho_new, hstep⟩
  clear g5
  have ho_kxt_5 := owns_below ho_kxt_4 hstep
  clear ho_kxt_4
  have hb_0_5 := Below.step hb_0_4 hb_0_4.size hstep
  clear hb_0_4
  clear hstep
  have g6 := eqNodeS_any kxt c_ t t _ (HN_t.out _ _ _ ho_kxt_5) (HN_t.out _ _ _ ho_new)
  rw [decide_eq_true rfl] at g6
  clear ho_new
  go_wp2_with fail
  refine g6.mono ?_
  rintro e w6 ⟨rfl, hstep⟩
  clear g6
  have ho_kxt_6 := owns_below ho_kxt_5 hstep
  clear ho_kxt_5
  have hb_0_6 := Below.step hb_0_5 hb_0_5.size hstep
  clear hb_0_5
  clear hstep
  have HB : Hid (Below w'.heap.size w' _) := hb_0_6
  clear ho_kxt_6
  go_wp2_with fail
  go_ret
  exact ⟨rfl, HB.out⟩
set_option maxRecDepth 100000 in
theorem isPlain_big0 (wide : Int) (vars : Int) (tv : Value) (t : List Nd) (ha : 0 ≤ 1048576) (hz : 1048576 < t.length) (w : World) (h_t : NodesAt w tv t) :
    Calls Tryd.prog 4 #[.int .i64 wide, .int .i64 vars, tv] w fun e w' => e = .returned (.bool true) ∧ Below w.heap.size w w' := by
  have hn_t := h_t.2.1
  have z0 : Calls Tryd.prog 18 #[tv, .int .i64 (1048576)] w fun e w' => e = .returned (.int .i64 (-1)) ∧ w' = w := by
    obtain ⟨ad, cap, hsh⟩ := h_t.shape
    have g := szNodeS_any ad t.length cap (1048576) (by omega) (by omega) (by omega) w
    rw [if_pos (by omega), ← hsh] at g
    exact g
  clear h_t
  go_enter Tryd.func4, Tryd.ntmps4
  go_wp2_with fail
  refine z0.mono ?_
  rintro e w' ⟨rfl, rfl⟩
  clear z0
  go_wp2_with fail
  go_ret
  exact ⟨rfl, Below.refl _ _⟩
theorem isPlain_law (hI : DoesIsPlain) (wide : Int) (vars : Int) (hwide0 : -9223372036854775808 ≤ wide) (hwide1 : wide ≤ 9223372036854775807) (hvars0 : -9223372036854775808 ≤ vars) (hvars1 : vars ≤ 9223372036854775807) (tv : Value) (t : List Nd) (w : World) (hT : Tab w) (h_t : NodesAt w tv t) :
    Calls Tryd.prog 4 #[.int .i64 wide, .int .i64 vars, tv] w fun e w' => e = .returned (.bool true) ∧ Below w.heap.size w w' := by
  by_cases htot : t.length ≤ 1048576
  · exact isPlain_small hI wide vars hwide0 hwide1 hvars0 hvars1 tv t htot w hT h_t
  exact isPlain_big0 wide vars tv t (by omega) (by omega) w h_t
theorem impl_IsPlain : DoesIsPlain := fun wide vars v t w hT h _ _ _ _ _ => iIsPlain_any wide vars v t w hT h
end Go.Proofs.YtajmlkhilemgiaaDoor
