/-
  The laws' sameCircuit where both are the same; the number that wires carry.
  The number that some wires carry, as the laws read it.
  The model's copy of a circuit: l1Own, l4Own.
  The model's LessGates and EqGates.
  The model's AddGates.
  The model's cone: wires that others are made from, put into a list from the last one on.
  ConeOf of the model and of the program.
  The program's AddGates.
  What the model's LessGates, EqGates and AddGates answer, and the program's AddGates, each as one.
  The law of sums: what the gates of a sum carry, for drawn circuits.
-/
import Derived.Test.YtpjllhlbdcanlaaSame4
import Derived.BigQuiet
import Derived.Test.YtpjllhlbdcanlaaGrown
import Derived.Deep.RegionHeldLaw
import Derived.Test.YtpjllhlbdcanlaaIGates
import Derived.Test.YtpjllhlbdcanlaaICone
import Derived.Test.YtpjllhlbdcanlaaVars
import Derived.Test.YtpjllhlbdcanlaaDrawA4
import Derived.Test.YtpjllhlbdcanlaaIRun2
import Derived.Test.YtpjllhlbdcanlaaIGood4
import Derived.Test.YtpjllhlbdcanlaaDraw2
import Derived.Test.YtpjllhlbdcanlaaRun
import Derived.Deep.CutRange
import Derived.Deep.RegionWith
namespace Go.Proofs.Ytpjllhlbdcanlaa
open Go Go.RowKit
open M
set_option linter.unusedVariables false
set_option linter.unusedSimpArgs false

theorem below_drewN (B : Nat) (w : World) (n : Nat) : Below B w (w.drewN n) := ⟨rfl, rfl, rfl, Nat.le_refl _, fun _ _ => rfl⟩
set_option maxRecDepth 100000 in
set_option maxHeartbeats 2000000 in
theorem sameCircuit_same (u v : Value) (c : Ci) (w : World) (h1 : AtCirc w u c) (h2 : AtCirc w v c) :
    Calls Try.prog 22 #[u, v] w fun e w' => e = .returned (.bool true) ∧ Below w.heap.size w w' := by
  obtain ⟨_, g, o, rfl, g1, o1⟩ := h1
  obtain ⟨_, g', o', rfl, g2, o2⟩ := h2
  obtain ⟨ga, gc, rfl, hga⟩ := g1.opened
  obtain ⟨gb, gd, rfl, hgb⟩ := g2.opened
  obtain ⟨oa, oc, rfl⟩ := o1.shape
  obtain ⟨ob, od, rfl⟩ := o2.shape
  have hgl := g1.2.1
  have HI : Hid (∀ w1 : World, Below w.heap.size w w1 → Calls Try.prog 23 #[.slice oa c.2.2.length oc, .slice ob c.2.2.length od] w1 fun e w' => e = .returned (.bool true) ∧ Below w1.heap.size w1 w') := fun w1 hw => sameInts_same _ _ c.2.2 w1 (o1.below hw) (o2.below hw)
  have HA : Hid (∀ w1 : World, Below w.heap.size w w1 → ∀ (i : Nat) (x : Gt), c.2.1[i]? = some x → ∃ b off : Nat, ga = some ⟨b, off, none⟩ ∧ b < w1.heap.size ∧ GateAt w1 b (off + i * 3) x) := fun w1 hw i x hx => by
    obtain ⟨b, off, e, hlt, hat⟩ := hga i x hx
    exact ⟨b, off, e, Nat.lt_of_lt_of_le hlt hw.size, hat.below hw hlt⟩
  have HB : Hid (∀ w1 : World, Below w.heap.size w w1 → ∀ (i : Nat) (x : Gt), c.2.1[i]? = some x → ∃ b off : Nat, gb = some ⟨b, off, none⟩ ∧ b < w1.heap.size ∧ GateAt w1 b (off + i * 3) x) := fun w1 hw i x hx => by
    obtain ⟨b, off, e, hlt, hat⟩ := hgb i x hx
    exact ⟨b, off, e, Nat.lt_of_lt_of_le hlt hw.size, hat.below hw hlt⟩
  obtain ⟨ins, gs, os⟩ := c
  simp only at *
  clear g1 g2 o1 o2 hga hgb
  have hb0 : Below w.heap.size w ((w.alloc (.cells #[.int .i64 ins, .slice ga gs.length gc, .slice oa os.length oc] 27)).alloc (.cells #[.int .i64 ins, .slice gb gs.length gd, .slice ob os.length od] 27)) := below2 _ _ _
  have x0 := (box3_alloc w 27 (.int .i64 ins) (.slice ga gs.length gc) (.slice oa os.length oc)).alloc (.cells #[.int .i64 ins, .slice gb gs.length gd, .slice ob os.length od] 27)
  have x1 := box3_alloc (w.alloc (.cells #[.int .i64 ins, .slice ga gs.length gc, .slice oa os.length oc] 27)) 27 (.int .i64 ins) (.slice gb gs.length gd) (.slice ob os.length od)
  simp only [World.size_alloc] at x1
  have hsz : ((w.alloc (.cells #[.int .i64 ins, .slice ga gs.length gc, .slice oa os.length oc] 27)).alloc (.cells #[.int .i64 ins, .slice gb gs.length gd, .slice ob os.length od] 27)).heap.size = w.heap.size + 1 + 1 := by simp only [World.size_alloc]
  obtain ⟨n, hn⟩ : ∃ n, gs.length = n := ⟨_, rfl⟩
  have HN : Hid (gs.length = n) := hn
  rw [hn] at hb0 x0 x1 hsz hgl ⊢
  clear hn
  generalize os.length = on at *
  go_enter Try.func22, Try.ntmps22
  go_wp2_with fail
  refine (HI.out _ hb0).mono ?_
  rintro e w1 ⟨rfl, hs⟩
  have hs1 := hs.size
  rw [hsz] at hs1
  have HB1 : Hid (Below w.heap.size w w1) := hb0.trans (hs.mono (by rw [hsz]; omega))
  have y0 := x0.below hs (by omega)
  have y1 := x1.below hs (by omega)
  have HY0 : Hid (∀ w2 : World, Below w1.heap.size w1 w2 → Box3 w2 w.heap.size 27 (.int .i64 ins) (.slice ga n gc) (.slice oa on oc)) := fun w2 hw => y0.below hw y0.lt
  have HY1 : Hid (∀ w2 : World, Below w1.heap.size w1 w2 → Box3 w2 (w.heap.size + 1) 27 (.int .i64 ins) (.slice gb n gd) (.slice ob on od)) := fun w2 hw => y1.below hw y1.lt
  obtain ⟨c0, c1, c2⟩ := y0.cells
  have ch := y0.heap
  have cl := y0.lt
  clear hs hb0 x0 x1 hsz y0 y1 HI
  go_wp2_with fail
  clear c0 c1 c2 ch cl
  go_loopw [31] (fun i wr => ∃ j : Nat, j ≤ n ∧ i = .int .i64 j ∧ Hid (Below w1.heap.size w1 wr)) (fun i _ => n - (intOf i).toNat)
  case atStart => exact ⟨0, by omega, rfl, Below.refl _ _⟩
  case round =>
    obtain ⟨j, hj, rfl, HBl⟩ := hrel
    have hw1 := HB1.out.size
    by_cases hlt : j < n
    · obtain ⟨x, hx⟩ : ∃ x, gs[j]? = some x := ⟨gs[j]'(by have := HN.out; omega), List.getElem?_eq_getElem (by have := HN.out; omega)⟩
      obtain ⟨ag, aoff, rfl, hag, a0, a1, a2⟩ := HA.out wr (HB1.out.trans (HBl.out.mono hw1)) j x hx
      obtain ⟨bg, boff, rfl, hbg, b0, b1, b2⟩ := HB.out wr (HB1.out.trans (HBl.out.mono hw1)) j x hx
      obtain ⟨c0, c1, c2⟩ := (HY0.out wr HBl.out).cells
      have ch := (HY0.out wr HBl.out).heap
      have cl := (HY0.out wr HBl.out).lt
      obtain ⟨d0, d1, d2⟩ := (HY1.out wr HBl.out).cells
      have dh := (HY1.out wr HBl.out).heap
      have dl := (HY1.out wr HBl.out).lt
      obtain ⟨kk, xa, xb⟩ := x
      simp only at a0 a1 a2 b0 b1 b2
      have hjn : (j : Int) < (n : Int) := by omega
      have HD : Hid (Below w1.heap.size w1 wr.drew) := HBl.out.drew
      have HD2 : Hid (∀ nq : Nat, Below w1.heap.size w1 (wr.drewN nq)) := fun nq => HBl.out.trans (below_drewN _ _ nq)
      clear hx HA HB HN HY0 HY1 HB1
      go_wp2_with fail
      go_quiet (fail)
      go_wp2_with fail
      go_roundw
      case rel => exact ⟨j + 1, by omega, by go_num, HD2.out _⟩
      case measure => simp [intOf]; omega
    · obtain rfl : j = n := by omega
      have HBF : Hid (Below w.heap.size w wr) := HB1.out.trans (HBl.out.mono hw1)
      clear HA HB HN HY0 HY1
      go_wp2_with fail
      go_ret
      exact ⟨rfl, HBF.out⟩
end Go.Proofs.Ytpjllhlbdcanlaa

namespace Go.Proofs.Ytpjllhlbdcanlaa
open Go Go.RowKit
open M
set_option linter.unusedVariables false
set_option linter.unusedSimpArgs false

theorem i64_or_nat (a b : Nat) (ha : a < 4611686018427387904) (hb : b < 4611686018427387904) : bits .or .i64 (a : Int) (b : Int) = ((a ||| b : Nat) : Int) := by
  have hx : a ||| b < 2 ^ 62 := Nat.or_lt_two_pow (by omega) (by omega)
  show IntKind.i64.wrap ((BitVec.ofInt 64 (a : Int) ||| BitVec.ofInt 64 (b : Int)).toNat : Int) = _
  rw [BitVec.toNat_or, ofInt_u64 a (by omega), ofInt_u64 b (by omega)]
  exact IntWalk.i64_in _ ⟨by omega, by omega⟩
theorem or_bit (a j : Nat) (h : a < 2 ^ j) (hj : j ≤ 40) : bits .or .i64 (a : Int) (wrap64 (2 ^ j)) = ((a + 2 ^ j : Nat) : Int) := by
  have hp : (2 : Nat) ^ j ≤ 2 ^ 40 := Nat.pow_le_pow_right (by omega) hj
  have e0 : ((2 : Int) ^ j) = ((2 ^ j : Nat) : Int) := by simp
  have e1 : wrap64 (2 ^ j) = ((2 ^ j : Nat) : Int) := by
    rw [e0]
    unfold wrap64
    omega
  rw [e1, i64_or_nat a (2 ^ j) (by omega) (by omega)]
  have e2 := Nat.two_pow_add_eq_or_of_lt h 1
  rw [Nat.mul_one] at e2
  rw [Nat.or_comm, ← e2]
  congr 1
  omega
theorem carryN_snoc (o : List Bool) : ∀ (l : List Int) (x : Int), carryN o (l ++ [x]) = carryN o l + (if at' o x = true then 2 ^ l.length else 0)
  | [], x => by simp [carryN]
  | y :: l, x => by
    have ih := carryN_snoc o l x
    simp only [List.cons_append, carryN, ih, List.length_cons, Nat.pow_succ]
    split <;> split <;> omega
set_option maxRecDepth 100000 in
set_option maxHeartbeats 2000000 in
theorem carried_laws (av wv : Value) (o : List Bool) (ws : List Int) (hl : ws.length ≤ 20) (ho : o.length ≤ 1000) (hw : ∀ x ∈ ws, 0 ≤ x ∧ x < o.length) (w : World) (h1 : BoolsAt w av o) (h2 : IntsAt w wv ws) :
    Calls Try.prog 29 #[av, wv] w fun e w' => e = .returned (.int .i64 (carryN o ws)) ∧ Below w.heap.size w w' := by
  obtain ⟨a, ac, rfl, ha⟩ := h1.opened
  obtain ⟨b, bc, rfl, hb⟩ := h2.opened
  clear h1 h2
  go_enter Try.func29, Try.ntmps29
  go_wp2_with fail
  have HW : Hid (∀ x ∈ ws, 0 ≤ x ∧ x < o.length) := hw
  have HA : Hid _ := ha
  have HB : Hid _ := hb
  clear hw ha hb
  generalize hon : o.length = on at *
  obtain ⟨wn, hwn⟩ : ∃ wn, ws.length = wn := ⟨_, rfl⟩
  have HWN : Hid (ws.length = wn) := hwn
  go_loopw [5, 10] (fun vn i wr => ∃ j : Nat, j ≤ ws.length ∧ i = .int .i64 j ∧ vn = .int .i64 (carryN o (ws.take j)) ∧ Hid (Below w.heap.size w wr)) (fun _ i _ => ws.length - (intOf i).toNat)
  case atStart => exact ⟨0, by omega, rfl, rfl, Below.refl _ _⟩
  case round =>
    obtain ⟨j, hj, rfl, rfl, HBl⟩ := hrel
    by_cases hlt : j < ws.length
    · obtain ⟨x, hx⟩ : ∃ x, ws[j]? = some x := ⟨ws[j], List.getElem?_eq_getElem hlt⟩
      obtain ⟨hx0, hx1⟩ := HW.out x (List.mem_of_getElem? hx)
      obtain ⟨X, rfl⟩ := Int.eq_ofNat_of_zero_le hx0
      obtain ⟨bg, boff, rfl, hbl, d0⟩ := HB.out j _ hx
      obtain ⟨ag, aoff, rfl, hal, d1⟩ := HA.out X (at' o X) (by unfold at'; rw [Int.toNat_natCast, List.getD_eq_getElem?_getD, List.getElem?_eq_getElem (by omega)]; rfl)
      rw [← HBl.out.cell (p := ⟨bg, boff + j, none⟩) hbl] at d0
      rw [← HBl.out.cell (p := ⟨ag, aoff + X, none⟩) hal] at d1
      have hst : carryN o (ws.take (j + 1)) = carryN o (ws.take j) + (if at' o X = true then 2 ^ j else 0) := by
        rw [List.take_add_one, hx]
        have e := carryN_snoc o (ws.take j) (X : Int)
        rw [List.length_take_of_le (by omega)] at e
        exact e
      have hcl := carryN_lt o (ws.take j)
      rw [List.length_take_of_le (by omega)] at hcl
      have HST : Hid _ := hst
      clear hst hx HA HB HW
      generalize hcn : carryN o (ws.take j) = cn at *
      cases hz : at' o (X : Int) with
      | false =>
        rw [hz] at d1
        have HR : Hid (carryN o (ws.take (j + 1)) = cn) := by
          have h1 := HST.out
          rw [hz] at h1
          simp only [Bool.false_eq_true, if_false, Nat.add_zero] at h1
          exact h1
        clear HST hz hcn
        go_wp2_with fail
        go_roundw
        case rel => exact ⟨j + 1, by omega, by go_num, by rw [HR.out], HBl⟩
        case measure => simp [intOf]; omega
      | true =>
        rw [hz] at d1
        have HR : Hid (carryN o (ws.take (j + 1)) = cn + 2 ^ j) := by
          have h1 := HST.out
          rw [hz, if_pos rfl] at h1
          exact h1
        have HO : Hid (bits .or .i64 (cn : Int) (wrap64 (2 ^ j)) = ((cn + 2 ^ j : Nat) : Int)) := or_bit cn j hcl (by omega)
        clear HST hz hcn hcl
        go_wp2_with fail
        go_roundw
        case rel => exact ⟨j + 1, by omega, by go_num, by rw [HR.out, HO.out], HBl⟩
        case measure => simp [intOf]; omega
    · obtain rfl : j = ws.length := by omega
      rw [List.take_length]
      clear HA HB HW
      go_wp2_with fail
      go_ret
      exact ⟨rfl, HBl.out⟩
end Go.Proofs.Ytpjllhlbdcanlaa

namespace Go.Proofs.Ytpjllhlbdcanlaa
open Go Go.RowKit
open M
set_option linter.unusedVariables false
set_option linter.unusedSimpArgs false

theorem own_emptyG (w : World) (base : Nat) (hb : base ≤ w.heap.size) : (w.alloc (.cells #[] 128)).ownsRow base 128 3 (.slice (some ⟨w.heap.size, 0, none⟩) 0 0) 0 [] := by
  refine ⟨rfl, Or.inr ⟨w.heap.size, 0, #[], rfl, hb, ?_, Nat.le_refl _, by unfold maxLen; omega, rfl, rfl⟩⟩
  show (w.heap.push _)[w.heap.size]? = _
  simp
set_option maxRecDepth 100000 in
theorem l1Own_any (a : Option Addr) (cap : Nat) (os : List Int) (hO : os.length ≤ 1000) (w : World) (h : Src w (.slice a os.length cap) os.length (cellsI os)) :
    Calls Try.prog 160 #[.slice a os.length cap] w fun e w' => ∃ r, e = .returned r ∧ w'.ownsRow w.heap.size 3 1 r os.length (cellsI os) ∧ Below w.heap.size w w' := by
  obtain ⟨i0, hif, hz0, hz1, hz2⟩ := info_parts infoInt
  have own0 := own_emptyI w w.heap.size (Nat.le_refl _)
  have hb0 : Below w.heap.size w (w.alloc (.cells #[] 3)) := (Below.refl _ _).alloc (Nat.le_refl _) _
  have h0 := h.below hb0
  have sol : (cellsI os).length = os.length * 1 := by simp [cellsI]
  clear h
  go_enter Try.func160, Try.ntmps160
  go_wp2_with (at_builtin; refine wpList_append_src rfl _ _ 25 rfl w.heap.size 3 i0 (.int .i64 0) 1 8 Try.underlying25 hif hz0 hz1 hz2 rfl (by decide) _ _ _ rfl own0 (.slice a os.length cap) os.length (cellsI os) rfl h0 sol (ints_one os) (by unfold maxLen; omega) (by omega) hb0.size ?_)
  intro v5 w5 own5 grow5
  have HO : Hid _ := own5
  have HB : Hid (Below w.heap.size w w5) := hb0.grown grow5 hb0.size (fun k hk => (own_block own0 hk).1)
  clear own5 grow5 own0 h0
  go_wp2_with fail
  go_ret
  exact ⟨_, rfl, HO.out, HB.out⟩
set_option maxRecDepth 100000 in
set_option maxHeartbeats 4000000 in
theorem l4Own_any (v : Value) (c : Ci) (hI0 : 0 ≤ c.1) (hI1 : c.1 ≤ 16) (hG : c.2.1.length ≤ 300) (hO : c.2.2.length ≤ 16) (w : World) (h : AtC w v c) :
    Calls Try.prog 101 #[v] w fun e w' => ∃ gv ov, e = .returned (.agg #[.int .i64 c.1, gv, ov]) ∧ w'.ownsRow w.heap.size 128 3 gv c.2.1.length (flat3 c.2.1) ∧ w'.ownsRow w.heap.size 3 1 ov c.2.2.length (cellsI c.2.2) ∧ Below w.heap.size w w' := by
  obtain ⟨_, gw, ov, hv, h1, h2, h3, h4⟩ := h
  obtain ⟨ga, gc, hgw⟩ := h1.shape
  obtain ⟨oa, oc, ho⟩ := h2.shape
  have sg := src_gates h1 h3
  have so := src_ints h2 h4
  clear h1 h2 h3 h4
  subst hgw ho hv
  obtain ⟨ins, gs, os⟩ := c
  simp only at *
  obtain ⟨j0, hjf, hy0, hy1, hy2⟩ := info_parts infoGate
  have hb0 : Below w.heap.size w ((w.alloc (.cells #[.int .i64 ins, .slice ga gs.length gc, .slice oa os.length oc] 27)).alloc (.cells #[.int .i64 0, .slice none 0 0, .slice none 0 0] 27)) := below2 _ _ _
  have x0 := (box3_alloc w 27 (.int .i64 ins) (.slice ga gs.length gc) (.slice oa os.length oc)).alloc (.cells #[.int .i64 0, .slice none 0 0, .slice none 0 0] 27)
  have x1 := box3_alloc (w.alloc (.cells #[.int .i64 ins, .slice ga gs.length gc, .slice oa os.length oc] 27)) 27 (.int .i64 0) (.slice none 0 0) (.slice none 0 0)
  simp only [World.size_alloc] at x1
  have hsz : ((w.alloc (.cells #[.int .i64 ins, .slice ga gs.length gc, .slice oa os.length oc] 27)).alloc (.cells #[.int .i64 0, .slice none 0 0, .slice none 0 0] 27)).heap.size = w.heap.size + 1 + 1 := by simp only [World.size_alloc]
  have sg1 := sg.below hb0
  have so1 := so.below hb0
  clear sg so
  have HL : Hid (∀ w5 : World, Src w5 (.slice oa os.length oc) os.length (cellsI os) → Calls Try.prog 160 #[.slice oa os.length oc] w5 fun e w' => ∃ r, e = .returned r ∧ w'.ownsRow w5.heap.size 3 1 r os.length (cellsI os) ∧ Below w5.heap.size w5 w') := fun w5 h5 => l1Own_any oa oc os (by omega) w5 h5
  go_enter Try.func101, Try.ntmps101
  go_wp2_with fail
  generalize ((w.alloc (.cells #[.int .i64 ins, .slice ga gs.length gc, .slice oa os.length oc] 27)).alloc (.cells #[.int .i64 0, .slice none 0 0, .slice none 0 0] 27)) = wa at *
  have HSZ : Hid (wa.heap.size = w.heap.size + 1 + 1) := hsz
  clear hsz
  obtain ⟨c0, c1, c2⟩ := x0.cells
  have hh := x0.heap
  have hlt := x0.lt
  have own0 : (wa.drew.alloc (.cells #[] 128)).ownsRow wa.heap.size 128 3 (.slice (some ⟨wa.heap.size, 0, none⟩) 0 0) 0 [] := own_emptyG wa.drew wa.heap.size (Nat.le_refl _)
  have sg0 : Src (wa.drew.alloc (.cells #[] 128)) (.slice ga gs.length gc) gs.length (flat3 gs) := Src.below (w := wa.drew) sg1 ((Below.refl _ _).alloc (Nat.le_refl _) _)
  have hsb : wa.heap.size ≤ (wa.drew.alloc (.cells #[] 128)).heap.size := by
    rw [World.size_alloc]
    show wa.heap.size ≤ wa.heap.size + 1
    omega
  have HK : Hid (∀ w5 : World, (wa.drew.alloc (.cells #[] 128)).grownBy w5 (Value.slice (some ⟨wa.heap.size, 0, none⟩) 0 0).ownBlock → Below wa.heap.size wa w5) := by
    intro w5 g5
    have hba : Below wa.heap.size wa (wa.drew.alloc (.cells #[] 128)) := ((Below.refl wa.heap.size wa).drew).alloc (Nat.le_refl _) _
    exact hba.grown g5 hsb (fun k hk => by
      have e : wa.heap.size = k := Option.some.inj hk
      omega)
  have HC : Hid (∀ w5 : World, Below wa.heap.size wa w5 → Box3 w5 w.heap.size 27 (.int .i64 ins) (.slice ga gs.length gc) (.slice oa os.length oc) ∧ Box3 w5 (w.heap.size + 1) 27 (.int .i64 0) (.slice none 0 0) (.slice none 0 0) ∧ Src w5 (.slice oa os.length oc) os.length (cellsI os)) := fun w5 hb => ⟨x0.below hb x0.lt, x1.below hb x1.lt, so1.below hb⟩
  have HE : Hid (∀ (w5 : World) (v5 : Value) (w6 : World) (v6 : Value), Below wa.heap.size wa w5 → w5.ownsRow wa.heap.size 128 3 v5 gs.length (flat3 gs) → w6.ownsRow w5.heap.size 3 1 v6 os.length (cellsI os) → Below w5.heap.size w5 w6 →
      Box3 (((w6.setCell ⟨w.heap.size + 1, 0, none⟩ (.int .i64 ins)).setCell ⟨w.heap.size + 1, 1, none⟩ v5).setCell ⟨w.heap.size + 1, 2, none⟩ v6) (w.heap.size + 1) 27 (.int .i64 ins) v5 v6 ∧ (((w6.setCell ⟨w.heap.size + 1, 0, none⟩ (.int .i64 ins)).setCell ⟨w.heap.size + 1, 1, none⟩ v5).setCell ⟨w.heap.size + 1, 2, none⟩ v6).ownsRow w.heap.size 128 3 v5 gs.length (flat3 gs) ∧ (((w6.setCell ⟨w.heap.size + 1, 0, none⟩ (.int .i64 ins)).setCell ⟨w.heap.size + 1, 1, none⟩ v5).setCell ⟨w.heap.size + 1, 2, none⟩ v6).ownsRow w.heap.size 3 1 v6 os.length (cellsI os) ∧ Below w.heap.size w (((w6.setCell ⟨w.heap.size + 1, 0, none⟩ (.int .i64 ins)).setCell ⟨w.heap.size + 1, 1, none⟩ v5).setCell ⟨w.heap.size + 1, 2, none⟩ v6)) := by
    intro w5 v5 w6 v6 hb5 o5 o6 hb6
    have hs5 := hb5.size
    have hsz := HSZ.out
    have hba6 : Below wa.heap.size wa w6 := hb5.trans (hb6.mono hs5)
    obtain ⟨_, r6, _⟩ := HC.out w6 hba6
    have hbw : Below w.heap.size w w6 := hb0.trans (hba6.mono (by omega))
    have g6 : w6.ownsRow wa.heap.size 128 3 v5 gs.length (flat3 gs) := owns_below o5 hb6
    have i6 : w6.ownsRow wa.heap.size 3 1 v6 os.length (cellsI os) := own_base o6 hs5
    have s0 : w.heap.size ≤ w.heap.size + 1 := Nat.le_succ _
    exact ⟨((r6.set0 _).set1 _).set2 _, own_base (own_set (own_set (own_set g6 (by omega)) (by omega)) (by omega)) (by omega), own_base (own_set (own_set (own_set i6 (by omega)) (by omega)) (by omega)) (by omega), ((hbw.setCell (p := ⟨w.heap.size + 1, 0, none⟩) s0 _).setCell (p := ⟨w.heap.size + 1, 1, none⟩) s0 _).setCell (p := ⟨w.heap.size + 1, 2, none⟩) s0 _⟩
  have sgl : (flat3 gs).length = gs.length * 3 := flat3_len gs
  clear sg1 so1 hb0 x0 x1
  go_region_held_law (fun w' => w'.cell? ⟨w.heap.size, 0, none⟩ = some (.int .i64 ins) ∧ w'.cell? ⟨w.heap.size, 1, none⟩ = some (.slice ga gs.length gc) ∧ w'.cell? ⟨w.heap.size, 2, none⟩ = some (.slice oa os.length oc)) (first | exact ⟨la0, la1, la2⟩ | exact ⟨ka0, ka1, ka2⟩ | go_keep) (first | (refine step_append_src rfl _ _ 24 rfl wa.heap.size 128 j0 (.agg #[.int .i64 0, .int .i64 0, .int .i64 0]) 3 24 Try.underlying24 hjf hy0 hy1 hy2 rfl (by decide) (.slice (some ⟨wa.heap.size, 0, none⟩) 0 0) 0 [] (by simp [Act.eval, Act.put]) own0 (.slice ga gs.length gc) gs.length (flat3 gs) (by simp [Act.eval, Act.put]) sg0 sgl (flat3_one gs) (by unfold maxLen; omega) (by omega) hsb ?_; intro v5 w5 own5 grow5; rw [Nat.zero_add, List.nil_append] at own5; have HB5 : Hid _ := HK.out w5 grow5; obtain ⟨k1, k2, k3⟩ := HC.out w5 HB5.out; obtain ⟨ka0, ka1, ka2⟩ := k1.cells; have kh := k1.heap; have klt := k1.lt; obtain ⟨va5, vc5, hv5⟩ := own_shape own5; subst hv5; have OW5 : Hid _ := own5; clear k1 k2 own5 grow5) | (go_simp; go_at_call 160; refine (HL.out _ ?_).mono ?_; exact k3; rintro e w6 ⟨v6, rfl, own6, hs6⟩; obtain ⟨l1, l2, l3, l4⟩ := HE.out w5 _ w6 v6 HB5.out OW5.out own6 hs6; obtain ⟨m1, m2, m3⟩ := HC.out w6 (HB5.out.trans (hs6.mono HB5.out.size)); obtain ⟨la0, la1, la2⟩ := m1.cells; have lh := m1.heap; have llt := m1.lt; obtain ⟨lb0, lb1, lb2⟩ := m2.cells; have lbh := m2.heap; have lblt := m2.lt; have lf0 := m2.frozen 0; have lf1 := m2.frozen 1; have lf2 := m2.frozen 2; obtain ⟨va6, vc6, hv6⟩ := own_shape own6; subst hv6; have L1 : Hid _ := l1.heap; have L2 : Hid _ := l2; have L3 : Hid _ := l3; have L4 : Hid _ := l4; clear own6 hs6 l1 l2 l3 l4 m1 m2 m3))
  all_goals
    go_wp2_with fail
    refine bodyPost_ret (results_cell_row rfl _ _ (w.heap.size + 1) 27 _ (0, 0) _ rfl L1.out Try.underlying27 rfl (by kernel_rfl)) rfl ?_
    exact ⟨_, _, rfl, L2.out, L3.out, L4.out⟩
end Go.Proofs.Ytpjllhlbdcanlaa

namespace Go.Proofs.Ytpjllhlbdcanlaa
open Go Go.RowKit
open M
set_option linter.unusedVariables false
set_option linter.unusedSimpArgs false

set_option maxRecDepth 100000 in
set_option maxHeartbeats 8000000 in
theorem sLessGates_bad (v av bv : Value) (c : Ci) (a b : List Int) (hsd : sidesB c a b = false) (w : World) (h : AtC w v c) (ha : AtIS w av a) (hb : AtIS w bv b) :
    Calls Try.prog 33 #[v, av, bv] w fun e w' => ∃ r, e = .returned (.tuple #[r, .int .i64 0, .bool false]) ∧ OwnCirc w' w.heap.size w'.heap.size r (0, [], []) ∧ Below w.heap.size w w' := by
  obtain ⟨ga, gn, gc, oa, on, oc, hv⟩ := h.at.shape
  have hgn : gn = c.2.1.length := by
    obtain ⟨_, g, o, hv', h1, _⟩ := h
    obtain ⟨a', cap, hg⟩ := h1.shape
    rw [hv] at hv'
    rw [hg] at hv'
    simp at hv'
    exact hv'.1.2.1
  subst hv
  obtain ⟨aa, ac, hav⟩ := ha.1.shape
  obtain ⟨ba, bc, hbv⟩ := hb.1.shape
  have hb0 : Below w.heap.size w ((w.alloc (.cells #[.int .i64 c.1, .slice ga gn gc, .slice oa on oc] 27)).alloc (.cells #[.int .i64 0, .slice none 0 0, .slice none 0 0] 27)) := below2 _ _ _
  have x0 := (box3_alloc w 27 (.int .i64 c.1) (.slice ga gn gc) (.slice oa on oc)).alloc (.cells #[.int .i64 0, .slice none 0 0, .slice none 0 0] 27)
  have x1 := box3_alloc (w.alloc (.cells #[.int .i64 c.1, .slice ga gn gc, .slice oa on oc] 27)) 27 (.int .i64 0) (.slice none 0 0) (.slice none 0 0)
  simp only [World.size_alloc] at x1
  have g1 := sSides_any _ _ _ c a b _ (h.below hb0).at (ha.1.below hb0) (hb.1.below hb0)
  rw [hsd] at g1
  have hsz : ((w.alloc (.cells #[.int .i64 c.1, .slice ga gn gc, .slice oa on oc] 27)).alloc (.cells #[.int .i64 0, .slice none 0 0, .slice none 0 0] 27)).heap.size = w.heap.size + 1 + 1 := by simp only [World.size_alloc]
  subst hav hbv
  clear hgn h ha hb
  generalize a.length = an at *
  generalize b.length = bn at *
  go_enter Try.func33, Try.ntmps33
  go_wp2_with fail
  refine g1.mono ?_
  rintro e w1 ⟨rfl, hs⟩
  have hb1 := Below.step hb0 hb0.size hs
  have y0 := x0.below hs (by omega)
  have y1 := x1.below hs (by omega)
  have hsz1 := hs.size
  rw [hsz] at hsz1
  clear g1 hs hb0 x0 x1 hsz
  clear y0
  obtain ⟨r0, r1, r2⟩ := y1.cells
  have rh := y1.heap
  have rl := y1.lt
  have rf0 := y1.frozen 0
  have rf1 := y1.frozen 1
  have rf2 := y1.frozen 2
  go_wp2_with fail
  have z1 := ((y1.set0 (.int .i64 0)).set1 (.slice none 0 0)).set2 (.slice none 0 0)
  have hbz := ((hb1.setCell (p := ⟨w.heap.size + 1, 0, none⟩) (Nat.le_succ _) (.int .i64 0)).setCell (p := ⟨w.heap.size + 1, 1, none⟩) (Nat.le_succ _) (.slice none 0 0)).setCell (p := ⟨w.heap.size + 1, 2, none⟩) (Nat.le_succ _) (.slice none 0 0)
  refine bodyPost_ret (results_c2 rfl _ _ (w.heap.size + 1) 27 _ (0, 0) _ rfl z1.heap Try.underlying27 rfl (by kernel_rfl)) rfl ?_
  exact ⟨_, rfl, ⟨_, _, rfl, rowIn_of (World.ownsRow_nil _ _ _ _), rowIn_of (World.ownsRow_nil _ _ _ _)⟩, hbz⟩
set_option maxRecDepth 100000 in
set_option maxHeartbeats 8000000 in
theorem sLessGates_no (v av bv : Value) (c : Ci) (a b : List Int) (hsd : sidesB c a b = true) (hgD : goodC (lessC c a b) = false) (w : World) (h : AtC w v c) (ha : AtIS w av a) (hb : AtIS w bv b) :
    Calls Try.prog 33 #[v, av, bv] w fun e w' => ∃ r, e = .returned (.tuple #[r, .int .i64 0, .bool false]) ∧ OwnCirc w' w.heap.size w'.heap.size r (0, [], []) ∧ Below w.heap.size w w' := by
  obtain ⟨hgd, hl, h16, _, _⟩ := sides_parts hsd
  obtain ⟨hI0, hI1, hG, hO, _, _⟩ := goodC_ins hgd
  obtain ⟨ga, gn, gc, oa, on, oc, hv⟩ := h.at.shape
  have hgn : gn = c.2.1.length := by
    obtain ⟨_, g, o, hv', h1, _⟩ := h
    obtain ⟨a', cap, hg⟩ := h1.shape
    rw [hv] at hv'
    rw [hg] at hv'
    simp at hv'
    exact hv'.1.2.1
  subst hv
  obtain ⟨aa, ac, hav⟩ := ha.1.shape
  obtain ⟨ba, bc, hbv⟩ := hb.1.shape
  have hb0 : Below w.heap.size w ((w.alloc (.cells #[.int .i64 c.1, .slice ga gn gc, .slice oa on oc] 27)).alloc (.cells #[.int .i64 0, .slice none 0 0, .slice none 0 0] 27)) := below2 _ _ _
  have x0 := (box3_alloc w 27 (.int .i64 c.1) (.slice ga gn gc) (.slice oa on oc)).alloc (.cells #[.int .i64 0, .slice none 0 0, .slice none 0 0] 27)
  have x1 := box3_alloc (w.alloc (.cells #[.int .i64 c.1, .slice ga gn gc, .slice oa on oc] 27)) 27 (.int .i64 0) (.slice none 0 0) (.slice none 0 0)
  simp only [World.size_alloc] at x1
  have g1 := sSides_any _ _ _ c a b _ (h.below hb0).at (ha.1.below hb0) (hb.1.below hb0)
  rw [hsd] at g1
  have hsz : ((w.alloc (.cells #[.int .i64 c.1, .slice ga gn gc, .slice oa on oc] 27)).alloc (.cells #[.int .i64 0, .slice none 0 0, .slice none 0 0] 27)).heap.size = w.heap.size + 1 + 1 := by simp only [World.size_alloc]
  have GG : Hid (∀ w1 : World, Below w.heap.size w w1 → Calls Try.prog 101 #[.agg #[.int .i64 c.1, .slice ga gn gc, .slice oa on oc]] w1 fun e w' => ∃ gv ov, e = .returned (.agg #[.int .i64 c.1, gv, ov]) ∧ w'.ownsRow w1.heap.size 128 3 gv c.2.1.length (flat3 c.2.1) ∧ w'.ownsRow w1.heap.size 3 1 ov c.2.2.length (cellsI c.2.2) ∧ Below w1.heap.size w1 w') := fun w1 hw => l4Own_any _ c hI0 hI1 hG hO w1 (h.below hw)
  have GL : Hid (∀ (lo hi bl : Nat) (w1 : World), Bld w1 lo hi bl 126 c → hi ≤ w1.heap.size → w.heap.size ≤ lo → Below w.heap.size w w1 → Calls Try.prog 110 #[.pointer (some ⟨bl, 0, none⟩), av, bv] w1 fun e w' => e = .returned (.int .i64 (onW (wiresN c) (wiresN c + 1) 6 5 a.length)) ∧ Bld w' lo hi bl 126 (lessC c a b) ∧ Below lo w1 w') := fun lo hi bl w1 hB hhi hlo hb' => sLess_any lo hi bl c.1 c.2.1 c.2.2 av bv a b (wiresN c) rfl hI0 hI1 hG hl h16 w1 hB hhi (fun w' hw => ha.1.below (hb'.trans (hw.mono hlo))) (fun w' hw => hb.1.below (hb'.trans (hw.mono hlo)))
  have HGO : Hid (∀ (u : Value) (w1 : World), AtCirc w1 u (lessC c a b) → Calls Try.prog 25 #[u] w1 fun e w' => e = .returned (.bool false) ∧ Below w1.heap.size w1 w') := fun u w1 h1 => by
    have g := sGood_any u _ w1 h1
    rw [hgD] at g
    exact g
  have hfit : Fit (lessC c a b).1 := h.1
  have hDs := lessC_sm hsd
  have hD2 : (lessC c a b).2.2.length ≤ 16 := hO
  rw [hav, hbv] at GL
  obtain ⟨DD, hDD⟩ : ∃ DD, (lessC c a b) = DD := ⟨_, rfl⟩
  rw [hDD] at GL HGO hfit hDs hD2
  obtain ⟨AN, hAN⟩ : ∃ AN : Int, onW (wiresN c) (wiresN c + 1) 6 5 a.length = AN := ⟨_, rfl⟩
  rw [hAN] at GL
  clear hAN
  clear hDD hgD
  subst hav hbv
  clear hgn h ha hb hsd hl h16
  generalize a.length = an at *
  generalize b.length = bn at *
  go_enter Try.func33, Try.ntmps33
  go_wp2_with fail
  refine g1.mono ?_
  rintro e w1 ⟨rfl, hs⟩
  have hb1 := Below.step hb0 hb0.size hs
  have y0 := x0.below hs (by omega)
  have y1 := x1.below hs (by omega)
  have hsz1 := hs.size
  rw [hsz] at hsz1
  clear g1 hs hb0 x0 x1 hsz
  obtain ⟨c0, c1, c2⟩ := y0.cells
  have ch := y0.heap
  have cl := y0.lt
  go_wp2_with fail
  refine (GG.out w1 hb1).mono ?_
  rintro e w3b ⟨gv, ov, rfl, hog, hoo, hst⟩
  clear c0 c1 c2 ch cl
  have hlo : w.heap.size + 1 + 1 ≤ w1.heap.size := by omega
  have hb' : Below w.heap.size w w3b := hb1.trans (hst.mono hb1.size)
  have hst' := hst.size
  have y0' := y0.below hst y0.lt
  have y1' := y1.below hst y1.lt
  clear hst hb1 y0 y1
  have hb1 := hb'
  clear hb'
  have y0 := y0'
  clear y0'
  have y1 := y1'
  clear y1'
  obtain ⟨gva, gvc, hgv⟩ := own_shape hog
  obtain ⟨ova, ovc, hov⟩ := own_shape hoo
  subst hgv hov
  have hB : Bld (w3b.alloc (.cells #[.int .i64 c.1, .slice gva c.2.1.length gvc, .slice ova c.2.2.length ovc] 126)) w1.heap.size w3b.heap.size w3b.heap.size 126 c := ⟨hst', _, _, box3_alloc _ _ _ _ _, hog.alloc _, hoo.alloc _, fun k' hk' => (own_block hoo hk').2⟩
  have hb1a : Below w.heap.size w (w3b.alloc (.cells #[.int .i64 c.1, .slice gva c.2.1.length gvc, .slice ova c.2.2.length ovc] 126)) := hb1.alloc hb1.size _
  have y0a := y0.alloc (.cells #[.int .i64 c.1, .slice gva c.2.1.length gvc, .slice ova c.2.2.length ovc] 126)
  have y1a := y1.alloc (.cells #[.int .i64 c.1, .slice gva c.2.1.length gvc, .slice ova c.2.2.length ovc] 126)
  have hsza : (w3b.alloc (.cells #[.int .i64 c.1, .slice gva c.2.1.length gvc, .slice ova c.2.2.length ovc] 126)).heap.size = w3b.heap.size + 1 := by simp only [World.size_alloc]
  go_wp2_with fail
  generalize (w3b.alloc (.cells #[.int .i64 c.1, .slice gva c.2.1.length gvc, .slice ova c.2.2.length ovc] 126)) = w4 at *
  have hhi : w3b.heap.size ≤ w4.heap.size := by omega
  clear hb1 y0 y1 hog hoo hsza
  have hb1 := hb1a
  clear hb1a
  have y0 := y0a
  clear y0a
  have y1 := y1a
  clear y1a
  refine (GL.out w1.heap.size w3b.heap.size w3b.heap.size w4 hB hhi (by omega) hb1).mono ?_
  rintro e w5 ⟨rfl, hB5, hs5⟩
  have hst : Below w.heap.size w w5 := hb1.trans (hs5.mono (by omega))
  have y1' := y1.below hs5 (by omega)
  have hs5' := hs5.size
  obtain ⟨gsl, osl, hx5, hat, hog5, hoo5, hob5⟩ := hB5.reads hfit hDs.1 (by omega) (by omega)
  clear hB hB5 y0 y1 hs5 GG GL hb1
  have hb1 := hst
  clear hst
  have y1 := y1'
  clear y1'
  obtain ⟨sga, sgc, hsg⟩ := own_shape hog5
  obtain ⟨soa, soc, hso⟩ := own_shape hoo5
  subst hsg hso
  have hblo : w1.heap.size ≤ w3b.heap.size := by first | exact hst' | omega
  obtain ⟨c0, c1, c2⟩ := hx5.cells
  have ch := hx5.heap
  have cl := hx5.lt
  go_wp2_with fail
  refine (HGO.out _ w5 hat).mono ?_
  rintro e w6 ⟨rfl, hst⟩
  have hb' : Below w.heap.size w w6 := hb1.trans (hst.mono hb1.size)
  have y1' := y1.below hst y1.lt
  have hx6 := hx5.below hst hx5.lt
  have hog6 := owns_below hog5 hst
  have hoo6 := owns_below hoo5 hst
  have hst6 := hst.size
  clear hst hb1 y1 hx5 hog5 hoo5 hat HGO c0 c1 c2 ch cl
  have hb1 := hb'
  clear hb'
  have y1 := y1'
  clear y1'
  have y0 := True.intro
  clear y0
  obtain ⟨r0, r1, r2⟩ := y1.cells
  have rh := y1.heap
  have rl := y1.lt
  have rf0 := y1.frozen 0
  have rf1 := y1.frozen 1
  have rf2 := y1.frozen 2
  go_wp2_with fail
  have z1 := ((y1.set0 (.int .i64 0)).set1 (.slice none 0 0)).set2 (.slice none 0 0)
  have hbz := ((hb1.setCell (p := ⟨w.heap.size + 1, 0, none⟩) (Nat.le_succ _) (.int .i64 0)).setCell (p := ⟨w.heap.size + 1, 1, none⟩) (Nat.le_succ _) (.slice none 0 0)).setCell (p := ⟨w.heap.size + 1, 2, none⟩) (Nat.le_succ _) (.slice none 0 0)
  refine bodyPost_ret (results_c2 rfl _ _ (w.heap.size + 1) 27 _ (0, 0) _ rfl z1.heap Try.underlying27 rfl (by kernel_rfl)) rfl ?_
  exact ⟨_, rfl, ⟨_, _, rfl, rowIn_of (World.ownsRow_nil _ _ _ _), rowIn_of (World.ownsRow_nil _ _ _ _)⟩, hbz⟩
set_option maxRecDepth 100000 in
set_option maxHeartbeats 8000000 in
theorem sLessGates_yes (v av bv : Value) (c : Ci) (a b : List Int) (hsd : sidesB c a b = true) (hgD : goodC (lessC c a b) = true) (w : World) (h : AtC w v c) (ha : AtIS w av a) (hb : AtIS w bv b) :
    Calls Try.prog 33 #[v, av, bv] w fun e w' => ∃ r, e = .returned (.tuple #[r, .int .i64 (onW (wiresN c) (wiresN c + 1) 6 5 a.length), .bool true]) ∧ OwnCirc w' w.heap.size w'.heap.size r (lessC c a b) ∧ Below w.heap.size w w' := by
  obtain ⟨hgd, hl, h16, _, _⟩ := sides_parts hsd
  obtain ⟨hI0, hI1, hG, hO, _, _⟩ := goodC_ins hgd
  obtain ⟨ga, gn, gc, oa, on, oc, hv⟩ := h.at.shape
  have hgn : gn = c.2.1.length := by
    obtain ⟨_, g, o, hv', h1, _⟩ := h
    obtain ⟨a', cap, hg⟩ := h1.shape
    rw [hv] at hv'
    rw [hg] at hv'
    simp at hv'
    exact hv'.1.2.1
  subst hv
  obtain ⟨aa, ac, hav⟩ := ha.1.shape
  obtain ⟨ba, bc, hbv⟩ := hb.1.shape
  have hb0 : Below w.heap.size w ((w.alloc (.cells #[.int .i64 c.1, .slice ga gn gc, .slice oa on oc] 27)).alloc (.cells #[.int .i64 0, .slice none 0 0, .slice none 0 0] 27)) := below2 _ _ _
  have x0 := (box3_alloc w 27 (.int .i64 c.1) (.slice ga gn gc) (.slice oa on oc)).alloc (.cells #[.int .i64 0, .slice none 0 0, .slice none 0 0] 27)
  have x1 := box3_alloc (w.alloc (.cells #[.int .i64 c.1, .slice ga gn gc, .slice oa on oc] 27)) 27 (.int .i64 0) (.slice none 0 0) (.slice none 0 0)
  simp only [World.size_alloc] at x1
  have g1 := sSides_any _ _ _ c a b _ (h.below hb0).at (ha.1.below hb0) (hb.1.below hb0)
  rw [hsd] at g1
  have hsz : ((w.alloc (.cells #[.int .i64 c.1, .slice ga gn gc, .slice oa on oc] 27)).alloc (.cells #[.int .i64 0, .slice none 0 0, .slice none 0 0] 27)).heap.size = w.heap.size + 1 + 1 := by simp only [World.size_alloc]
  have GG : Hid (∀ w1 : World, Below w.heap.size w w1 → Calls Try.prog 101 #[.agg #[.int .i64 c.1, .slice ga gn gc, .slice oa on oc]] w1 fun e w' => ∃ gv ov, e = .returned (.agg #[.int .i64 c.1, gv, ov]) ∧ w'.ownsRow w1.heap.size 128 3 gv c.2.1.length (flat3 c.2.1) ∧ w'.ownsRow w1.heap.size 3 1 ov c.2.2.length (cellsI c.2.2) ∧ Below w1.heap.size w1 w') := fun w1 hw => l4Own_any _ c hI0 hI1 hG hO w1 (h.below hw)
  have GL : Hid (∀ (lo hi bl : Nat) (w1 : World), Bld w1 lo hi bl 126 c → hi ≤ w1.heap.size → w.heap.size ≤ lo → Below w.heap.size w w1 → Calls Try.prog 110 #[.pointer (some ⟨bl, 0, none⟩), av, bv] w1 fun e w' => e = .returned (.int .i64 (onW (wiresN c) (wiresN c + 1) 6 5 a.length)) ∧ Bld w' lo hi bl 126 (lessC c a b) ∧ Below lo w1 w') := fun lo hi bl w1 hB hhi hlo hb' => sLess_any lo hi bl c.1 c.2.1 c.2.2 av bv a b (wiresN c) rfl hI0 hI1 hG hl h16 w1 hB hhi (fun w' hw => ha.1.below (hb'.trans (hw.mono hlo))) (fun w' hw => hb.1.below (hb'.trans (hw.mono hlo)))
  have HGO : Hid (∀ (u : Value) (w1 : World), AtCirc w1 u (lessC c a b) → Calls Try.prog 25 #[u] w1 fun e w' => e = .returned (.bool true) ∧ Below w1.heap.size w1 w') := fun u w1 h1 => by
    have g := sGood_any u _ w1 h1
    rw [hgD] at g
    exact g
  have hfit : Fit (lessC c a b).1 := h.1
  have hDs := lessC_sm hsd
  have hD2 : (lessC c a b).2.2.length ≤ 16 := hO
  rw [hav, hbv] at GL
  obtain ⟨DD, hDD⟩ : ∃ DD, (lessC c a b) = DD := ⟨_, rfl⟩
  rw [hDD] at GL HGO hfit hDs hD2 ⊢
  obtain ⟨AN, hAN⟩ : ∃ AN : Int, onW (wiresN c) (wiresN c + 1) 6 5 a.length = AN := ⟨_, rfl⟩
  rw [hAN] at GL ⊢
  clear hAN
  clear hDD hgD
  subst hav hbv
  clear hgn h ha hb hsd hl h16
  generalize a.length = an at *
  generalize b.length = bn at *
  go_enter Try.func33, Try.ntmps33
  go_wp2_with fail
  refine g1.mono ?_
  rintro e w1 ⟨rfl, hs⟩
  have hb1 := Below.step hb0 hb0.size hs
  have y0 := x0.below hs (by omega)
  have y1 := x1.below hs (by omega)
  have hsz1 := hs.size
  rw [hsz] at hsz1
  clear g1 hs hb0 x0 x1 hsz
  obtain ⟨c0, c1, c2⟩ := y0.cells
  have ch := y0.heap
  have cl := y0.lt
  go_wp2_with fail
  refine (GG.out w1 hb1).mono ?_
  rintro e w3b ⟨gv, ov, rfl, hog, hoo, hst⟩
  clear c0 c1 c2 ch cl
  have hlo : w.heap.size + 1 + 1 ≤ w1.heap.size := by omega
  have hb' : Below w.heap.size w w3b := hb1.trans (hst.mono hb1.size)
  have hst' := hst.size
  have y0' := y0.below hst y0.lt
  have y1' := y1.below hst y1.lt
  clear hst hb1 y0 y1
  have hb1 := hb'
  clear hb'
  have y0 := y0'
  clear y0'
  have y1 := y1'
  clear y1'
  obtain ⟨gva, gvc, hgv⟩ := own_shape hog
  obtain ⟨ova, ovc, hov⟩ := own_shape hoo
  subst hgv hov
  have hB : Bld (w3b.alloc (.cells #[.int .i64 c.1, .slice gva c.2.1.length gvc, .slice ova c.2.2.length ovc] 126)) w1.heap.size w3b.heap.size w3b.heap.size 126 c := ⟨hst', _, _, box3_alloc _ _ _ _ _, hog.alloc _, hoo.alloc _, fun k' hk' => (own_block hoo hk').2⟩
  have hb1a : Below w.heap.size w (w3b.alloc (.cells #[.int .i64 c.1, .slice gva c.2.1.length gvc, .slice ova c.2.2.length ovc] 126)) := hb1.alloc hb1.size _
  have y0a := y0.alloc (.cells #[.int .i64 c.1, .slice gva c.2.1.length gvc, .slice ova c.2.2.length ovc] 126)
  have y1a := y1.alloc (.cells #[.int .i64 c.1, .slice gva c.2.1.length gvc, .slice ova c.2.2.length ovc] 126)
  have hsza : (w3b.alloc (.cells #[.int .i64 c.1, .slice gva c.2.1.length gvc, .slice ova c.2.2.length ovc] 126)).heap.size = w3b.heap.size + 1 := by simp only [World.size_alloc]
  go_wp2_with fail
  generalize (w3b.alloc (.cells #[.int .i64 c.1, .slice gva c.2.1.length gvc, .slice ova c.2.2.length ovc] 126)) = w4 at *
  have hhi : w3b.heap.size ≤ w4.heap.size := by omega
  clear hb1 y0 y1 hog hoo hsza
  have hb1 := hb1a
  clear hb1a
  have y0 := y0a
  clear y0a
  have y1 := y1a
  clear y1a
  refine (GL.out w1.heap.size w3b.heap.size w3b.heap.size w4 hB hhi (by omega) hb1).mono ?_
  rintro e w5 ⟨rfl, hB5, hs5⟩
  have hst : Below w.heap.size w w5 := hb1.trans (hs5.mono (by omega))
  have y1' := y1.below hs5 (by omega)
  have hs5' := hs5.size
  obtain ⟨gsl, osl, hx5, hat, hog5, hoo5, hob5⟩ := hB5.reads hfit hDs.1 (by omega) (by omega)
  clear hB hB5 y0 y1 hs5 GG GL hb1
  have hb1 := hst
  clear hst
  have y1 := y1'
  clear y1'
  obtain ⟨sga, sgc, hsg⟩ := own_shape hog5
  obtain ⟨soa, soc, hso⟩ := own_shape hoo5
  subst hsg hso
  have hblo : w1.heap.size ≤ w3b.heap.size := by first | exact hst' | omega
  obtain ⟨c0, c1, c2⟩ := hx5.cells
  have ch := hx5.heap
  have cl := hx5.lt
  go_wp2_with fail
  refine (HGO.out _ w5 hat).mono ?_
  rintro e w6 ⟨rfl, hst⟩
  have hb' : Below w.heap.size w w6 := hb1.trans (hst.mono hb1.size)
  have y1' := y1.below hst y1.lt
  have hx6 := hx5.below hst hx5.lt
  have hog6 := owns_below hog5 hst
  have hoo6 := owns_below hoo5 hst
  have hst6 := hst.size
  clear hst hb1 y1 hx5 hog5 hoo5 hat HGO c0 c1 c2 ch cl
  have hb1 := hb'
  clear hb'
  have y1 := y1'
  clear y1'
  obtain ⟨c0, c1, c2⟩ := hx6.cells
  have ch := hx6.heap
  have cl := hx6.lt
  obtain ⟨r0, r1, r2⟩ := y1.cells
  have rh := y1.heap
  have rl := y1.lt
  have rf0 := y1.frozen 0
  have rf1 := y1.frozen 1
  have rf2 := y1.frozen 2
  have hgl : DD.2.1.length ≤ 500 := hDs.2
  have HZ : Hid _ := ((y1.set0 (.int .i64 DD.1)).set1 (.slice sga DD.2.1.length sgc)).set2 (.slice soa DD.2.2.length soc)
  have HBZ : Hid _ := ((hb1.setCell (p := ⟨w.heap.size + 1, 0, none⟩) (Nat.le_succ _) (.int .i64 DD.1)).setCell (p := ⟨w.heap.size + 1, 1, none⟩) (Nat.le_succ _) (.slice sga DD.2.1.length sgc)).setCell (p := ⟨w.heap.size + 1, 2, none⟩) (Nat.le_succ _) (.slice soa DD.2.2.length soc)
  have HGZ : Hid _ := own_set (b := w.heap.size + 1) (o := 2) (u := .slice soa DD.2.2.length soc) (own_set (b := w.heap.size + 1) (o := 1) (u := .slice sga DD.2.1.length sgc) (own_set (b := w.heap.size + 1) (o := 0) (u := .int .i64 DD.1) hog6 (by omega)) (by omega)) (by omega)
  have HOZ : Hid _ := own_set (b := w.heap.size + 1) (o := 2) (u := .slice soa DD.2.2.length soc) (own_set (b := w.heap.size + 1) (o := 1) (u := .slice sga DD.2.1.length sgc) (own_set (b := w.heap.size + 1) (o := 0) (u := .int .i64 DD.1) hoo6 (by omega)) (by omega)) (by omega)
  have hne : w3b.heap.size ≠ w.heap.size + 1 := by omega
  clear hx6 y1 hog6 hoo6 hb1 hob5
  generalize hdg : DD.2.1.length = dg at *
  generalize hdo : DD.2.2.length = dq at *
  go_wp2_with fail
  refine bodyPost_ret (results_c2 rfl _ _ (w.heap.size + 1) 27 _ (0, 0) _ rfl HZ.out.heap Try.underlying27 rfl (by kernel_rfl)) rfl ?_
  exact ⟨_, rfl, ⟨.slice sga dg sgc, .slice soa dq soc, rfl, by rw [hdg]; exact rowIn_of (own_base HGZ.out (by omega)), by rw [hdo]; exact rowIn_of (own_base HOZ.out (by omega))⟩, HBZ.out⟩
set_option maxRecDepth 100000 in
set_option maxHeartbeats 8000000 in
theorem sEqGates_bad (v av bv : Value) (c : Ci) (a b : List Int) (hsd : sidesB c a b = false) (w : World) (h : AtC w v c) (ha : AtIS w av a) (hb : AtIS w bv b) :
    Calls Try.prog 35 #[v, av, bv] w fun e w' => ∃ r, e = .returned (.tuple #[r, .int .i64 0, .bool false]) ∧ OwnCirc w' w.heap.size w'.heap.size r (0, [], []) ∧ Below w.heap.size w w' := by
  obtain ⟨ga, gn, gc, oa, on, oc, hv⟩ := h.at.shape
  have hgn : gn = c.2.1.length := by
    obtain ⟨_, g, o, hv', h1, _⟩ := h
    obtain ⟨a', cap, hg⟩ := h1.shape
    rw [hv] at hv'
    rw [hg] at hv'
    simp at hv'
    exact hv'.1.2.1
  subst hv
  obtain ⟨aa, ac, hav⟩ := ha.1.shape
  obtain ⟨ba, bc, hbv⟩ := hb.1.shape
  have hb0 : Below w.heap.size w ((w.alloc (.cells #[.int .i64 c.1, .slice ga gn gc, .slice oa on oc] 27)).alloc (.cells #[.int .i64 0, .slice none 0 0, .slice none 0 0] 27)) := below2 _ _ _
  have x0 := (box3_alloc w 27 (.int .i64 c.1) (.slice ga gn gc) (.slice oa on oc)).alloc (.cells #[.int .i64 0, .slice none 0 0, .slice none 0 0] 27)
  have x1 := box3_alloc (w.alloc (.cells #[.int .i64 c.1, .slice ga gn gc, .slice oa on oc] 27)) 27 (.int .i64 0) (.slice none 0 0) (.slice none 0 0)
  simp only [World.size_alloc] at x1
  have g1 := sSides_any _ _ _ c a b _ (h.below hb0).at (ha.1.below hb0) (hb.1.below hb0)
  rw [hsd] at g1
  have hsz : ((w.alloc (.cells #[.int .i64 c.1, .slice ga gn gc, .slice oa on oc] 27)).alloc (.cells #[.int .i64 0, .slice none 0 0, .slice none 0 0] 27)).heap.size = w.heap.size + 1 + 1 := by simp only [World.size_alloc]
  subst hav hbv
  clear hgn h ha hb
  generalize a.length = an at *
  generalize b.length = bn at *
  go_enter Try.func35, Try.ntmps35
  go_wp2_with fail
  refine g1.mono ?_
  rintro e w1 ⟨rfl, hs⟩
  have hb1 := Below.step hb0 hb0.size hs
  have y0 := x0.below hs (by omega)
  have y1 := x1.below hs (by omega)
  have hsz1 := hs.size
  rw [hsz] at hsz1
  clear g1 hs hb0 x0 x1 hsz
  clear y0
  obtain ⟨r0, r1, r2⟩ := y1.cells
  have rh := y1.heap
  have rl := y1.lt
  have rf0 := y1.frozen 0
  have rf1 := y1.frozen 1
  have rf2 := y1.frozen 2
  go_wp2_with fail
  have z1 := ((y1.set0 (.int .i64 0)).set1 (.slice none 0 0)).set2 (.slice none 0 0)
  have hbz := ((hb1.setCell (p := ⟨w.heap.size + 1, 0, none⟩) (Nat.le_succ _) (.int .i64 0)).setCell (p := ⟨w.heap.size + 1, 1, none⟩) (Nat.le_succ _) (.slice none 0 0)).setCell (p := ⟨w.heap.size + 1, 2, none⟩) (Nat.le_succ _) (.slice none 0 0)
  refine bodyPost_ret (results_c2 rfl _ _ (w.heap.size + 1) 27 _ (0, 0) _ rfl z1.heap Try.underlying27 rfl (by kernel_rfl)) rfl ?_
  exact ⟨_, rfl, ⟨_, _, rfl, rowIn_of (World.ownsRow_nil _ _ _ _), rowIn_of (World.ownsRow_nil _ _ _ _)⟩, hbz⟩
set_option maxRecDepth 100000 in
set_option maxHeartbeats 8000000 in
theorem sEqGates_no (v av bv : Value) (c : Ci) (a b : List Int) (hsd : sidesB c a b = true) (hgD : goodC (eqC c a b) = false) (w : World) (h : AtC w v c) (ha : AtIS w av a) (hb : AtIS w bv b) :
    Calls Try.prog 35 #[v, av, bv] w fun e w' => ∃ r, e = .returned (.tuple #[r, .int .i64 0, .bool false]) ∧ OwnCirc w' w.heap.size w'.heap.size r (0, [], []) ∧ Below w.heap.size w w' := by
  obtain ⟨hgd, hl, h16, _, _⟩ := sides_parts hsd
  obtain ⟨hI0, hI1, hG, hO, _, _⟩ := goodC_ins hgd
  obtain ⟨ga, gn, gc, oa, on, oc, hv⟩ := h.at.shape
  have hgn : gn = c.2.1.length := by
    obtain ⟨_, g, o, hv', h1, _⟩ := h
    obtain ⟨a', cap, hg⟩ := h1.shape
    rw [hv] at hv'
    rw [hg] at hv'
    simp at hv'
    exact hv'.1.2.1
  subst hv
  obtain ⟨aa, ac, hav⟩ := ha.1.shape
  obtain ⟨ba, bc, hbv⟩ := hb.1.shape
  have hb0 : Below w.heap.size w ((w.alloc (.cells #[.int .i64 c.1, .slice ga gn gc, .slice oa on oc] 27)).alloc (.cells #[.int .i64 0, .slice none 0 0, .slice none 0 0] 27)) := below2 _ _ _
  have x0 := (box3_alloc w 27 (.int .i64 c.1) (.slice ga gn gc) (.slice oa on oc)).alloc (.cells #[.int .i64 0, .slice none 0 0, .slice none 0 0] 27)
  have x1 := box3_alloc (w.alloc (.cells #[.int .i64 c.1, .slice ga gn gc, .slice oa on oc] 27)) 27 (.int .i64 0) (.slice none 0 0) (.slice none 0 0)
  simp only [World.size_alloc] at x1
  have g1 := sSides_any _ _ _ c a b _ (h.below hb0).at (ha.1.below hb0) (hb.1.below hb0)
  rw [hsd] at g1
  have hsz : ((w.alloc (.cells #[.int .i64 c.1, .slice ga gn gc, .slice oa on oc] 27)).alloc (.cells #[.int .i64 0, .slice none 0 0, .slice none 0 0] 27)).heap.size = w.heap.size + 1 + 1 := by simp only [World.size_alloc]
  have GG : Hid (∀ w1 : World, Below w.heap.size w w1 → Calls Try.prog 101 #[.agg #[.int .i64 c.1, .slice ga gn gc, .slice oa on oc]] w1 fun e w' => ∃ gv ov, e = .returned (.agg #[.int .i64 c.1, gv, ov]) ∧ w'.ownsRow w1.heap.size 128 3 gv c.2.1.length (flat3 c.2.1) ∧ w'.ownsRow w1.heap.size 3 1 ov c.2.2.length (cellsI c.2.2) ∧ Below w1.heap.size w1 w') := fun w1 hw => l4Own_any _ c hI0 hI1 hG hO w1 (h.below hw)
  have GL : Hid (∀ (lo hi bl : Nat) (w1 : World), Bld w1 lo hi bl 126 c → hi ≤ w1.heap.size → w.heap.size ≤ lo → Below w.heap.size w w1 → Calls Try.prog 112 #[.pointer (some ⟨bl, 0, none⟩), av, bv] w1 fun e w' => e = .returned (.int .i64 (onW (wiresN c) (wiresN c + 1) 3 2 a.length)) ∧ Bld w' lo hi bl 126 (eqC c a b) ∧ Below lo w1 w') := fun lo hi bl w1 hB hhi hlo hb' => sEq_any lo hi bl c.1 c.2.1 c.2.2 av bv a b (wiresN c) rfl hI0 hI1 hG hl h16 w1 hB hhi (fun w' hw => ha.1.below (hb'.trans (hw.mono hlo))) (fun w' hw => hb.1.below (hb'.trans (hw.mono hlo)))
  have HGO : Hid (∀ (u : Value) (w1 : World), AtCirc w1 u (eqC c a b) → Calls Try.prog 25 #[u] w1 fun e w' => e = .returned (.bool false) ∧ Below w1.heap.size w1 w') := fun u w1 h1 => by
    have g := sGood_any u _ w1 h1
    rw [hgD] at g
    exact g
  have hfit : Fit (eqC c a b).1 := h.1
  have hDs := eqC_sm hsd
  have hD2 : (eqC c a b).2.2.length ≤ 16 := hO
  rw [hav, hbv] at GL
  obtain ⟨DD, hDD⟩ : ∃ DD, (eqC c a b) = DD := ⟨_, rfl⟩
  rw [hDD] at GL HGO hfit hDs hD2
  obtain ⟨AN, hAN⟩ : ∃ AN : Int, onW (wiresN c) (wiresN c + 1) 3 2 a.length = AN := ⟨_, rfl⟩
  rw [hAN] at GL
  clear hAN
  clear hDD hgD
  subst hav hbv
  clear hgn h ha hb hsd hl h16
  generalize a.length = an at *
  generalize b.length = bn at *
  go_enter Try.func35, Try.ntmps35
  go_wp2_with fail
  refine g1.mono ?_
  rintro e w1 ⟨rfl, hs⟩
  have hb1 := Below.step hb0 hb0.size hs
  have y0 := x0.below hs (by omega)
  have y1 := x1.below hs (by omega)
  have hsz1 := hs.size
  rw [hsz] at hsz1
  clear g1 hs hb0 x0 x1 hsz
  obtain ⟨c0, c1, c2⟩ := y0.cells
  have ch := y0.heap
  have cl := y0.lt
  go_wp2_with fail
  refine (GG.out w1 hb1).mono ?_
  rintro e w3b ⟨gv, ov, rfl, hog, hoo, hst⟩
  clear c0 c1 c2 ch cl
  have hlo : w.heap.size + 1 + 1 ≤ w1.heap.size := by omega
  have hb' : Below w.heap.size w w3b := hb1.trans (hst.mono hb1.size)
  have hst' := hst.size
  have y0' := y0.below hst y0.lt
  have y1' := y1.below hst y1.lt
  clear hst hb1 y0 y1
  have hb1 := hb'
  clear hb'
  have y0 := y0'
  clear y0'
  have y1 := y1'
  clear y1'
  obtain ⟨gva, gvc, hgv⟩ := own_shape hog
  obtain ⟨ova, ovc, hov⟩ := own_shape hoo
  subst hgv hov
  have hB : Bld (w3b.alloc (.cells #[.int .i64 c.1, .slice gva c.2.1.length gvc, .slice ova c.2.2.length ovc] 126)) w1.heap.size w3b.heap.size w3b.heap.size 126 c := ⟨hst', _, _, box3_alloc _ _ _ _ _, hog.alloc _, hoo.alloc _, fun k' hk' => (own_block hoo hk').2⟩
  have hb1a : Below w.heap.size w (w3b.alloc (.cells #[.int .i64 c.1, .slice gva c.2.1.length gvc, .slice ova c.2.2.length ovc] 126)) := hb1.alloc hb1.size _
  have y0a := y0.alloc (.cells #[.int .i64 c.1, .slice gva c.2.1.length gvc, .slice ova c.2.2.length ovc] 126)
  have y1a := y1.alloc (.cells #[.int .i64 c.1, .slice gva c.2.1.length gvc, .slice ova c.2.2.length ovc] 126)
  have hsza : (w3b.alloc (.cells #[.int .i64 c.1, .slice gva c.2.1.length gvc, .slice ova c.2.2.length ovc] 126)).heap.size = w3b.heap.size + 1 := by simp only [World.size_alloc]
  go_wp2_with fail
  generalize (w3b.alloc (.cells #[.int .i64 c.1, .slice gva c.2.1.length gvc, .slice ova c.2.2.length ovc] 126)) = w4 at *
  have hhi : w3b.heap.size ≤ w4.heap.size := by omega
  clear hb1 y0 y1 hog hoo hsza
  have hb1 := hb1a
  clear hb1a
  have y0 := y0a
  clear y0a
  have y1 := y1a
  clear y1a
  refine (GL.out w1.heap.size w3b.heap.size w3b.heap.size w4 hB hhi (by omega) hb1).mono ?_
  rintro e w5 ⟨rfl, hB5, hs5⟩
  have hst : Below w.heap.size w w5 := hb1.trans (hs5.mono (by omega))
  have y1' := y1.below hs5 (by omega)
  have hs5' := hs5.size
  obtain ⟨gsl, osl, hx5, hat, hog5, hoo5, hob5⟩ := hB5.reads hfit hDs.1 (by omega) (by omega)
  clear hB hB5 y0 y1 hs5 GG GL hb1
  have hb1 := hst
  clear hst
  have y1 := y1'
  clear y1'
  obtain ⟨sga, sgc, hsg⟩ := own_shape hog5
  obtain ⟨soa, soc, hso⟩ := own_shape hoo5
  subst hsg hso
  have hblo : w1.heap.size ≤ w3b.heap.size := by first | exact hst' | omega
  obtain ⟨c0, c1, c2⟩ := hx5.cells
  have ch := hx5.heap
  have cl := hx5.lt
  go_wp2_with fail
  refine (HGO.out _ w5 hat).mono ?_
  rintro e w6 ⟨rfl, hst⟩
  have hb' : Below w.heap.size w w6 := hb1.trans (hst.mono hb1.size)
  have y1' := y1.below hst y1.lt
  have hx6 := hx5.below hst hx5.lt
  have hog6 := owns_below hog5 hst
  have hoo6 := owns_below hoo5 hst
  have hst6 := hst.size
  clear hst hb1 y1 hx5 hog5 hoo5 hat HGO c0 c1 c2 ch cl
  have hb1 := hb'
  clear hb'
  have y1 := y1'
  clear y1'
  have y0 := True.intro
  clear y0
  obtain ⟨r0, r1, r2⟩ := y1.cells
  have rh := y1.heap
  have rl := y1.lt
  have rf0 := y1.frozen 0
  have rf1 := y1.frozen 1
  have rf2 := y1.frozen 2
  go_wp2_with fail
  have z1 := ((y1.set0 (.int .i64 0)).set1 (.slice none 0 0)).set2 (.slice none 0 0)
  have hbz := ((hb1.setCell (p := ⟨w.heap.size + 1, 0, none⟩) (Nat.le_succ _) (.int .i64 0)).setCell (p := ⟨w.heap.size + 1, 1, none⟩) (Nat.le_succ _) (.slice none 0 0)).setCell (p := ⟨w.heap.size + 1, 2, none⟩) (Nat.le_succ _) (.slice none 0 0)
  refine bodyPost_ret (results_c2 rfl _ _ (w.heap.size + 1) 27 _ (0, 0) _ rfl z1.heap Try.underlying27 rfl (by kernel_rfl)) rfl ?_
  exact ⟨_, rfl, ⟨_, _, rfl, rowIn_of (World.ownsRow_nil _ _ _ _), rowIn_of (World.ownsRow_nil _ _ _ _)⟩, hbz⟩
set_option maxRecDepth 100000 in
set_option maxHeartbeats 8000000 in
theorem sEqGates_yes (v av bv : Value) (c : Ci) (a b : List Int) (hsd : sidesB c a b = true) (hgD : goodC (eqC c a b) = true) (w : World) (h : AtC w v c) (ha : AtIS w av a) (hb : AtIS w bv b) :
    Calls Try.prog 35 #[v, av, bv] w fun e w' => ∃ r, e = .returned (.tuple #[r, .int .i64 (onW (wiresN c) (wiresN c + 1) 3 2 a.length), .bool true]) ∧ OwnCirc w' w.heap.size w'.heap.size r (eqC c a b) ∧ Below w.heap.size w w' := by
  obtain ⟨hgd, hl, h16, _, _⟩ := sides_parts hsd
  obtain ⟨hI0, hI1, hG, hO, _, _⟩ := goodC_ins hgd
  obtain ⟨ga, gn, gc, oa, on, oc, hv⟩ := h.at.shape
  have hgn : gn = c.2.1.length := by
    obtain ⟨_, g, o, hv', h1, _⟩ := h
    obtain ⟨a', cap, hg⟩ := h1.shape
    rw [hv] at hv'
    rw [hg] at hv'
    simp at hv'
    exact hv'.1.2.1
  subst hv
  obtain ⟨aa, ac, hav⟩ := ha.1.shape
  obtain ⟨ba, bc, hbv⟩ := hb.1.shape
  have hb0 : Below w.heap.size w ((w.alloc (.cells #[.int .i64 c.1, .slice ga gn gc, .slice oa on oc] 27)).alloc (.cells #[.int .i64 0, .slice none 0 0, .slice none 0 0] 27)) := below2 _ _ _
  have x0 := (box3_alloc w 27 (.int .i64 c.1) (.slice ga gn gc) (.slice oa on oc)).alloc (.cells #[.int .i64 0, .slice none 0 0, .slice none 0 0] 27)
  have x1 := box3_alloc (w.alloc (.cells #[.int .i64 c.1, .slice ga gn gc, .slice oa on oc] 27)) 27 (.int .i64 0) (.slice none 0 0) (.slice none 0 0)
  simp only [World.size_alloc] at x1
  have g1 := sSides_any _ _ _ c a b _ (h.below hb0).at (ha.1.below hb0) (hb.1.below hb0)
  rw [hsd] at g1
  have hsz : ((w.alloc (.cells #[.int .i64 c.1, .slice ga gn gc, .slice oa on oc] 27)).alloc (.cells #[.int .i64 0, .slice none 0 0, .slice none 0 0] 27)).heap.size = w.heap.size + 1 + 1 := by simp only [World.size_alloc]
  have GG : Hid (∀ w1 : World, Below w.heap.size w w1 → Calls Try.prog 101 #[.agg #[.int .i64 c.1, .slice ga gn gc, .slice oa on oc]] w1 fun e w' => ∃ gv ov, e = .returned (.agg #[.int .i64 c.1, gv, ov]) ∧ w'.ownsRow w1.heap.size 128 3 gv c.2.1.length (flat3 c.2.1) ∧ w'.ownsRow w1.heap.size 3 1 ov c.2.2.length (cellsI c.2.2) ∧ Below w1.heap.size w1 w') := fun w1 hw => l4Own_any _ c hI0 hI1 hG hO w1 (h.below hw)
  have GL : Hid (∀ (lo hi bl : Nat) (w1 : World), Bld w1 lo hi bl 126 c → hi ≤ w1.heap.size → w.heap.size ≤ lo → Below w.heap.size w w1 → Calls Try.prog 112 #[.pointer (some ⟨bl, 0, none⟩), av, bv] w1 fun e w' => e = .returned (.int .i64 (onW (wiresN c) (wiresN c + 1) 3 2 a.length)) ∧ Bld w' lo hi bl 126 (eqC c a b) ∧ Below lo w1 w') := fun lo hi bl w1 hB hhi hlo hb' => sEq_any lo hi bl c.1 c.2.1 c.2.2 av bv a b (wiresN c) rfl hI0 hI1 hG hl h16 w1 hB hhi (fun w' hw => ha.1.below (hb'.trans (hw.mono hlo))) (fun w' hw => hb.1.below (hb'.trans (hw.mono hlo)))
  have HGO : Hid (∀ (u : Value) (w1 : World), AtCirc w1 u (eqC c a b) → Calls Try.prog 25 #[u] w1 fun e w' => e = .returned (.bool true) ∧ Below w1.heap.size w1 w') := fun u w1 h1 => by
    have g := sGood_any u _ w1 h1
    rw [hgD] at g
    exact g
  have hfit : Fit (eqC c a b).1 := h.1
  have hDs := eqC_sm hsd
  have hD2 : (eqC c a b).2.2.length ≤ 16 := hO
  rw [hav, hbv] at GL
  obtain ⟨DD, hDD⟩ : ∃ DD, (eqC c a b) = DD := ⟨_, rfl⟩
  rw [hDD] at GL HGO hfit hDs hD2 ⊢
  obtain ⟨AN, hAN⟩ : ∃ AN : Int, onW (wiresN c) (wiresN c + 1) 3 2 a.length = AN := ⟨_, rfl⟩
  rw [hAN] at GL ⊢
  clear hAN
  clear hDD hgD
  subst hav hbv
  clear hgn h ha hb hsd hl h16
  generalize a.length = an at *
  generalize b.length = bn at *
  go_enter Try.func35, Try.ntmps35
  go_wp2_with fail
  refine g1.mono ?_
  rintro e w1 ⟨rfl, hs⟩
  have hb1 := Below.step hb0 hb0.size hs
  have y0 := x0.below hs (by omega)
  have y1 := x1.below hs (by omega)
  have hsz1 := hs.size
  rw [hsz] at hsz1
  clear g1 hs hb0 x0 x1 hsz
  obtain ⟨c0, c1, c2⟩ := y0.cells
  have ch := y0.heap
  have cl := y0.lt
  go_wp2_with fail
  refine (GG.out w1 hb1).mono ?_
  rintro e w3b ⟨gv, ov, rfl, hog, hoo, hst⟩
  clear c0 c1 c2 ch cl
  have hlo : w.heap.size + 1 + 1 ≤ w1.heap.size := by omega
  have hb' : Below w.heap.size w w3b := hb1.trans (hst.mono hb1.size)
  have hst' := hst.size
  have y0' := y0.below hst y0.lt
  have y1' := y1.below hst y1.lt
  clear hst hb1 y0 y1
  have hb1 := hb'
  clear hb'
  have y0 := y0'
  clear y0'
  have y1 := y1'
  clear y1'
  obtain ⟨gva, gvc, hgv⟩ := own_shape hog
  obtain ⟨ova, ovc, hov⟩ := own_shape hoo
  subst hgv hov
  have hB : Bld (w3b.alloc (.cells #[.int .i64 c.1, .slice gva c.2.1.length gvc, .slice ova c.2.2.length ovc] 126)) w1.heap.size w3b.heap.size w3b.heap.size 126 c := ⟨hst', _, _, box3_alloc _ _ _ _ _, hog.alloc _, hoo.alloc _, fun k' hk' => (own_block hoo hk').2⟩
  have hb1a : Below w.heap.size w (w3b.alloc (.cells #[.int .i64 c.1, .slice gva c.2.1.length gvc, .slice ova c.2.2.length ovc] 126)) := hb1.alloc hb1.size _
  have y0a := y0.alloc (.cells #[.int .i64 c.1, .slice gva c.2.1.length gvc, .slice ova c.2.2.length ovc] 126)
  have y1a := y1.alloc (.cells #[.int .i64 c.1, .slice gva c.2.1.length gvc, .slice ova c.2.2.length ovc] 126)
  have hsza : (w3b.alloc (.cells #[.int .i64 c.1, .slice gva c.2.1.length gvc, .slice ova c.2.2.length ovc] 126)).heap.size = w3b.heap.size + 1 := by simp only [World.size_alloc]
  go_wp2_with fail
  generalize (w3b.alloc (.cells #[.int .i64 c.1, .slice gva c.2.1.length gvc, .slice ova c.2.2.length ovc] 126)) = w4 at *
  have hhi : w3b.heap.size ≤ w4.heap.size := by omega
  clear hb1 y0 y1 hog hoo hsza
  have hb1 := hb1a
  clear hb1a
  have y0 := y0a
  clear y0a
  have y1 := y1a
  clear y1a
  refine (GL.out w1.heap.size w3b.heap.size w3b.heap.size w4 hB hhi (by omega) hb1).mono ?_
  rintro e w5 ⟨rfl, hB5, hs5⟩
  have hst : Below w.heap.size w w5 := hb1.trans (hs5.mono (by omega))
  have y1' := y1.below hs5 (by omega)
  have hs5' := hs5.size
  obtain ⟨gsl, osl, hx5, hat, hog5, hoo5, hob5⟩ := hB5.reads hfit hDs.1 (by omega) (by omega)
  clear hB hB5 y0 y1 hs5 GG GL hb1
  have hb1 := hst
  clear hst
  have y1 := y1'
  clear y1'
  obtain ⟨sga, sgc, hsg⟩ := own_shape hog5
  obtain ⟨soa, soc, hso⟩ := own_shape hoo5
  subst hsg hso
  have hblo : w1.heap.size ≤ w3b.heap.size := by first | exact hst' | omega
  obtain ⟨c0, c1, c2⟩ := hx5.cells
  have ch := hx5.heap
  have cl := hx5.lt
  go_wp2_with fail
  refine (HGO.out _ w5 hat).mono ?_
  rintro e w6 ⟨rfl, hst⟩
  have hb' : Below w.heap.size w w6 := hb1.trans (hst.mono hb1.size)
  have y1' := y1.below hst y1.lt
  have hx6 := hx5.below hst hx5.lt
  have hog6 := owns_below hog5 hst
  have hoo6 := owns_below hoo5 hst
  have hst6 := hst.size
  clear hst hb1 y1 hx5 hog5 hoo5 hat HGO c0 c1 c2 ch cl
  have hb1 := hb'
  clear hb'
  have y1 := y1'
  clear y1'
  obtain ⟨c0, c1, c2⟩ := hx6.cells
  have ch := hx6.heap
  have cl := hx6.lt
  obtain ⟨r0, r1, r2⟩ := y1.cells
  have rh := y1.heap
  have rl := y1.lt
  have rf0 := y1.frozen 0
  have rf1 := y1.frozen 1
  have rf2 := y1.frozen 2
  have hgl : DD.2.1.length ≤ 500 := hDs.2
  have HZ : Hid _ := ((y1.set0 (.int .i64 DD.1)).set1 (.slice sga DD.2.1.length sgc)).set2 (.slice soa DD.2.2.length soc)
  have HBZ : Hid _ := ((hb1.setCell (p := ⟨w.heap.size + 1, 0, none⟩) (Nat.le_succ _) (.int .i64 DD.1)).setCell (p := ⟨w.heap.size + 1, 1, none⟩) (Nat.le_succ _) (.slice sga DD.2.1.length sgc)).setCell (p := ⟨w.heap.size + 1, 2, none⟩) (Nat.le_succ _) (.slice soa DD.2.2.length soc)
  have HGZ : Hid _ := own_set (b := w.heap.size + 1) (o := 2) (u := .slice soa DD.2.2.length soc) (own_set (b := w.heap.size + 1) (o := 1) (u := .slice sga DD.2.1.length sgc) (own_set (b := w.heap.size + 1) (o := 0) (u := .int .i64 DD.1) hog6 (by omega)) (by omega)) (by omega)
  have HOZ : Hid _ := own_set (b := w.heap.size + 1) (o := 2) (u := .slice soa DD.2.2.length soc) (own_set (b := w.heap.size + 1) (o := 1) (u := .slice sga DD.2.1.length sgc) (own_set (b := w.heap.size + 1) (o := 0) (u := .int .i64 DD.1) hoo6 (by omega)) (by omega)) (by omega)
  have hne : w3b.heap.size ≠ w.heap.size + 1 := by omega
  clear hx6 y1 hog6 hoo6 hb1 hob5
  generalize hdg : DD.2.1.length = dg at *
  generalize hdo : DD.2.2.length = dq at *
  go_wp2_with fail
  refine bodyPost_ret (results_c2 rfl _ _ (w.heap.size + 1) 27 _ (0, 0) _ rfl HZ.out.heap Try.underlying27 rfl (by kernel_rfl)) rfl ?_
  exact ⟨_, rfl, ⟨.slice sga dg sgc, .slice soa dq soc, rfl, by rw [hdg]; exact rowIn_of (own_base HGZ.out (by omega)), by rw [hdo]; exact rowIn_of (own_base HOZ.out (by omega))⟩, HBZ.out⟩
end Go.Proofs.Ytpjllhlbdcanlaa

namespace Go.Proofs.Ytpjllhlbdcanlaa
open Go Go.RowKit
open M
set_option linter.unusedVariables false
set_option linter.unusedSimpArgs false

set_option maxRecDepth 100000 in
set_option maxHeartbeats 8000000 in
theorem sAddGates_bad (v av bv : Value) (c : Ci) (a b : List Int) (k : Int) (hfk : Fit k) (hsd : sidesB c a b = false) (w : World) (h : AtC w v c) (ha : AtIS w av a) (hb : AtIS w bv b) :
    Calls Try.prog 21 #[v, av, bv, .int .i64 k] w fun e w' => ∃ r0 r1, e = .returned (.tuple #[r0, r1, .bool false]) ∧ OwnCirc w' w.heap.size w'.heap.size r0 (0, [], []) ∧ OwnIS w' w.heap.size w'.heap.size r1 [] ∧ ApartIS r0 r1 ∧ Below w.heap.size w w' := by
  obtain ⟨ga, gn, gc, oa, on, oc, hv⟩ := h.at.shape
  have hgn : gn = c.2.1.length := by
    obtain ⟨_, g, o, hv', h1, _⟩ := h
    obtain ⟨a', cap, hg⟩ := h1.shape
    rw [hv] at hv'
    rw [hg] at hv'
    simp at hv'
    exact hv'.1.2.1
  subst hv
  obtain ⟨aa, ac, hav⟩ := ha.1.shape
  obtain ⟨ba, bc, hbv⟩ := hb.1.shape
  have hb0 : Below w.heap.size w ((w.alloc (.cells #[.int .i64 c.1, .slice ga gn gc, .slice oa on oc] 27)).alloc (.cells #[.int .i64 0, .slice none 0 0, .slice none 0 0] 27)) := below2 _ _ _
  have x0 := (box3_alloc w 27 (.int .i64 c.1) (.slice ga gn gc) (.slice oa on oc)).alloc (.cells #[.int .i64 0, .slice none 0 0, .slice none 0 0] 27)
  have x1 := box3_alloc (w.alloc (.cells #[.int .i64 c.1, .slice ga gn gc, .slice oa on oc] 27)) 27 (.int .i64 0) (.slice none 0 0) (.slice none 0 0)
  simp only [World.size_alloc] at x1
  have g1 := sSides_any _ _ _ c a b _ (h.below hb0).at (ha.1.below hb0) (hb.1.below hb0)
  rw [hsd] at g1
  have hsz : ((w.alloc (.cells #[.int .i64 c.1, .slice ga gn gc, .slice oa on oc] 27)).alloc (.cells #[.int .i64 0, .slice none 0 0, .slice none 0 0] 27)).heap.size = w.heap.size + 1 + 1 := by simp only [World.size_alloc]
  subst hav hbv
  clear hgn h ha hb
  generalize a.length = an at *
  generalize b.length = bn at *
  go_enter Try.func21, Try.ntmps21
  go_wp2_with fail
  refine g1.mono ?_
  rintro e w1 ⟨rfl, hs⟩
  have hb1 := Below.step hb0 hb0.size hs
  have y0 := x0.below hs (by omega)
  have y1 := x1.below hs (by omega)
  have hsz1 := hs.size
  rw [hsz] at hsz1
  clear g1 hs hb0 x0 x1 hsz
  clear y0
  obtain ⟨r0, r1, r2⟩ := y1.cells
  have rh := y1.heap
  have rl := y1.lt
  have rf0 := y1.frozen 0
  have rf1 := y1.frozen 1
  have rf2 := y1.frozen 2
  go_wp2_with fail
  have z1 := ((y1.set0 (.int .i64 0)).set1 (.slice none 0 0)).set2 (.slice none 0 0)
  have hbz := ((hb1.setCell (p := ⟨w.heap.size + 1, 0, none⟩) (Nat.le_succ _) (.int .i64 0)).setCell (p := ⟨w.heap.size + 1, 1, none⟩) (Nat.le_succ _) (.slice none 0 0)).setCell (p := ⟨w.heap.size + 1, 2, none⟩) (Nat.le_succ _) (.slice none 0 0)
  refine bodyPost_ret (results_c2 rfl _ _ (w.heap.size + 1) 27 _ (0, 0) _ rfl z1.heap Try.underlying27 rfl (by kernel_rfl)) rfl ?_
  exact ⟨_, _, rfl, ⟨_, _, rfl, rowIn_of (World.ownsRow_nil _ _ _ _), rowIn_of (World.ownsRow_nil _ _ _ _)⟩, rowIn_of (World.ownsRow_nil _ _ _ _), apart_nil _, hbz⟩
set_option maxRecDepth 100000 in
set_option maxHeartbeats 8000000 in
theorem sAddGates_badk (v av bv : Value) (c : Ci) (a b : List Int) (k : Int) (hfk : Fit k) (hsd : sidesB c a b = true) (hki : inB (wiresN c) k = false) (w : World) (h : AtC w v c) (ha : AtIS w av a) (hb : AtIS w bv b) :
    Calls Try.prog 21 #[v, av, bv, .int .i64 k] w fun e w' => ∃ r0 r1, e = .returned (.tuple #[r0, r1, .bool false]) ∧ OwnCirc w' w.heap.size w'.heap.size r0 (0, [], []) ∧ OwnIS w' w.heap.size w'.heap.size r1 [] ∧ ApartIS r0 r1 ∧ Below w.heap.size w w' := by
  obtain ⟨hgd, hl, h16, _, _⟩ := sides_parts hsd
  obtain ⟨hI0, hI1, hG, hO, _, _⟩ := goodC_ins hgd
  obtain ⟨ga, gn, gc, oa, on, oc, hv⟩ := h.at.shape
  have hgn : gn = c.2.1.length := by
    obtain ⟨_, g, o, hv', h1, _⟩ := h
    obtain ⟨a', cap, hg⟩ := h1.shape
    rw [hv] at hv'
    rw [hg] at hv'
    simp at hv'
    exact hv'.1.2.1
  subst hv
  obtain ⟨aa, ac, hav⟩ := ha.1.shape
  obtain ⟨ba, bc, hbv⟩ := hb.1.shape
  have hb0 : Below w.heap.size w ((w.alloc (.cells #[.int .i64 c.1, .slice ga gn gc, .slice oa on oc] 27)).alloc (.cells #[.int .i64 0, .slice none 0 0, .slice none 0 0] 27)) := below2 _ _ _
  have x0 := (box3_alloc w 27 (.int .i64 c.1) (.slice ga gn gc) (.slice oa on oc)).alloc (.cells #[.int .i64 0, .slice none 0 0, .slice none 0 0] 27)
  have x1 := box3_alloc (w.alloc (.cells #[.int .i64 c.1, .slice ga gn gc, .slice oa on oc] 27)) 27 (.int .i64 0) (.slice none 0 0) (.slice none 0 0)
  simp only [World.size_alloc] at x1
  have g1 := sSides_any _ _ _ c a b _ (h.below hb0).at (ha.1.below hb0) (hb.1.below hb0)
  rw [hsd] at g1
  have hsz : ((w.alloc (.cells #[.int .i64 c.1, .slice ga gn gc, .slice oa on oc] 27)).alloc (.cells #[.int .i64 0, .slice none 0 0, .slice none 0 0] 27)).heap.size = w.heap.size + 1 + 1 := by simp only [World.size_alloc]
  have GW : Hid (∀ w1 : World, Calls Try.prog 93 #[.agg #[.int .i64 c.1, .slice ga gn gc, .slice oa on oc]] w1 fun e w' => e = .returned (.int .i64 (wiresN c)) ∧ Below w1.heap.size w1 w') := fun w1 => by
    rw [hgn]
    refine (l4Wires_raw c.1 ga c.2.1.length gc (.slice oa on oc) (by omega) (by omega) (by omega) w1).mono ?_
    rintro e w' ⟨he, hw⟩
    exact ⟨he, by rw [hw]; exact (Below.refl _ _).alloc (Nat.le_refl _) _⟩
  have GK : Hid (∀ w1 : World, Calls Try.prog 100 #[.int .i64 k, .int .i64 0, .int .i64 (wiresN c - 1)] w1 fun e w' => e = .returned (.bool false) ∧ Below w1.heap.size w1 w') := fun w1 => by
    have g := l1In_any k 0 (wiresN c - 1) w1
    rw [in_le, hki] at g
    refine g.mono ?_
    rintro e w' ⟨he, hw⟩
    exact ⟨he, by rw [hw]; exact Below.refl _ _⟩
  have hwn0 : 0 ≤ wiresN c := by unfold wiresN; omega
  have hwn1 : wiresN c ≤ 1000 := by unfold wiresN; omega
  obtain ⟨hfk0, hfk1⟩ := hfk
  subst hav hbv
  clear hgn h ha hb hsd hl h16
  generalize a.length = an at *
  generalize b.length = bn at *
  go_enter Try.func21, Try.ntmps21
  go_wp2_with fail
  refine g1.mono ?_
  rintro e w1 ⟨rfl, hs⟩
  have hb1 := Below.step hb0 hb0.size hs
  have y0 := x0.below hs (by omega)
  have y1 := x1.below hs (by omega)
  have hsz1 := hs.size
  rw [hsz] at hsz1
  clear g1 hs hb0 x0 x1 hsz
  obtain ⟨c0, c1, c2⟩ := y0.cells
  have ch := y0.heap
  have cl := y0.lt
  go_wp2_with fail
  refine (GW.out w1).mono ?_
  rintro e w2 ⟨rfl, hst⟩
  clear c0 c1 c2 ch cl
  have hb' : Below w.heap.size w w2 := hb1.trans (hst.mono hb1.size)
  have hst' := hst.size
  have y0' := y0.below hst y0.lt
  have y1' := y1.below hst y1.lt
  clear hst hb1 y0 y1
  have hb1 := hb'
  clear hb'
  have y0 := y0'
  clear y0'
  have y1 := y1'
  clear y1'
  obtain ⟨c0, c1, c2⟩ := y0.cells
  have ch := y0.heap
  have cl := y0.lt
  go_wp2_with fail
  refine (GK.out w2).mono ?_
  rintro e w3 ⟨rfl, hst⟩
  clear c0 c1 c2 ch cl
  have hb' : Below w.heap.size w w3 := hb1.trans (hst.mono hb1.size)
  have hst' := hst.size
  have y0' := y0.below hst y0.lt
  have y1' := y1.below hst y1.lt
  clear hst hb1 y0 y1
  have hb1 := hb'
  clear hb'
  have y0 := y0'
  clear y0'
  have y1 := y1'
  clear y1'
  clear GW GK
  clear y0
  obtain ⟨r0, r1, r2⟩ := y1.cells
  have rh := y1.heap
  have rl := y1.lt
  have rf0 := y1.frozen 0
  have rf1 := y1.frozen 1
  have rf2 := y1.frozen 2
  go_wp2_with fail
  have z1 := ((y1.set0 (.int .i64 0)).set1 (.slice none 0 0)).set2 (.slice none 0 0)
  have hbz := ((hb1.setCell (p := ⟨w.heap.size + 1, 0, none⟩) (Nat.le_succ _) (.int .i64 0)).setCell (p := ⟨w.heap.size + 1, 1, none⟩) (Nat.le_succ _) (.slice none 0 0)).setCell (p := ⟨w.heap.size + 1, 2, none⟩) (Nat.le_succ _) (.slice none 0 0)
  refine bodyPost_ret (results_c2 rfl _ _ (w.heap.size + 1) 27 _ (0, 0) _ rfl z1.heap Try.underlying27 rfl (by kernel_rfl)) rfl ?_
  exact ⟨_, _, rfl, ⟨_, _, rfl, rowIn_of (World.ownsRow_nil _ _ _ _), rowIn_of (World.ownsRow_nil _ _ _ _)⟩, rowIn_of (World.ownsRow_nil _ _ _ _), apart_nil _, hbz⟩
set_option maxRecDepth 100000 in
set_option maxHeartbeats 8000000 in
theorem sAddGates_no (v av bv : Value) (c : Ci) (a b : List Int) (k : Int) (hfk : Fit k) (hsd : sidesB c a b = true) (hki : inB (wiresN c) k = true) (hgD : goodC (addC c a b k) = false) (w : World) (h : AtC w v c) (ha : AtIS w av a) (hb : AtIS w bv b) :
    Calls Try.prog 21 #[v, av, bv, .int .i64 k] w fun e w' => ∃ r0 r1, e = .returned (.tuple #[r0, r1, .bool false]) ∧ OwnCirc w' w.heap.size w'.heap.size r0 (0, [], []) ∧ OwnIS w' w.heap.size w'.heap.size r1 [] ∧ ApartIS r0 r1 ∧ Below w.heap.size w w' := by
  obtain ⟨hgd, hl, h16, _, _⟩ := sides_parts hsd
  obtain ⟨hI0, hI1, hG, hO, _, _⟩ := goodC_ins hgd
  obtain ⟨ga, gn, gc, oa, on, oc, hv⟩ := h.at.shape
  have hgn : gn = c.2.1.length := by
    obtain ⟨_, g, o, hv', h1, _⟩ := h
    obtain ⟨a', cap, hg⟩ := h1.shape
    rw [hv] at hv'
    rw [hg] at hv'
    simp at hv'
    exact hv'.1.2.1
  subst hv
  obtain ⟨aa, ac, hav⟩ := ha.1.shape
  obtain ⟨ba, bc, hbv⟩ := hb.1.shape
  have hb0 : Below w.heap.size w ((w.alloc (.cells #[.int .i64 c.1, .slice ga gn gc, .slice oa on oc] 27)).alloc (.cells #[.int .i64 0, .slice none 0 0, .slice none 0 0] 27)) := below2 _ _ _
  have x0 := (box3_alloc w 27 (.int .i64 c.1) (.slice ga gn gc) (.slice oa on oc)).alloc (.cells #[.int .i64 0, .slice none 0 0, .slice none 0 0] 27)
  have x1 := box3_alloc (w.alloc (.cells #[.int .i64 c.1, .slice ga gn gc, .slice oa on oc] 27)) 27 (.int .i64 0) (.slice none 0 0) (.slice none 0 0)
  simp only [World.size_alloc] at x1
  have g1 := sSides_any _ _ _ c a b _ (h.below hb0).at (ha.1.below hb0) (hb.1.below hb0)
  rw [hsd] at g1
  have hsz : ((w.alloc (.cells #[.int .i64 c.1, .slice ga gn gc, .slice oa on oc] 27)).alloc (.cells #[.int .i64 0, .slice none 0 0, .slice none 0 0] 27)).heap.size = w.heap.size + 1 + 1 := by simp only [World.size_alloc]
  have GW : Hid (∀ w1 : World, Calls Try.prog 93 #[.agg #[.int .i64 c.1, .slice ga gn gc, .slice oa on oc]] w1 fun e w' => e = .returned (.int .i64 (wiresN c)) ∧ Below w1.heap.size w1 w') := fun w1 => by
    rw [hgn]
    refine (l4Wires_raw c.1 ga c.2.1.length gc (.slice oa on oc) (by omega) (by omega) (by omega) w1).mono ?_
    rintro e w' ⟨he, hw⟩
    exact ⟨he, by rw [hw]; exact (Below.refl _ _).alloc (Nat.le_refl _) _⟩
  have GK : Hid (∀ w1 : World, Calls Try.prog 100 #[.int .i64 k, .int .i64 0, .int .i64 (wiresN c - 1)] w1 fun e w' => e = .returned (.bool true) ∧ Below w1.heap.size w1 w') := fun w1 => by
    have g := l1In_any k 0 (wiresN c - 1) w1
    rw [in_le, hki] at g
    refine g.mono ?_
    rintro e w' ⟨he, hw⟩
    exact ⟨he, by rw [hw]; exact Below.refl _ _⟩
  have hwn0 : 0 ≤ wiresN c := by unfold wiresN; omega
  have hwn1 : wiresN c ≤ 1000 := by unfold wiresN; omega
  obtain ⟨hfk0, hfk1⟩ := hfk
  have GG : Hid (∀ w1 : World, Below w.heap.size w w1 → Calls Try.prog 101 #[.agg #[.int .i64 c.1, .slice ga gn gc, .slice oa on oc]] w1 fun e w' => ∃ gv ov, e = .returned (.agg #[.int .i64 c.1, gv, ov]) ∧ w'.ownsRow w1.heap.size 128 3 gv c.2.1.length (flat3 c.2.1) ∧ w'.ownsRow w1.heap.size 3 1 ov c.2.2.length (cellsI c.2.2) ∧ Below w1.heap.size w1 w') := fun w1 hw => l4Own_any _ c hI0 hI1 hG hO w1 (h.below hw)
  have GL : Hid (∀ (lo hi bl : Nat) (w1 : World), Bld w1 lo hi bl 126 c → hi ≤ w1.heap.size → w.heap.size ≤ lo → Below w.heap.size w w1 → Calls Try.prog 102 #[.pointer (some ⟨bl, 0, none⟩), av, bv, .int .i64 k] w1 fun e w' => ∃ r, e = .returned r ∧ w'.ownsRow w1.heap.size 3 1 r (addG a b k (wiresN c)).2.length (cellsI (addG a b k (wiresN c)).2) ∧ Bld w' lo hi bl 126 (addC c a b k) ∧ Below lo w1 w') := fun lo hi bl w1 hB hhi hlo hb' => sAdd_any lo hi bl c.1 c.2.1 c.2.2 av bv a b k (wiresN c) rfl hI0 hI1 hG hl h16 w1 hB hhi (fun w' hw => ha.1.below (hb'.trans (hw.mono hlo))) (fun w' hw => hb.1.below (hb'.trans (hw.mono hlo)))
  have HGO : Hid (∀ (u : Value) (w1 : World), AtCirc w1 u (addC c a b k) → Calls Try.prog 25 #[u] w1 fun e w' => e = .returned (.bool false) ∧ Below w1.heap.size w1 w') := fun u w1 h1 => by
    have g := sGood_any u _ w1 h1
    rw [hgD] at g
    exact g
  have hfit : Fit (addC c a b k).1 := h.1
  have hDs := addC_sm hsd hki
  have hD2 : (addC c a b k).2.2.length ≤ 16 := hO
  rw [hav, hbv] at GL
  obtain ⟨DD, hDD⟩ : ∃ DD, (addC c a b k) = DD := ⟨_, rfl⟩
  rw [hDD] at GL HGO hfit hDs hD2
  obtain ⟨SU, hSU⟩ : ∃ SU, (addG a b k (wiresN c)).2 = SU := ⟨_, rfl⟩
  rw [hSU] at GL
  clear hSU
  clear hDD hgD
  subst hav hbv
  clear hgn h ha hb hsd hl h16
  generalize a.length = an at *
  generalize b.length = bn at *
  go_enter Try.func21, Try.ntmps21
  go_wp2_with fail
  refine g1.mono ?_
  rintro e w1 ⟨rfl, hs⟩
  have hb1 := Below.step hb0 hb0.size hs
  have y0 := x0.below hs (by omega)
  have y1 := x1.below hs (by omega)
  have hsz1 := hs.size
  rw [hsz] at hsz1
  clear g1 hs hb0 x0 x1 hsz
  obtain ⟨c0, c1, c2⟩ := y0.cells
  have ch := y0.heap
  have cl := y0.lt
  go_wp2_with fail
  refine (GW.out w1).mono ?_
  rintro e w2 ⟨rfl, hst⟩
  clear c0 c1 c2 ch cl
  have hb' : Below w.heap.size w w2 := hb1.trans (hst.mono hb1.size)
  have hst' := hst.size
  have y0' := y0.below hst y0.lt
  have y1' := y1.below hst y1.lt
  clear hst hb1 y0 y1
  have hb1 := hb'
  clear hb'
  have y0 := y0'
  clear y0'
  have y1 := y1'
  clear y1'
  obtain ⟨c0, c1, c2⟩ := y0.cells
  have ch := y0.heap
  have cl := y0.lt
  go_wp2_with fail
  refine (GK.out w2).mono ?_
  rintro e w3 ⟨rfl, hst⟩
  clear c0 c1 c2 ch cl
  have hb' : Below w.heap.size w w3 := hb1.trans (hst.mono hb1.size)
  have hst' := hst.size
  have y0' := y0.below hst y0.lt
  have y1' := y1.below hst y1.lt
  clear hst hb1 y0 y1
  have hb1 := hb'
  clear hb'
  have y0 := y0'
  clear y0'
  have y1 := y1'
  clear y1'
  clear GW GK
  obtain ⟨c0, c1, c2⟩ := y0.cells
  have ch := y0.heap
  have cl := y0.lt
  go_wp2_with fail
  refine (GG.out w3 hb1).mono ?_
  rintro e w3b ⟨gv, ov, rfl, hog, hoo, hst⟩
  clear c0 c1 c2 ch cl
  have hlo : w.heap.size + 1 + 1 ≤ w3.heap.size := by omega
  have hb' : Below w.heap.size w w3b := hb1.trans (hst.mono hb1.size)
  have hst' := hst.size
  have y0' := y0.below hst y0.lt
  have y1' := y1.below hst y1.lt
  clear hst hb1 y0 y1
  have hb1 := hb'
  clear hb'
  have y0 := y0'
  clear y0'
  have y1 := y1'
  clear y1'
  obtain ⟨gva, gvc, hgv⟩ := own_shape hog
  obtain ⟨ova, ovc, hov⟩ := own_shape hoo
  subst hgv hov
  have hB : Bld (w3b.alloc (.cells #[.int .i64 c.1, .slice gva c.2.1.length gvc, .slice ova c.2.2.length ovc] 126)) w3.heap.size w3b.heap.size w3b.heap.size 126 c := ⟨hst', _, _, box3_alloc _ _ _ _ _, hog.alloc _, hoo.alloc _, fun k' hk' => (own_block hoo hk').2⟩
  have hb1a : Below w.heap.size w (w3b.alloc (.cells #[.int .i64 c.1, .slice gva c.2.1.length gvc, .slice ova c.2.2.length ovc] 126)) := hb1.alloc hb1.size _
  have y0a := y0.alloc (.cells #[.int .i64 c.1, .slice gva c.2.1.length gvc, .slice ova c.2.2.length ovc] 126)
  have y1a := y1.alloc (.cells #[.int .i64 c.1, .slice gva c.2.1.length gvc, .slice ova c.2.2.length ovc] 126)
  have hsza : (w3b.alloc (.cells #[.int .i64 c.1, .slice gva c.2.1.length gvc, .slice ova c.2.2.length ovc] 126)).heap.size = w3b.heap.size + 1 := by simp only [World.size_alloc]
  go_wp2_with fail
  generalize (w3b.alloc (.cells #[.int .i64 c.1, .slice gva c.2.1.length gvc, .slice ova c.2.2.length ovc] 126)) = w4 at *
  have hhi : w3b.heap.size ≤ w4.heap.size := by omega
  clear hb1 y0 y1 hog hoo hsza
  have hb1 := hb1a
  clear hb1a
  have y0 := y0a
  clear y0a
  have y1 := y1a
  clear y1a
  refine (GL.out w3.heap.size w3b.heap.size w3b.heap.size w4 hB hhi (by omega) hb1).mono ?_
  rintro e w5 ⟨rs, rfl, hrs, hB5, hs5⟩
  have hst : Below w.heap.size w w5 := hb1.trans (hs5.mono (by omega))
  have y1' := y1.below hs5 (by omega)
  have hs5' := hs5.size
  obtain ⟨gsl, osl, hx5, hat, hog5, hoo5, hob5⟩ := hB5.reads hfit hDs.1 (by omega) (by omega)
  clear hB hB5 y0 y1 hs5 GG GL hb1
  have hb1 := hst
  clear hst
  have y1 := y1'
  clear y1'
  obtain ⟨sga, sgc, hsg⟩ := own_shape hog5
  obtain ⟨soa, soc, hso⟩ := own_shape hoo5
  subst hsg hso
  obtain ⟨sra, src, hsr⟩ := own_shape hrs
  subst hsr
  have hblo : w3.heap.size ≤ w3b.heap.size := by first | exact hst' | omega
  obtain ⟨c0, c1, c2⟩ := hx5.cells
  have ch := hx5.heap
  have cl := hx5.lt
  go_wp2_with fail
  refine (HGO.out _ w5 hat).mono ?_
  rintro e w6 ⟨rfl, hst⟩
  have hb' : Below w.heap.size w w6 := hb1.trans (hst.mono hb1.size)
  have y1' := y1.below hst y1.lt
  have hx6 := hx5.below hst hx5.lt
  have hog6 := owns_below hog5 hst
  have hoo6 := owns_below hoo5 hst
  have hst6 := hst.size
  have hrs6 := owns_below hrs hst
  clear hrs
  clear hst hb1 y1 hx5 hog5 hoo5 hat HGO c0 c1 c2 ch cl
  have hb1 := hb'
  clear hb'
  have y1 := y1'
  clear y1'
  have y0 := True.intro
  clear y0
  obtain ⟨r0, r1, r2⟩ := y1.cells
  have rh := y1.heap
  have rl := y1.lt
  have rf0 := y1.frozen 0
  have rf1 := y1.frozen 1
  have rf2 := y1.frozen 2
  go_wp2_with fail
  have z1 := ((y1.set0 (.int .i64 0)).set1 (.slice none 0 0)).set2 (.slice none 0 0)
  have hbz := ((hb1.setCell (p := ⟨w.heap.size + 1, 0, none⟩) (Nat.le_succ _) (.int .i64 0)).setCell (p := ⟨w.heap.size + 1, 1, none⟩) (Nat.le_succ _) (.slice none 0 0)).setCell (p := ⟨w.heap.size + 1, 2, none⟩) (Nat.le_succ _) (.slice none 0 0)
  refine bodyPost_ret (results_c2 rfl _ _ (w.heap.size + 1) 27 _ (0, 0) _ rfl z1.heap Try.underlying27 rfl (by kernel_rfl)) rfl ?_
  exact ⟨_, _, rfl, ⟨_, _, rfl, rowIn_of (World.ownsRow_nil _ _ _ _), rowIn_of (World.ownsRow_nil _ _ _ _)⟩, rowIn_of (World.ownsRow_nil _ _ _ _), apart_nil _, hbz⟩
set_option maxRecDepth 100000 in
set_option maxHeartbeats 8000000 in
theorem sAddGates_yes (v av bv : Value) (c : Ci) (a b : List Int) (k : Int) (hfk : Fit k) (hsd : sidesB c a b = true) (hki : inB (wiresN c) k = true) (hgD : goodC (addC c a b k) = true) (w : World) (h : AtC w v c) (ha : AtIS w av a) (hb : AtIS w bv b) :
    Calls Try.prog 21 #[v, av, bv, .int .i64 k] w fun e w' => ∃ r0 r1, e = .returned (.tuple #[r0, r1, .bool true]) ∧ OwnCirc w' w.heap.size w'.heap.size r0 (addC c a b k) ∧ OwnIS w' w.heap.size w'.heap.size r1 (addG a b k (wiresN c)).2 ∧ ApartIS r0 r1 ∧ Below w.heap.size w w' := by
  obtain ⟨hgd, hl, h16, _, _⟩ := sides_parts hsd
  obtain ⟨hI0, hI1, hG, hO, _, _⟩ := goodC_ins hgd
  obtain ⟨ga, gn, gc, oa, on, oc, hv⟩ := h.at.shape
  have hgn : gn = c.2.1.length := by
    obtain ⟨_, g, o, hv', h1, _⟩ := h
    obtain ⟨a', cap, hg⟩ := h1.shape
    rw [hv] at hv'
    rw [hg] at hv'
    simp at hv'
    exact hv'.1.2.1
  subst hv
  obtain ⟨aa, ac, hav⟩ := ha.1.shape
  obtain ⟨ba, bc, hbv⟩ := hb.1.shape
  have hb0 : Below w.heap.size w ((w.alloc (.cells #[.int .i64 c.1, .slice ga gn gc, .slice oa on oc] 27)).alloc (.cells #[.int .i64 0, .slice none 0 0, .slice none 0 0] 27)) := below2 _ _ _
  have x0 := (box3_alloc w 27 (.int .i64 c.1) (.slice ga gn gc) (.slice oa on oc)).alloc (.cells #[.int .i64 0, .slice none 0 0, .slice none 0 0] 27)
  have x1 := box3_alloc (w.alloc (.cells #[.int .i64 c.1, .slice ga gn gc, .slice oa on oc] 27)) 27 (.int .i64 0) (.slice none 0 0) (.slice none 0 0)
  simp only [World.size_alloc] at x1
  have g1 := sSides_any _ _ _ c a b _ (h.below hb0).at (ha.1.below hb0) (hb.1.below hb0)
  rw [hsd] at g1
  have hsz : ((w.alloc (.cells #[.int .i64 c.1, .slice ga gn gc, .slice oa on oc] 27)).alloc (.cells #[.int .i64 0, .slice none 0 0, .slice none 0 0] 27)).heap.size = w.heap.size + 1 + 1 := by simp only [World.size_alloc]
  have GW : Hid (∀ w1 : World, Calls Try.prog 93 #[.agg #[.int .i64 c.1, .slice ga gn gc, .slice oa on oc]] w1 fun e w' => e = .returned (.int .i64 (wiresN c)) ∧ Below w1.heap.size w1 w') := fun w1 => by
    rw [hgn]
    refine (l4Wires_raw c.1 ga c.2.1.length gc (.slice oa on oc) (by omega) (by omega) (by omega) w1).mono ?_
    rintro e w' ⟨he, hw⟩
    exact ⟨he, by rw [hw]; exact (Below.refl _ _).alloc (Nat.le_refl _) _⟩
  have GK : Hid (∀ w1 : World, Calls Try.prog 100 #[.int .i64 k, .int .i64 0, .int .i64 (wiresN c - 1)] w1 fun e w' => e = .returned (.bool true) ∧ Below w1.heap.size w1 w') := fun w1 => by
    have g := l1In_any k 0 (wiresN c - 1) w1
    rw [in_le, hki] at g
    refine g.mono ?_
    rintro e w' ⟨he, hw⟩
    exact ⟨he, by rw [hw]; exact Below.refl _ _⟩
  have hwn0 : 0 ≤ wiresN c := by unfold wiresN; omega
  have hwn1 : wiresN c ≤ 1000 := by unfold wiresN; omega
  obtain ⟨hfk0, hfk1⟩ := hfk
  have GG : Hid (∀ w1 : World, Below w.heap.size w w1 → Calls Try.prog 101 #[.agg #[.int .i64 c.1, .slice ga gn gc, .slice oa on oc]] w1 fun e w' => ∃ gv ov, e = .returned (.agg #[.int .i64 c.1, gv, ov]) ∧ w'.ownsRow w1.heap.size 128 3 gv c.2.1.length (flat3 c.2.1) ∧ w'.ownsRow w1.heap.size 3 1 ov c.2.2.length (cellsI c.2.2) ∧ Below w1.heap.size w1 w') := fun w1 hw => l4Own_any _ c hI0 hI1 hG hO w1 (h.below hw)
  have GL : Hid (∀ (lo hi bl : Nat) (w1 : World), Bld w1 lo hi bl 126 c → hi ≤ w1.heap.size → w.heap.size ≤ lo → Below w.heap.size w w1 → Calls Try.prog 102 #[.pointer (some ⟨bl, 0, none⟩), av, bv, .int .i64 k] w1 fun e w' => ∃ r, e = .returned r ∧ w'.ownsRow w1.heap.size 3 1 r (addG a b k (wiresN c)).2.length (cellsI (addG a b k (wiresN c)).2) ∧ Bld w' lo hi bl 126 (addC c a b k) ∧ Below lo w1 w') := fun lo hi bl w1 hB hhi hlo hb' => sAdd_any lo hi bl c.1 c.2.1 c.2.2 av bv a b k (wiresN c) rfl hI0 hI1 hG hl h16 w1 hB hhi (fun w' hw => ha.1.below (hb'.trans (hw.mono hlo))) (fun w' hw => hb.1.below (hb'.trans (hw.mono hlo)))
  have HGO : Hid (∀ (u : Value) (w1 : World), AtCirc w1 u (addC c a b k) → Calls Try.prog 25 #[u] w1 fun e w' => e = .returned (.bool true) ∧ Below w1.heap.size w1 w') := fun u w1 h1 => by
    have g := sGood_any u _ w1 h1
    rw [hgD] at g
    exact g
  have hfit : Fit (addC c a b k).1 := h.1
  have hDs := addC_sm hsd hki
  have hD2 : (addC c a b k).2.2.length ≤ 16 := hO
  rw [hav, hbv] at GL
  obtain ⟨DD, hDD⟩ : ∃ DD, (addC c a b k) = DD := ⟨_, rfl⟩
  rw [hDD] at GL HGO hfit hDs hD2 ⊢
  obtain ⟨SU, hSU⟩ : ∃ SU, (addG a b k (wiresN c)).2 = SU := ⟨_, rfl⟩
  rw [hSU] at GL ⊢
  clear hSU
  clear hDD hgD
  subst hav hbv
  clear hgn h ha hb hsd hl h16
  generalize a.length = an at *
  generalize b.length = bn at *
  go_enter Try.func21, Try.ntmps21
  go_wp2_with fail
  refine g1.mono ?_
  rintro e w1 ⟨rfl, hs⟩
  have hb1 := Below.step hb0 hb0.size hs
  have y0 := x0.below hs (by omega)
  have y1 := x1.below hs (by omega)
  have hsz1 := hs.size
  rw [hsz] at hsz1
  clear g1 hs hb0 x0 x1 hsz
  obtain ⟨c0, c1, c2⟩ := y0.cells
  have ch := y0.heap
  have cl := y0.lt
  go_wp2_with fail
  refine (GW.out w1).mono ?_
  rintro e w2 ⟨rfl, hst⟩
  clear c0 c1 c2 ch cl
  have hb' : Below w.heap.size w w2 := hb1.trans (hst.mono hb1.size)
  have hst' := hst.size
  have y0' := y0.below hst y0.lt
  have y1' := y1.below hst y1.lt
  clear hst hb1 y0 y1
  have hb1 := hb'
  clear hb'
  have y0 := y0'
  clear y0'
  have y1 := y1'
  clear y1'
  obtain ⟨c0, c1, c2⟩ := y0.cells
  have ch := y0.heap
  have cl := y0.lt
  go_wp2_with fail
  refine (GK.out w2).mono ?_
  rintro e w3 ⟨rfl, hst⟩
  clear c0 c1 c2 ch cl
  have hb' : Below w.heap.size w w3 := hb1.trans (hst.mono hb1.size)
  have hst' := hst.size
  have y0' := y0.below hst y0.lt
  have y1' := y1.below hst y1.lt
  clear hst hb1 y0 y1
  have hb1 := hb'
  clear hb'
  have y0 := y0'
  clear y0'
  have y1 := y1'
  clear y1'
  clear GW GK
  obtain ⟨c0, c1, c2⟩ := y0.cells
  have ch := y0.heap
  have cl := y0.lt
  go_wp2_with fail
  refine (GG.out w3 hb1).mono ?_
  rintro e w3b ⟨gv, ov, rfl, hog, hoo, hst⟩
  clear c0 c1 c2 ch cl
  have hlo : w.heap.size + 1 + 1 ≤ w3.heap.size := by omega
  have hb' : Below w.heap.size w w3b := hb1.trans (hst.mono hb1.size)
  have hst' := hst.size
  have y0' := y0.below hst y0.lt
  have y1' := y1.below hst y1.lt
  clear hst hb1 y0 y1
  have hb1 := hb'
  clear hb'
  have y0 := y0'
  clear y0'
  have y1 := y1'
  clear y1'
  obtain ⟨gva, gvc, hgv⟩ := own_shape hog
  obtain ⟨ova, ovc, hov⟩ := own_shape hoo
  subst hgv hov
  have hB : Bld (w3b.alloc (.cells #[.int .i64 c.1, .slice gva c.2.1.length gvc, .slice ova c.2.2.length ovc] 126)) w3.heap.size w3b.heap.size w3b.heap.size 126 c := ⟨hst', _, _, box3_alloc _ _ _ _ _, hog.alloc _, hoo.alloc _, fun k' hk' => (own_block hoo hk').2⟩
  have hb1a : Below w.heap.size w (w3b.alloc (.cells #[.int .i64 c.1, .slice gva c.2.1.length gvc, .slice ova c.2.2.length ovc] 126)) := hb1.alloc hb1.size _
  have y0a := y0.alloc (.cells #[.int .i64 c.1, .slice gva c.2.1.length gvc, .slice ova c.2.2.length ovc] 126)
  have y1a := y1.alloc (.cells #[.int .i64 c.1, .slice gva c.2.1.length gvc, .slice ova c.2.2.length ovc] 126)
  have hsza : (w3b.alloc (.cells #[.int .i64 c.1, .slice gva c.2.1.length gvc, .slice ova c.2.2.length ovc] 126)).heap.size = w3b.heap.size + 1 := by simp only [World.size_alloc]
  go_wp2_with fail
  generalize (w3b.alloc (.cells #[.int .i64 c.1, .slice gva c.2.1.length gvc, .slice ova c.2.2.length ovc] 126)) = w4 at *
  have hhi : w3b.heap.size ≤ w4.heap.size := by omega
  clear hb1 y0 y1 hog hoo hsza
  have hb1 := hb1a
  clear hb1a
  have y0 := y0a
  clear y0a
  have y1 := y1a
  clear y1a
  refine (GL.out w3.heap.size w3b.heap.size w3b.heap.size w4 hB hhi (by omega) hb1).mono ?_
  rintro e w5 ⟨rs, rfl, hrs, hB5, hs5⟩
  have hst : Below w.heap.size w w5 := hb1.trans (hs5.mono (by omega))
  have y1' := y1.below hs5 (by omega)
  have hs5' := hs5.size
  obtain ⟨gsl, osl, hx5, hat, hog5, hoo5, hob5⟩ := hB5.reads hfit hDs.1 (by omega) (by omega)
  clear hB hB5 y0 y1 hs5 GG GL hb1
  have hb1 := hst
  clear hst
  have y1 := y1'
  clear y1'
  obtain ⟨sga, sgc, hsg⟩ := own_shape hog5
  obtain ⟨soa, soc, hso⟩ := own_shape hoo5
  subst hsg hso
  obtain ⟨sra, src, hsr⟩ := own_shape hrs
  subst hsr
  have hblo : w3.heap.size ≤ w3b.heap.size := by first | exact hst' | omega
  obtain ⟨c0, c1, c2⟩ := hx5.cells
  have ch := hx5.heap
  have cl := hx5.lt
  go_wp2_with fail
  refine (HGO.out _ w5 hat).mono ?_
  rintro e w6 ⟨rfl, hst⟩
  have hb' : Below w.heap.size w w6 := hb1.trans (hst.mono hb1.size)
  have y1' := y1.below hst y1.lt
  have hx6 := hx5.below hst hx5.lt
  have hog6 := owns_below hog5 hst
  have hoo6 := owns_below hoo5 hst
  have hst6 := hst.size
  have hrs6 := owns_below hrs hst
  clear hrs
  clear hst hb1 y1 hx5 hog5 hoo5 hat HGO c0 c1 c2 ch cl
  have hb1 := hb'
  clear hb'
  have y1 := y1'
  clear y1'
  obtain ⟨c0, c1, c2⟩ := hx6.cells
  have ch := hx6.heap
  have cl := hx6.lt
  obtain ⟨r0, r1, r2⟩ := y1.cells
  have rh := y1.heap
  have rl := y1.lt
  have rf0 := y1.frozen 0
  have rf1 := y1.frozen 1
  have rf2 := y1.frozen 2
  have hgl : DD.2.1.length ≤ 500 := hDs.2
  have HZ : Hid _ := ((y1.set0 (.int .i64 DD.1)).set1 (.slice sga DD.2.1.length sgc)).set2 (.slice soa DD.2.2.length soc)
  have HBZ : Hid _ := ((hb1.setCell (p := ⟨w.heap.size + 1, 0, none⟩) (Nat.le_succ _) (.int .i64 DD.1)).setCell (p := ⟨w.heap.size + 1, 1, none⟩) (Nat.le_succ _) (.slice sga DD.2.1.length sgc)).setCell (p := ⟨w.heap.size + 1, 2, none⟩) (Nat.le_succ _) (.slice soa DD.2.2.length soc)
  have HGZ : Hid _ := own_set (b := w.heap.size + 1) (o := 2) (u := .slice soa DD.2.2.length soc) (own_set (b := w.heap.size + 1) (o := 1) (u := .slice sga DD.2.1.length sgc) (own_set (b := w.heap.size + 1) (o := 0) (u := .int .i64 DD.1) hog6 (by omega)) (by omega)) (by omega)
  have HOZ : Hid _ := own_set (b := w.heap.size + 1) (o := 2) (u := .slice soa DD.2.2.length soc) (own_set (b := w.heap.size + 1) (o := 1) (u := .slice sga DD.2.1.length sgc) (own_set (b := w.heap.size + 1) (o := 0) (u := .int .i64 DD.1) hoo6 (by omega)) (by omega)) (by omega)
  have HRZ : Hid _ := own_set (b := w.heap.size + 1) (o := 2) (u := .slice soa DD.2.2.length soc) (own_set (b := w.heap.size + 1) (o := 1) (u := .slice sga DD.2.1.length sgc) (own_set (b := w.heap.size + 1) (o := 0) (u := .int .i64 DD.1) hrs6 (by omega)) (by omega)) (by omega)
  have HAP : Hid (∀ k', (Value.slice sra SU.length src).ownBlock = some k' → (Value.slice soa DD.2.2.length soc).ownBlock ≠ some k') := fun k' h1 h2 => by
    have q1 := (own_block hrs6 h1).1
    have q2 := hob5 k' h2
    omega
  have hne : w3b.heap.size ≠ w.heap.size + 1 := by omega
  clear hx6 y1 hog6 hoo6 hb1 hob5 hrs6
  generalize hdg : DD.2.1.length = dg at *
  generalize hdo : DD.2.2.length = dq at *
  generalize hds : SU.length = ds at *
  go_wp2_with fail
  refine bodyPost_ret (results_c2 rfl _ _ (w.heap.size + 1) 27 _ (0, 0) _ rfl HZ.out.heap Try.underlying27 rfl (by kernel_rfl)) rfl ?_
  exact ⟨_, _, rfl, ⟨.slice sga dg sgc, .slice soa dq soc, rfl, by rw [hdg]; exact rowIn_of (own_base HGZ.out (by omega)), by rw [hdo]; exact rowIn_of (own_base HOZ.out (by omega))⟩, by unfold OwnIS; rw [hds]; exact rowIn_of (own_base HRZ.out (by omega)), fun i' g' o' k' e1 e2 => by simp at e1; rw [← e1.2.2]; exact HAP.out k' e2, HBZ.out⟩
end Go.Proofs.Ytpjllhlbdcanlaa

namespace Go.Proofs.Ytpjllhlbdcanlaa
open Go Go.RowKit
open M
set_option linter.unusedVariables false

theorem own_apart_set {w : World} {B B' g cap n n' i : Nat} {e e' : TypeId} {s : Nat} {v u : Value} {xs xs' : List Value} (h : w.ownsRow B e s v n xs) (h' : w.ownsRow B' e' 1 (.slice (some ⟨g, 0, none⟩) n' cap) n' xs') (he : e ≠ e') : (w.setCell ⟨g, i, none⟩ u).ownsRow B e s v n xs :=
  ((rowIn_of h).apart (rowIn_of h') he (h'.stored i u).2).1
theorem VarsOwn.set {w : World} {B B' g cap n' i : Nat} {v u : Value} {l : List Int} {xs' : List Value} (h : VarsOwn w B v l) (h' : w.ownsRow B' 4 1 (.slice (some ⟨g, 0, none⟩) n' cap) n' xs') : VarsOwn (w.setCell ⟨g, i, none⟩ u) B v l := ⟨own_apart_set h.1 h' (by decide), h.2⟩
set_option maxRecDepth 100000 in
set_option maxHeartbeats 4000000 in
theorem l4Cone_any (v wv : Value) (c : Ci) (ws : List Int) (hgd : goodC c = true) (hws : ∀ x ∈ ws, 0 ≤ x ∧ x < c.1 + c.2.1.length) (w : World) (h : AtCirc w v c) (hw : IntsAt w wv ws) :
    Calls Try.prog 116 #[v, wv] w fun e w' => ∃ r, e = .returned r ∧ VarsOwn w' w.heap.size r (upF (coneF c ws) (coneF c ws).length) ∧ Below w.heap.size w w' := by
  obtain ⟨hfit, gw, o, hv, h1, h2⟩ := h
  obtain ⟨ga, gc, hgw, hg⟩ := h1.opened
  obtain ⟨oa, oc, ho⟩ := h2.shape
  subst hgw ho hv
  have hwl := hw.1
  obtain ⟨wa', wcap, hwv, hwc⟩ := hw.opened
  subst hwv
  obtain ⟨hI0, hI1, hG, hO, hgb, _⟩ := goodC_ins hgd
  have hb0 : Below w.heap.size w (w.alloc (.cells #[.int .i64 c.1, .slice ga c.2.1.length gc, .slice oa c.2.2.length oc] 27)) := (Below.refl _ _).alloc (Nat.le_refl _) _
  have x0 := box3_alloc w 27 (.int .i64 c.1) (.slice ga c.2.1.length gc) (.slice oa c.2.2.length oc)
  have hsz : (w.alloc (.cells #[.int .i64 c.1, .slice ga c.2.1.length gc, .slice oa c.2.2.length oc] 27)).heap.size = w.heap.size + 1 := by simp only [World.size_alloc]
  have HG : Hid (∀ (w1 : World), Below w.heap.size w w1 → ∀ (i : Nat) (x : Gt), c.2.1[i]? = some x → ∃ b off : Nat, ga = some ⟨b, off, none⟩ ∧ b < w.heap.size ∧ GateAt w1 b (off + i * 3) x) := fun w1 hb i x hx => by
    obtain ⟨b, off, e, hlt, hat⟩ := hg i x hx
    exact ⟨b, off, e, hlt, hat.below hb hlt⟩
  have HW : Hid (∀ (w1 : World), Below w.heap.size w w1 → ∀ (i : Nat) (x : Int), ws[i]? = some x → ∃ b off : Nat, wa' = some ⟨b, off, none⟩ ∧ w1.cell? ⟨b, off + i, none⟩ = some (.int .i64 x)) := fun w1 hb i x hx => by
    obtain ⟨b, off, e, hlt, hat⟩ := hwc i x hx
    exact ⟨b, off, e, by rw [hb.cell (p := ⟨b, off + i, none⟩) hlt]; exact hat⟩
  have HGB : Hid (∀ (i : Nat) (x : Gt), c.2.1[i]? = some x → gateB (c.1 + i) x = true) := fun i x hx => gatesB_at hgb hx
  have HWS : Hid (∀ x ∈ ws, 0 ≤ x ∧ x < c.1 + c.2.1.length) := hws
  obtain ⟨i0, hi, hz0, hz1, hz2⟩ := info_parts infoBool
  have hFl := coneF_len c ws
  unfold coneF at *
  obtain ⟨ins, gs, os⟩ := c
  simp only at *
  clear hg hwc h1 h2 hgb hfit hgd hws hw
  obtain ⟨I, rfl⟩ := Int.eq_ofNat_of_zero_le hI0
  rw [Int.toNat_natCast]
  obtain ⟨N, hN⟩ : ∃ N : Nat, I + gs.length = N := ⟨_, rfl⟩
  have hNI : (I : Int) + (gs.length : Int) = (N : Int) := by omega
  obtain ⟨F, HF⟩ : ∃ F, Hid (coneD (I : Int) gs gs.length (markB (List.replicate N false) ws) = F) := ⟨_, rfl⟩
  rw [Int.toNat_natCast, hN, HF.out] at hFl
  rw [hN, HF.out, hFl, ← down_all]
  clear hFl
  have g2 := l4Wires_raw (I : Int) ga gs.length gc (.slice oa os.length oc) (by omega) (by omega) (by omega) (w.alloc (.cells #[.int .i64 (I : Int), .slice ga gs.length gc, .slice oa os.length oc] 27))
  rw [hNI] at g2
  have HNI : Hid ((I : Int) + (gs.length : Int) = (N : Int)) := hNI
  have hlt0 := x0.lt
  go_enter Try.func116, Try.ntmps116
  go_wp2_with fail
  refine g2.mono ?_
  clear g2 hNI
  generalize (w.alloc (.cells #[.int .i64 (I : Int), .slice ga gs.length gc, .slice oa os.length oc] 27)) = wa at *
  clear hsz
  rintro e w2 ⟨rfl, hw2⟩
  have hb2 : Below wa.heap.size wa w2 := by
    rw [hw2]
    exact (Below.refl _ _).alloc (Nat.le_refl _) _
  clear hw2
  have hs2 := hb2.size
  go_wp2_with (at_make; refine wpList_make_full _ rfl _ _ 35 rfl wa.heap.size 4 i0 (.bool false) 1 Try.underlying35 hi hz0 hz1 .i64 .i64 _ _ N rfl rfl (by omega) (by omega) (by rw [hz2]; omega) (by unfold maxLen; omega) (by omega) ?_)
  intro w3 hown hgrow
  have hb3 : Below wa.heap.size wa w3 := hb2.grown hgrow hb2.size (fun k hk => by cases hk)
  have HO1 : Hid (w3.ownsRow wa.heap.size 4 1 (.slice (some ⟨w2.heap.size, 0, none⟩) N N) N (cellsB (List.replicate N false))) := by
    have h2 := hown
    rw [toList_madeCells_one] at h2
    show w3.ownsRow wa.heap.size 4 1 (.slice (some ⟨w2.heap.size, 0, none⟩) N N) N (cellsB (List.replicate N false))
    unfold cellsB
    rw [List.map_replicate]
    exact h2
  have HB3 : Hid (Below wa.heap.size wa w3) := hb3
  have HB0 : Hid (Below w.heap.size w wa) := hb0
  have HX : Hid (Box3 wa w.heap.size 27 (.int .i64 (I : Int)) (.slice ga gs.length gc) (.slice oa os.length oc)) := x0
  clear hown hgrow hb3 hb0 hb2 x0
  generalize hQ : w2.heap.size = q at *
  have hq : wa.heap.size ≤ q := by omega
  clear hs2 hQ
  go_wp2_with fail
  go_loopw [15] (fun i wr => ∃ j : Nat, j ≤ ws.length ∧ i = .int .i64 j ∧ Hid (wr.ownsRow wa.heap.size 4 1 (.slice (some ⟨q, 0, none⟩) N N) N (cellsB (markB (List.replicate N false) (ws.take j)))) ∧ Hid (Below wa.heap.size wa wr)) (fun i _ => ws.length - (intOf i).toNat)
  case atStart => exact ⟨0, by omega, rfl, HO1, HB3⟩
  case round =>
    obtain ⟨j, hj, rfl, HO, HB⟩ := hrel
    by_cases hlt : j < ws.length
    · obtain ⟨x, hx⟩ : ∃ x, ws[j]? = some x := ⟨ws[j], List.getElem?_eq_getElem hlt⟩
      obtain ⟨b, off, rfl, d0⟩ := HW.out wr (HB0.out.trans (HB.out.mono HB0.out.size)) j x hx
      obtain ⟨hx0, hx1⟩ := HWS.out x (List.mem_of_getElem? hx)
      obtain ⟨X, rfl⟩ := Int.eq_ofNat_of_zero_le hx0
      have hXN : X < N := by have := HNI.out; omega
      obtain ⟨⟨u0, e0⟩, f0, o0⟩ := mark_at HO.out X hXN
      have HN : Hid ((wr.setCell ⟨q, X, none⟩ (.bool true)).ownsRow wa.heap.size 4 1 (.slice (some ⟨q, 0, none⟩) N N) N (cellsB (markB (List.replicate N false) (ws.take (j + 1))))) := by
        have h1 := o0
        show (wr.setCell ⟨q, X, none⟩ (.bool true)).ownsRow wa.heap.size 4 1 (.slice (some ⟨q, 0, none⟩) N N) N (cellsB (markB (List.replicate N false) (ws.take (j + 1))))
        rw [List.take_add_one, hx]
        show (wr.setCell ⟨q, X, none⟩ (.bool true)).ownsRow wa.heap.size 4 1 (.slice (some ⟨q, 0, none⟩) N N) N (cellsB (markB (List.replicate N false) (ws.take j ++ [(X : Int)])))
        rw [markB_snoc, Int.toNat_natCast]
        exact h1
      have HBN : Hid (Below wa.heap.size wa (wr.setCell ⟨q, X, none⟩ (.bool true))) := HB.out.setCell (by show wa.heap.size ≤ q; omega) _
      clear hx HO HB o0 HG HW HGB HWS HO1 HB3 hx1 HNI HF HX HB0
      go_wp2_with fail
      go_roundw
      case rel => exact ⟨j + 1, by omega, by go_num, HN, HBN⟩
      case measure => simp [intOf]; omega
    · obtain rfl : j = ws.length := by omega
      have HO2 : Hid (wr.ownsRow wa.heap.size 4 1 (.slice (some ⟨q, 0, none⟩) N N) N (cellsB (markB (List.replicate N false) ws))) := by
        have h1 := HO.out
        rw [List.take_length] at h1
        exact h1
      have HB2 : Hid (Below wa.heap.size wa wr) := HB.out
      have y1 := HX.out.below HB.out (by omega)
      obtain ⟨c0, c1, c2⟩ := y1.cells
      have hh := y1.heap
      have hlt1 := y1.lt
      have HS : Hid (wa.heap.size ≤ wr.heap.size) := HB.out.size
      clear HO HB HO1 HB3 HW HWS hlt
      go_wp2_with fail
      clear c0 c1 c2 hh hlt1 y1
      go_loopw [8, 9] (fun vo i wr => ∃ (j : Nat) (m : List Bool), j ≤ N ∧ i = .int .i64 ((j : Int) - 1) ∧ Hid (wr.ownsRow wa.heap.size 4 1 (.slice (some ⟨q, 0, none⟩) N N) N (cellsB m)) ∧ Hid (Below wa.heap.size wa wr) ∧ Hid (coneD (I : Int) gs (j - I) m = F) ∧ Hid (VarsOwn wr wa.heap.size vo (downF F N (N - j)))) (fun _ i _ => (intOf i + 1).toNat)
      case atStart =>
        have e1 : N - I = gs.length := by omega
        refine ⟨N, _, by omega, rfl, HO2, HB2, ?_, ?_⟩
        · show coneD (I : Int) gs (N - I) _ = F
          rw [e1]
          exact HF.out
        · show VarsOwn _ _ _ (downF F N (N - N))
          rw [Nat.sub_self]
          exact ⟨World.ownsRow_nil _ _ _ _, fun _ => rfl⟩
      case round =>
        clear HO2 HB2 HF HS
        obtain ⟨j, m, hj, rfl, HO, HB, HC, HV⟩ := hrel
        have y2 := HX.out.below HB.out (by omega)
        obtain ⟨c0, c1, c2⟩ := y2.cells
        have hh := y2.heap
        have hlt2 := y2.lt
        have hszr := HB.out.size
        clear y2
        match j, hj, HC, HV with
        | 0, hj, HC, HV =>
          have HN : Hid (VarsOwn wr w.heap.size u8 (downF F N N)) := ⟨own_base HV.out.1 HB0.out.size, HV.out.2⟩
          have HBN : Hid (Below w.heap.size w wr) := HB0.out.trans (HB.out.mono HB0.out.size)
          clear HO HB HC HG HGB HX HB0 HV
          go_wp2_with fail
          go_ret
          exact ⟨_, rfl, HN.out, HBN.out⟩
        | J + 1, hj, HC, HV =>
          have hJ : (((J + 1 : Nat) : Int) - 1) = (J : Int) := by omega
          rw [hJ]
          have hJN : J < N := by omega
          have r0 := own_read HO.out J hJN
          have hread := cone_read HGB.out (show J < I + gs.length by omega) HC.out
          obtain ⟨va, vcp, hv8⟩ := own_shape HV.out.1
          have hdl := downF_len F N (N - (J + 1))
          cases hb : at' m (J : Int) with
          | false =>
            rw [hb] at r0
            have HC3 : Hid (coneD (I : Int) gs (J - I) m = F) := cone_skip hb HC.out
            have HV3 : Hid (VarsOwn wr wa.heap.size u8 (downF F N (N - J))) := by
              have h1 := HV.out
              rw [← down_no hJN (hread.trans hb)] at h1
              exact h1
            clear HC hb HG HGB HV hread hv8
            go_wp2_with fail
            go_roundw
            case rel => exact ⟨J, m, by omega, by go_num, HO, HB, HC3, HV3⟩
            case measure => simp [intOf]
          | true =>
            rw [hb] at r0
            have g3 := l1Put_any u8 (downF F N (N - (J + 1))) (J : Int) (by omega) (by omega) (by omega) wr wa.heap.size hszr HV.out
            rw [← down_yes hJN (hread.trans hb)] at g3
            subst hv8
            generalize (downF F N (N - (J + 1))).length = dl at *
            clear hread HV
            go_wp2_with fail
            refine g3.mono ?_
            rintro e w5 ⟨rv, rfl, hv5, hs5⟩
            clear g3
            have HO5 : Hid (w5.ownsRow wa.heap.size 4 1 (.slice (some ⟨q, 0, none⟩) N N) N (cellsB m)) := owns_below HO.out hs5
            have HB5 : Hid (Below wa.heap.size wa w5) := HB.out.trans (hs5.mono hszr)
            have HV5 : Hid (VarsOwn w5 wa.heap.size rv (downF F N (N - J))) := hv5
            have y3 := HX.out.below HB5.out (by omega)
            obtain ⟨c0, c1, c2⟩ := y3.cells
            have hh := y3.heap
            have hlt3 := y3.lt
            clear hv5 hs5 HO HB y3 hszr
            by_cases hIJ : J < I
            · have HC3 : Hid (coneD (I : Int) gs (J - I) m = F) := cone_low hIJ HC.out
              clear HC HG HGB hb
              go_wp2_with fail
              go_roundw
              case rel => exact ⟨J, m, by omega, by go_num, HO5, HB5, HC3, HV5⟩
              case measure => simp [intOf]
            · obtain ⟨G, hG1⟩ : ∃ G : Nat, J - I = G := ⟨_, rfl⟩
              have hGI : (J : Int) - (I : Int) = (G : Int) := by omega
              have hGW : IntKind.i64.wrap ((J : Int) - (I : Int)) = (G : Int) := by rw [hGI]; exact IntWalk.i64_in _ (by omega)
              have hGl : G < gs.length := by omega
              obtain ⟨x, hx⟩ : ∃ x, gs[G]? = some x := ⟨gs[G], List.getElem?_eq_getElem hGl⟩
              obtain ⟨b, off, rfl, hbw, d0, d1, d2⟩ := HG.out w5 (HB0.out.trans (HB5.out.mono HB0.out.size)) G x hx
              have hgk := gateB_kind (HGB.out G x hx)
              have HC3 : Hid (coneD (I : Int) gs (J - I) (markB m (takenL x)) = F) := cone_gate (by omega) (by rw [hG1]; exact hx) hb HC.out
              obtain ⟨kk, xa, xb⟩ := x
              simp only at d0 d1 d2 hgk
              have hIJ' : (I : Int) ≤ (J : Int) := by omega
              clear HC HG HGB hb hx
              rcases hgk with ⟨rfl, ha0, ha1, rfl⟩ | ⟨rfl, ⟨ha0, ha1⟩, rfl⟩ | ⟨hk, ⟨ha0, ha1⟩, ⟨hb0, hb1⟩⟩
              · go_wp2_with fail
                go_roundw
                case rel => exact ⟨J, m, by omega, by go_num, HO5, HB5, HC3, HV5⟩
                case measure => simp [intOf]
              · obtain ⟨A, rfl⟩ := Int.eq_ofNat_of_zero_le ha0
                have hAN : A < N := by omega
                obtain ⟨⟨u0, e0⟩, f0, o0⟩ := mark_at HO5.out A hAN
                have HO6 : Hid ((w5.setCell ⟨q, A, none⟩ (.bool true)).ownsRow wa.heap.size 4 1 (.slice (some ⟨q, 0, none⟩) N N) N (cellsB (m.set A true))) := o0
                have HB6 : Hid (Below wa.heap.size wa (w5.setCell ⟨q, A, none⟩ (.bool true))) := HB5.out.setCell (by show wa.heap.size ≤ q; omega) _
                have HV6 : Hid (VarsOwn (w5.setCell ⟨q, A, none⟩ (.bool true)) wa.heap.size rv (downF F N (N - J))) := HV5.out.set HO5.out
                have HC6 : Hid (coneD (I : Int) gs (J - I) (m.set A true) = F) := HC3.out
                have z1 := (HX.out.below HB6.out (by omega)).cells
                obtain ⟨k0, k1, k2⟩ := z1
                have hqb : b ≠ q := by omega
                have hqb2 : w.heap.size ≠ q := by omega
                clear o0 HO5 HB5 HV5 HC3
                go_wp2_with fail
                go_roundw
                case rel => exact ⟨J, m.set A true, by omega, by go_num, HO6, HB6, HC6, HV6⟩
                case measure => simp [intOf]
              · obtain ⟨A, rfl⟩ := Int.eq_ofNat_of_zero_le ha0
                obtain ⟨Bw, rfl⟩ := Int.eq_ofNat_of_zero_le hb0
                have hAN : A < N := by omega
                have hBN : Bw < N := by omega
                obtain ⟨⟨u0, e0⟩, f0, o0⟩ := mark_at HO5.out A hAN
                obtain ⟨⟨u1, e1⟩, f1, o1⟩ := mark_at o0 Bw hBN
                have HO6 : Hid (((w5.setCell ⟨q, A, none⟩ (.bool true)).setCell ⟨q, Bw, none⟩ (.bool true)).ownsRow wa.heap.size 4 1 (.slice (some ⟨q, 0, none⟩) N N) N (cellsB ((m.set A true).set Bw true))) := o1
                have HB6 : Hid (Below wa.heap.size wa ((w5.setCell ⟨q, A, none⟩ (.bool true)).setCell ⟨q, Bw, none⟩ (.bool true))) := (HB5.out.setCell (by show wa.heap.size ≤ q; omega) _).setCell (by show wa.heap.size ≤ q; omega) _
                have HV6 : Hid (VarsOwn ((w5.setCell ⟨q, A, none⟩ (.bool true)).setCell ⟨q, Bw, none⟩ (.bool true)) wa.heap.size rv (downF F N (N - J))) := (HV5.out.set HO5.out).set o0
                have HC6 : Hid (coneD (I : Int) gs (J - I) ((m.set A true).set Bw true) = F) := by
                  have h1 := HC3.out
                  unfold takenL at h1
                  rw [if_pos hk] at h1
                  show coneD (I : Int) gs (J - I) ((m.set A true).set Bw true) = F
                  rw [set_swap]
                  exact h1
                have hqb : b ≠ q := by omega
                have hqb2 : w.heap.size ≠ q := by omega
                clear o0 o1 HO5 HB5 HV5 HC3
                rcases hk with rfl | rfl | rfl
                all_goals
                  go_wp2_with fail
                  go_roundw
                  case rel => exact ⟨J, (m.set A true).set Bw true, by omega, by go_num, HO6, HB6, HC6, HV6⟩
                  case measure => simp [intOf]
end Go.Proofs.Ytpjllhlbdcanlaa

namespace Go.Proofs.Ytpjllhlbdcanlaa
open Go Go.RowKit
open M
set_option linter.unusedVariables false

/-- what ConeOf tells -/
def coneB (c : Ci) (x : Int) : Bool := goodC c && inB (c.1 + c.2.1.length) x
def coneL (c : Ci) (x : Int) : List Int := if coneB c x = true then upF (coneF c [x]) (coneF c [x]).length else []
theorem coneL_len (c : Ci) (x : Int) : (coneL c x).length ≤ 1048576 := by
  unfold coneL
  split
  · rename_i h
    unfold coneB at h
    simp only [Bool.and_eq_true] at h
    obtain ⟨h0, h1, h2, _⟩ := goodC_ins h.1
    have := upF_len (coneF c [x]) (coneF c [x]).length
    rw [coneF_len] at *
    omega
  · simp
theorem ints_lit (w : World) (x : Int) : IntsAt (w.alloc (.cells #[.int .i64 x] 3)) (.slice (some ⟨w.heap.size, 0, none⟩) 1 1) [x] := ints_of_own (by simp) (own_ints_one w x)
set_option maxRecDepth 100000 in
set_option maxHeartbeats 4000000 in
theorem sConeOf_any (v : Value) (c : Ci) (x : Int) (hfx : Fit x) (w : World) (h : AtC w v c) :
    Calls Try.prog 43 #[v, .int .i64 x] w fun e w' => ∃ r, e = .returned (.tuple #[r, .bool (coneB c x)]) ∧ OwnIS w' w.heap.size w'.heap.size r (coneL c x) ∧ Below w.heap.size w w' := by
  obtain ⟨ga, gn, gc, oa, on, oc, hv⟩ := h.at.shape
  have hgn : gn = c.2.1.length := by
    obtain ⟨_, g, o, hv', h1, _⟩ := h
    obtain ⟨a, cap, hg⟩ := h1.shape
    rw [hv] at hv'
    rw [hg] at hv'
    simp at hv'
    exact hv'.1.2.1
  subst hv hgn
  have x0 := box3_alloc w 27 (.int .i64 c.1) (.slice ga c.2.1.length gc) (.slice oa on oc)
  have hb0 : Below w.heap.size w (w.alloc (.cells #[.int .i64 c.1, .slice ga c.2.1.length gc, .slice oa on oc] 27)) := (Below.refl _ _).alloc (Nat.le_refl _) _
  have g1 := sGood_any _ c _ (h.below hb0).at
  have hsz : (w.alloc (.cells #[.int .i64 c.1, .slice ga c.2.1.length gc, .slice oa on oc] 27)).heap.size = w.heap.size + 1 := by simp only [World.size_alloc]
  have hlt0 := x0.lt
  obtain ⟨hf0, hf1⟩ := hfx
  cases hgd : goodC c with
  | false =>
    have e1 : coneB c x = false := by unfold coneB; rw [hgd]; rfl
    have e2 : coneL c x = [] := by unfold coneL; rw [e1]; rfl
    rw [e1, e2]
    rw [hgd] at g1
    go_enter Try.func43, Try.ntmps43
    go_wp2_with fail
    refine g1.mono ?_
    rintro e w1 ⟨rfl, hs⟩
    have HB : Hid (Below w.heap.size w w1) := Below.step hb0 hb0.size hs
    clear g1 h
    go_wp2_with fail
    go_ret2
    exact ⟨_, rfl, rowIn_of (World.ownsRow_nil _ _ _ _), HB.out⟩
  | true =>
    rw [hgd] at g1
    obtain ⟨hI0, hI1, hG, hO, _, _⟩ := goodC_ins hgd
    have GC : Hid (∀ (w1 : World), Below w.heap.size w w1 → 0 ≤ x ∧ x < c.1 + c.2.1.length → Calls Try.prog 116 #[.agg #[.int .i64 c.1, .slice ga c.2.1.length gc, .slice oa on oc], .slice (some ⟨w1.heap.size, 0, none⟩) 1 1] (w1.alloc (.cells #[.int .i64 x] 3)) fun e w' => ∃ r, e = .returned r ∧ VarsOwn w' (w1.heap.size + 1) r (upF (coneF c [x]) (coneF c [x]).length) ∧ Below (w1.heap.size + 1) (w1.alloc (.cells #[.int .i64 x] 3)) w') := fun w1 hb hx => by
      have g := l4Cone_any (.agg #[.int .i64 c.1, .slice ga c.2.1.length gc, .slice oa on oc]) _ c [x] hgd (by intro y hy; simp at hy; subst hy; exact hx) (w1.alloc (.cells #[.int .i64 x] 3)) (h.at.below (hb.alloc hb.size _)) (ints_lit w1 x)
      rw [World.size_alloc] at g
      exact g
    have GW : Hid (∀ w1 : World, Calls Try.prog 93 #[.agg #[.int .i64 c.1, .slice ga c.2.1.length gc, .slice oa on oc]] w1 _) := fun w1 => l4Wires_raw c.1 ga c.2.1.length gc (.slice oa on oc) (by omega) (by omega) (by omega) w1
    obtain ⟨n0, hn0⟩ : ∃ n0 : Int, c.1 + (c.2.1.length : Int) = n0 := ⟨_, rfl⟩
    have hn1 : 0 ≤ n0 := by omega
    have hn2 : n0 ≤ 1000 := by omega
    have e1 : coneB c x = decide (0 ≤ x ∧ x < n0) := by unfold coneB; rw [hgd, hn0]; rfl
    by_cases hx : 0 ≤ x ∧ x < n0
    · rw [decide_eq_true hx] at e1
      have e2 : coneL c x = upF (coneF c [x]) (coneF c [x]).length := by unfold coneL; rw [e1]; rfl
      rw [e1, e2]
      have GA : Hid (∀ w1 : World, Calls Try.prog 100 #[.int .i64 x, .int .i64 0, .int .i64 (n0 - 1)] w1 fun e w' => e = .returned (.bool true) ∧ w' = w1) := fun w1 => by
        have g := l1In_any x 0 (n0 - 1) w1
        rw [decide_eq_true (by omega)] at g
        exact g
      rw [hn0] at GC GW
      generalize hcl : upF (coneF c [x]) (coneF c [x]).length = cl at *
      clear e1 e2 hcl h
      go_enter Try.func43, Try.ntmps43
      go_wp2_with fail
      refine g1.mono ?_
      rintro e w1 ⟨rfl, hs⟩
      have hb1 := Below.step hb0 hb0.size hs
      have x1 := x0.below hs (by omega)
      obtain ⟨c0, c1, c2⟩ := x1.cells
      have hh := x1.heap
      have hlt1 := x1.lt
      clear g1
      go_wp2_with fail
      refine (GW.out _).mono ?_
      rintro e w2 ⟨rfl, hw2⟩
      have hb2 : Below w.heap.size w w2 := by
        rw [hw2]
        exact hb1.alloc hb1.size _
      have x2 : Box3 w2 w.heap.size 27 (.int .i64 c.1) (.slice ga c.2.1.length gc) (.slice oa on oc) := by
        rw [hw2]
        exact x1.alloc _
      clear hw2 c0 c1 c2 hh hlt1 x1 hb1
      obtain ⟨c0, c1, c2⟩ := x2.cells
      have hh := x2.heap
      have hlt1 := x2.lt
      have g3 := GA.out w2
      go_wp2_with fail
      refine g3.mono ?_
      rintro e w3 ⟨rfl, rfl⟩
      have g4 := GC.out w3 hb2 hx
      have hb4 : Below w.heap.size w (w3.alloc (.cells #[.int .i64 x] 3)) := hb2.alloc hb2.size _
      have hs2 := hb2.size
      have x4 := x2.alloc (.cells #[.int .i64 x] 3)
      obtain ⟨k0, k1, k2⟩ := x4.cells
      clear g3
      go_wp2_with fail
      refine g4.mono ?_
      rintro e w4 ⟨r, rfl, ho, hs4⟩
      have HO : Hid (OwnIS w4 w.heap.size w4.heap.size r cl) := rowIn_of (own_base ho.1 (by omega))
      have HB : Hid (Below w.heap.size w w4) := hb4.trans (hs4.mono (by omega))
      clear g4 ho hs4 hb4
      go_wp2_with fail
      go_ret2
      exact ⟨_, rfl, HO.out, HB.out⟩
    · rw [decide_eq_false hx] at e1
      have e2 : coneL c x = [] := by unfold coneL; rw [e1]; rfl
      rw [e1, e2]
      have GA : Hid (∀ w1 : World, Calls Try.prog 100 #[.int .i64 x, .int .i64 0, .int .i64 (n0 - 1)] w1 fun e w' => e = .returned (.bool false) ∧ w' = w1) := fun w1 => by
        have g := l1In_any x 0 (n0 - 1) w1
        rw [decide_eq_false (by omega)] at g
        exact g
      rw [hn0] at GW
      clear e1 e2 h GC
      go_enter Try.func43, Try.ntmps43
      go_wp2_with fail
      refine g1.mono ?_
      rintro e w1 ⟨rfl, hs⟩
      have hb1 := Below.step hb0 hb0.size hs
      have x1 := x0.below hs (by omega)
      obtain ⟨c0, c1, c2⟩ := x1.cells
      have hh := x1.heap
      have hlt1 := x1.lt
      clear g1
      go_wp2_with fail
      refine (GW.out _).mono ?_
      rintro e w2 ⟨rfl, hw2⟩
      have HB2 : Hid (Below w.heap.size w w2) := by
        show Below w.heap.size w w2
        rw [hw2]
        exact hb1.alloc hb1.size _
      clear hw2 c0 c1 c2 hh hlt1 x1 hb1
      have g3 := GA.out w2
      go_wp2_with fail
      refine g3.mono ?_
      rintro e w3 ⟨rfl, rfl⟩
      clear g3
      go_wp2_with fail
      go_ret2
      exact ⟨_, rfl, rowIn_of (World.ownsRow_nil _ _ _ _), HB2.out⟩
set_option maxRecDepth 100000 in
set_option maxHeartbeats 4000000 in
theorem iConeOf_any (v : Value) (c : Ci) (x : Int) (hfx : Fit x) (w : World) (h : AtC w v c) :
    Calls Try.prog 42 #[v, .int .i64 x] w fun e w' => ∃ r, e = .returned (.tuple #[r, .bool (coneB c x)]) ∧ OwnIS w' w.heap.size w'.heap.size r (coneL c x) ∧ Below w.heap.size w w' := by
  obtain ⟨ga, gn, gc, oa, on, oc, hv⟩ := h.at.shape
  have hgn : gn = c.2.1.length := by
    obtain ⟨_, g, o, hv', h1, _⟩ := h
    obtain ⟨a, cap, hg⟩ := h1.shape
    rw [hv] at hv'
    rw [hg] at hv'
    simp at hv'
    exact hv'.1.2.1
  subst hv hgn
  have x0 := box3_alloc w 27 (.int .i64 c.1) (.slice ga c.2.1.length gc) (.slice oa on oc)
  have hb0 : Below w.heap.size w (w.alloc (.cells #[.int .i64 c.1, .slice ga c.2.1.length gc, .slice oa on oc] 27)) := (Below.refl _ _).alloc (Nat.le_refl _) _
  have g1 := iGood_any _ c _ (h.below hb0).at
  have hsz : (w.alloc (.cells #[.int .i64 c.1, .slice ga c.2.1.length gc, .slice oa on oc] 27)).heap.size = w.heap.size + 1 := by simp only [World.size_alloc]
  have hlt0 := x0.lt
  obtain ⟨hf0, hf1⟩ := hfx
  cases hgd : goodC c with
  | false =>
    have e1 : coneB c x = false := by unfold coneB; rw [hgd]; rfl
    have e2 : coneL c x = [] := by unfold coneL; rw [e1]; rfl
    rw [e1, e2]
    rw [hgd] at g1
    go_enter Try.func42, Try.ntmps42
    go_wp2_with fail
    refine g1.mono ?_
    rintro e w1 ⟨rfl, hs⟩
    have HB : Hid (Below w.heap.size w w1) := Below.step hb0 hb0.size hs
    clear g1 h
    go_wp2_with fail
    go_ret2
    exact ⟨_, rfl, rowIn_of (World.ownsRow_nil _ _ _ _), HB.out⟩
  | true =>
    rw [hgd] at g1
    obtain ⟨hI0, hI1, hG, hO, _, _⟩ := goodC_ins hgd
    have GC : Hid (∀ (w1 : World), Below w.heap.size w w1 → 0 ≤ x ∧ x < c.1 + c.2.1.length → Calls Try.prog 114 #[.agg #[.int .i64 c.1, .slice ga c.2.1.length gc, .slice oa on oc], .slice (some ⟨w1.heap.size, 0, none⟩) 1 1] (w1.alloc (.cells #[.int .i64 x] 3)) fun e w' => ∃ r, e = .returned r ∧ OwnBools w' (w1.heap.size + 1) r (coneF c [x]) ∧ Below (w1.heap.size + 1) (w1.alloc (.cells #[.int .i64 x] 3)) w') := fun w1 hb hx => by
      have g := cone_any (.agg #[.int .i64 c.1, .slice ga c.2.1.length gc, .slice oa on oc]) _ c [x] hgd (by intro y hy; simp at hy; subst hy; exact hx) (w1.alloc (.cells #[.int .i64 x] 3)) (h.at.below (hb.alloc hb.size _)) (ints_lit w1 x)
      rw [World.size_alloc] at g
      exact g
    have GW : Hid (∀ w1 : World, Calls Try.prog 96 #[.agg #[.int .i64 c.1, .slice ga c.2.1.length gc, .slice oa on oc]] w1 _) := fun w1 => size_raw c.1 ga c.2.1.length gc (.slice oa on oc) (by omega) (by omega) (by omega) w1
    obtain ⟨n0, hn0⟩ : ∃ n0 : Int, c.1 + (c.2.1.length : Int) = n0 := ⟨_, rfl⟩
    have hn1 : 0 ≤ n0 := by omega
    have hn2 : n0 ≤ 1000 := by omega
    have e1 : coneB c x = decide (0 ≤ x ∧ x < n0) := by unfold coneB; rw [hgd, hn0]; rfl
    have GA : Hid (∀ w1 : World, Calls Try.prog 95 #[.int .i64 n0, .slice (some ⟨w1.heap.size, 0, none⟩) 1 1] (w1.alloc (.cells #[.int .i64 x] 3)) fun e w' => e = .returned (.bool (decide (0 ≤ x ∧ x < n0))) ∧ w' = (w1.alloc (.cells #[.int .i64 x] 3))) := fun w1 => by
      have g := goodWires_any _ [x] n0 _ (ints_lit w1 x)
      rw [show ([x].all (inB n0)) = decide (0 ≤ x ∧ x < n0) from by simp [inB]] at g
      exact g
    have hFl := coneF_len c [x]
    by_cases hx : 0 ≤ x ∧ x < n0
    · rw [decide_eq_true hx] at e1 GA
      have e2 : coneL c x = upF (coneF c [x]) (coneF c [x]).length := by unfold coneL; rw [e1]; rfl
      rw [e1, e2]
      rw [hn0] at GC GW
      generalize coneF c [x] = F at *
      obtain ⟨i0, hi, hz0, hz1, hz2⟩ := info_parts infoInt
      have hFb : F.length ≤ 1000 := by omega
      clear e1 e2 h hFl
      go_enter Try.func42, Try.ntmps42
      go_wp2_with fail
      refine g1.mono ?_
      rintro e w1 ⟨rfl, hs⟩
      have hb1 := Below.step hb0 hb0.size hs
      have x1 := x0.below hs (by omega)
      obtain ⟨c0, c1, c2⟩ := x1.cells
      have hh := x1.heap
      have hlt1 := x1.lt
      clear g1
      go_wp2_with fail
      refine (GW.out _).mono ?_
      rintro e w2 ⟨rfl, hw2⟩
      have hb2 : Below w.heap.size w w2 := by
        rw [hw2]
        exact hb1.alloc hb1.size _
      have x2 : Box3 w2 w.heap.size 27 (.int .i64 c.1) (.slice ga c.2.1.length gc) (.slice oa on oc) := by
        rw [hw2]
        exact x1.alloc _
      clear hw2 c0 c1 c2 hh hlt1 x1 hb1
      have g3 := GA.out w2
      go_wp2_with fail
      refine g3.mono ?_
      rintro e w3 ⟨rfl, hw3⟩
      have hb3 : Below w.heap.size w w3 := by
        rw [hw3]
        exact hb2.alloc hb2.size _
      have x3 : Box3 w3 w.heap.size 27 (.int .i64 c.1) (.slice ga c.2.1.length gc) (.slice oa on oc) := by
        rw [hw3]
        exact x2.alloc _
      clear hw3 g3 x2 hb2
      have g4 := GC.out w3 hb3 hx
      have hs3 := hb3.size
      have hb4 : Below w.heap.size w (w3.alloc (.cells #[.int .i64 x] 3)) := hb3.alloc hb3.size _
      have x4 := x3.alloc (.cells #[.int .i64 x] 3)
      obtain ⟨k0, k1, k2⟩ := x3.cells
      have hh := x3.heap
      have hlt1 := x3.lt
      go_wp2_with fail
      refine g4.mono ?_
      rintro e w4 ⟨r, rfl, ho, hs4⟩
      have HB4 : Hid (Below w.heap.size w w4) := hb4.trans (hs4.mono (by omega))
      have hw4 := HB4.out.size
      obtain ⟨ra, rcap, hr⟩ := own_shape ho
      subst hr
      have HR : Hid (∀ w2 : World, Below w4.heap.size w4 w2 → BoolsAt w2 (.slice ra F.length rcap) F) := fun w2 hb => (bools_of_own (by omega) ho).below hb
      clear g4 ho hs4 hb4 x4 k0 k1 k2 hh hlt1 x3 GC GW GA
      go_wp2_with fail
      go_loopw [6, 25] (fun v i wr => ∃ j : Nat, j ≤ F.length ∧ i = .int .i64 j ∧ Hid (OwnInts wr w4.heap.size v (upF F j)) ∧ Hid (Below w4.heap.size w4 wr)) (fun _ i _ => F.length - (intOf i).toNat)
      case atStart => exact ⟨0, by omega, rfl, World.ownsRow_nil _ _ _ _, Below.refl _ _⟩
      case round =>
        obtain ⟨j, hj, rfl, HO, HB⟩ := hrel
        have hszr := HB.out.size
        by_cases hlt : j < F.length
        · obtain ⟨z, hz⟩ : ∃ z, F[j]? = some z := ⟨F[j], List.getElem?_eq_getElem hlt⟩
          obtain ⟨_, _, hrr, hrc⟩ := (HR.out wr HB.out).opened
          injection hrr with er1 er2 er3
          subst er1 er3
          obtain ⟨rb, roff, rfl, hrb, d0⟩ := hrc j z hz
          have hgd' : F.getD j false = z := by rw [List.getD_eq_getElem?_getD, hz]; rfl
          have hul := upF_len F j
          cases z with
          | false =>
            have HN : Hid (OwnInts wr w4.heap.size u6 (upF F (j + 1))) := by
              have h1 := HO.out
              show OwnInts wr w4.heap.size u6 (upF F (j + 1))
              rw [upF, if_neg (by rw [hgd']; decide), List.append_nil]
              exact h1
            clear HO hz hrc HR hgd'
            go_wp2_with fail
            go_roundw
            case rel => exact ⟨j + 1, by omega, by go_num, HN, HB⟩
            case measure => simp [intOf]; omega
          | true =>
            have HNX : Hid (∀ (v2 : Value) (w2 : World), w2.ownsRow w4.heap.size 3 1 v2 ((upF F j).length + 1) ((upF F j).map (Value.int .i64) ++ [.int .i64 (j : Int)]) → OwnInts w2 w4.heap.size v2 (upF F (j + 1))) := by
              intro v2 w2 ho2
              show OwnInts w2 w4.heap.size v2 (upF F (j + 1))
              rw [upF, if_pos hgd']
              unfold OwnInts
              rw [List.length_append, List.map_append]
              exact ho2
            have own5 : wr.ownsRow w4.heap.size 3 1 u6 (upF F j).length ((upF F j).map (Value.int .i64)) := HO.out
            obtain ⟨va, vc5, hv5⟩ := own_shape own5
            subst hv5
            have own6 := own5.alloc (.cells #[.int .i64 (j : Int)] 3)
            have hb6 : Below w4.heap.size w4 (wr.alloc (.cells #[.int .i64 (j : Int)] 3)) := HB.out.alloc hszr _
            have hs6 := hb6.size
            clear HO hz hrc HR hgd' own5 HB
            generalize (upF F j).length = un at *
            generalize ((upF F j).map (Value.int .i64)) = cb at *
            go_wp2_with (at_builtin; refine wpList_append_own _ rfl _ _ 25 rfl w4.heap.size 3 i0 (.int .i64 0) 1 8 Try.underlying25 hi hz0 hz1 hz2 rfl (by decide) _ _ _ rfl own6 ⟨wr.heap.size, 0, none⟩ 1 1 [.int .i64 (j : Int)] rfl rfl (oneI_cells wr j) (ints_one [(j : Int)]) (by unfold maxLen; omega) (by omega) (by omega) ?_)
            intro v2 w2' own7 grow7 _
            have HB7 : Hid (Below w4.heap.size w4 w2') := below_app hb6 (by omega) (Nat.le_refl _) own6 grow7
            have HO7 : Hid (OwnInts w2' w4.heap.size v2 (upF F (j + 1))) := HNX.out v2 w2' own7
            clear own6 own7 grow7 hb6 HNX
            go_wp2_with fail
            go_roundw
            case rel => exact ⟨j + 1, by omega, by go_num, HO7, HB7⟩
            case measure => simp [intOf]; omega
        · obtain rfl : j = F.length := by omega
          have HN : Hid (OwnIS wr w.heap.size wr.heap.size u6 (upF F F.length)) := rowIn_of (own_base HO.out hw4)
          have HB2 : Hid (Below w.heap.size w wr) := HB4.out.trans (HB.out.mono hw4)
          clear HO HB HR
          go_wp2_with fail
          go_ret2
          exact ⟨_, rfl, HN.out, HB2.out⟩
    · rw [decide_eq_false hx] at e1 GA
      have e2 : coneL c x = [] := by unfold coneL; rw [e1]; rfl
      rw [e1, e2]
      rw [hn0] at GW
      clear e1 e2 h hFl GC
      go_enter Try.func42, Try.ntmps42
      go_wp2_with fail
      refine g1.mono ?_
      rintro e w1 ⟨rfl, hs⟩
      have hb1 := Below.step hb0 hb0.size hs
      have x1 := x0.below hs (by omega)
      obtain ⟨c0, c1, c2⟩ := x1.cells
      have hh := x1.heap
      have hlt1 := x1.lt
      clear g1
      go_wp2_with fail
      refine (GW.out _).mono ?_
      rintro e w2 ⟨rfl, hw2⟩
      have hb2 : Below w.heap.size w w2 := by
        rw [hw2]
        exact hb1.alloc hb1.size _
      clear hw2 c0 c1 c2 hh hlt1 x1 hb1
      have g3 := GA.out w2
      go_wp2_with fail
      refine g3.mono ?_
      rintro e w3 ⟨rfl, hw3⟩
      have HB3 : Hid (Below w.heap.size w w3) := by
        show Below w.heap.size w w3
        rw [hw3]
        exact hb2.alloc hb2.size _
      clear hw3 g3 hb2
      go_wp2_with fail
      go_ret2
      exact ⟨_, rfl, rowIn_of (World.ownsRow_nil _ _ _ _), HB3.out⟩
end Go.Proofs.Ytpjllhlbdcanlaa

namespace Go.Proofs.Ytpjllhlbdcanlaa
open Go Go.RowKit
open M
set_option linter.unusedVariables false
set_option linter.unusedSimpArgs false

set_option maxRecDepth 100000 in
set_option maxHeartbeats 8000000 in
theorem iAddGates_bad (v av bv : Value) (c : Ci) (a b : List Int) (k : Int) (hfk : Fit k) (hsd : sidesB c a b = false) (w : World) (h : AtC w v c) (ha : AtIS w av a) (hb : AtIS w bv b) :
    Calls Try.prog 20 #[v, av, bv, .int .i64 k] w fun e w' => ∃ r0 r1, e = .returned (.tuple #[r0, r1, .bool false]) ∧ OwnCirc w' w.heap.size w'.heap.size r0 (0, [], []) ∧ OwnIS w' w.heap.size w'.heap.size r1 [] ∧ ApartIS r0 r1 ∧ Below w.heap.size w w' := by
  obtain ⟨ga, gn, gc, oa, on, oc, hv⟩ := h.at.shape
  have hgn : gn = c.2.1.length := by
    obtain ⟨_, g, o, hv', h1, _⟩ := h
    obtain ⟨a', cap, hg⟩ := h1.shape
    rw [hv] at hv'
    rw [hg] at hv'
    simp at hv'
    exact hv'.1.2.1
  subst hv
  obtain ⟨aa, ac, hav⟩ := ha.1.shape
  obtain ⟨ba, bc, hbv⟩ := hb.1.shape
  have hb0 : Below w.heap.size w ((w.alloc (.cells #[.int .i64 c.1, .slice ga gn gc, .slice oa on oc] 27)).alloc (.cells #[.int .i64 0, .slice none 0 0, .slice none 0 0] 27)) := below2 _ _ _
  have x0 := (box3_alloc w 27 (.int .i64 c.1) (.slice ga gn gc) (.slice oa on oc)).alloc (.cells #[.int .i64 0, .slice none 0 0, .slice none 0 0] 27)
  have x1 := box3_alloc (w.alloc (.cells #[.int .i64 c.1, .slice ga gn gc, .slice oa on oc] 27)) 27 (.int .i64 0) (.slice none 0 0) (.slice none 0 0)
  simp only [World.size_alloc] at x1
  have g1 := iSides_any _ _ _ c a b _ (h.below hb0).at (ha.1.below hb0) (hb.1.below hb0)
  rw [hsd] at g1
  have hsz : ((w.alloc (.cells #[.int .i64 c.1, .slice ga gn gc, .slice oa on oc] 27)).alloc (.cells #[.int .i64 0, .slice none 0 0, .slice none 0 0] 27)).heap.size = w.heap.size + 1 + 1 := by simp only [World.size_alloc]
  subst hav hbv
  clear hgn h ha hb
  generalize a.length = an at *
  generalize b.length = bn at *
  go_enter Try.func20, Try.ntmps20
  go_wp2_with fail
  refine g1.mono ?_
  rintro e w1 ⟨rfl, hs⟩
  have hb1 := Below.step hb0 hb0.size hs
  have y0 := x0.below hs (by omega)
  have y1 := x1.below hs (by omega)
  have hsz1 := hs.size
  rw [hsz] at hsz1
  clear g1 hs hb0 x0 x1 hsz
  clear y0
  obtain ⟨r0, r1, r2⟩ := y1.cells
  have rh := y1.heap
  have rl := y1.lt
  have rf0 := y1.frozen 0
  have rf1 := y1.frozen 1
  have rf2 := y1.frozen 2
  go_wp2_with fail
  have z1 := ((y1.set0 (.int .i64 0)).set1 (.slice none 0 0)).set2 (.slice none 0 0)
  have hbz := ((hb1.setCell (p := ⟨w.heap.size + 1, 0, none⟩) (Nat.le_succ _) (.int .i64 0)).setCell (p := ⟨w.heap.size + 1, 1, none⟩) (Nat.le_succ _) (.slice none 0 0)).setCell (p := ⟨w.heap.size + 1, 2, none⟩) (Nat.le_succ _) (.slice none 0 0)
  refine bodyPost_ret (results_c2 rfl _ _ (w.heap.size + 1) 27 _ (0, 0) _ rfl z1.heap Try.underlying27 rfl (by kernel_rfl)) rfl ?_
  exact ⟨_, _, rfl, ⟨_, _, rfl, rowIn_of (World.ownsRow_nil _ _ _ _), rowIn_of (World.ownsRow_nil _ _ _ _)⟩, rowIn_of (World.ownsRow_nil _ _ _ _), apart_nil _, hbz⟩
set_option maxRecDepth 100000 in
set_option maxHeartbeats 8000000 in
theorem iAddGates_badk (v av bv : Value) (c : Ci) (a b : List Int) (k : Int) (hfk : Fit k) (hsd : sidesB c a b = true) (hki : inB (wiresN c) k = false) (w : World) (h : AtC w v c) (ha : AtIS w av a) (hb : AtIS w bv b) :
    Calls Try.prog 20 #[v, av, bv, .int .i64 k] w fun e w' => ∃ r0 r1, e = .returned (.tuple #[r0, r1, .bool false]) ∧ OwnCirc w' w.heap.size w'.heap.size r0 (0, [], []) ∧ OwnIS w' w.heap.size w'.heap.size r1 [] ∧ ApartIS r0 r1 ∧ Below w.heap.size w w' := by
  obtain ⟨hgd, hl, h16, _, _⟩ := sides_parts hsd
  obtain ⟨hI0, hI1, hG, hO, _, _⟩ := goodC_ins hgd
  obtain ⟨ga, gn, gc, oa, on, oc, hv⟩ := h.at.shape
  have hgn : gn = c.2.1.length := by
    obtain ⟨_, g, o, hv', h1, _⟩ := h
    obtain ⟨a', cap, hg⟩ := h1.shape
    rw [hv] at hv'
    rw [hg] at hv'
    simp at hv'
    exact hv'.1.2.1
  subst hv
  obtain ⟨aa, ac, hav⟩ := ha.1.shape
  obtain ⟨ba, bc, hbv⟩ := hb.1.shape
  have hb0 : Below w.heap.size w ((w.alloc (.cells #[.int .i64 c.1, .slice ga gn gc, .slice oa on oc] 27)).alloc (.cells #[.int .i64 0, .slice none 0 0, .slice none 0 0] 27)) := below2 _ _ _
  have x0 := (box3_alloc w 27 (.int .i64 c.1) (.slice ga gn gc) (.slice oa on oc)).alloc (.cells #[.int .i64 0, .slice none 0 0, .slice none 0 0] 27)
  have x1 := box3_alloc (w.alloc (.cells #[.int .i64 c.1, .slice ga gn gc, .slice oa on oc] 27)) 27 (.int .i64 0) (.slice none 0 0) (.slice none 0 0)
  simp only [World.size_alloc] at x1
  have g1 := iSides_any _ _ _ c a b _ (h.below hb0).at (ha.1.below hb0) (hb.1.below hb0)
  rw [hsd] at g1
  have hsz : ((w.alloc (.cells #[.int .i64 c.1, .slice ga gn gc, .slice oa on oc] 27)).alloc (.cells #[.int .i64 0, .slice none 0 0, .slice none 0 0] 27)).heap.size = w.heap.size + 1 + 1 := by simp only [World.size_alloc]
  have GW : Hid (∀ w1 : World, Calls Try.prog 96 #[.agg #[.int .i64 c.1, .slice ga gn gc, .slice oa on oc]] w1 fun e w' => e = .returned (.int .i64 (wiresN c)) ∧ Below w1.heap.size w1 w') := fun w1 => by
    rw [hgn]
    refine (size_raw c.1 ga c.2.1.length gc (.slice oa on oc) (by omega) (by omega) (by omega) w1).mono ?_
    rintro e w' ⟨he, hw⟩
    exact ⟨he, by rw [hw]; exact (Below.refl _ _).alloc (Nat.le_refl _) _⟩
  have GK : Hid (∀ w1 : World, Calls Try.prog 95 #[.int .i64 (wiresN c), .slice (some ⟨w1.heap.size, 0, none⟩) 1 1] (w1.alloc (.cells #[.int .i64 k] 3)) fun e w' => e = .returned (.bool false) ∧ Below w1.heap.size w1 w') := fun w1 => by
    have g := goodWires_any _ [k] (wiresN c) _ (ints_lit w1 k)
    rw [show ([k].all (inB (wiresN c))) = inB (wiresN c) k from by simp, hki] at g
    refine g.mono ?_
    rintro e w' ⟨he, hw⟩
    exact ⟨he, by rw [hw]; exact (Below.refl _ _).alloc (Nat.le_refl _) _⟩
  have hwn0 : 0 ≤ wiresN c := by unfold wiresN; omega
  have hwn1 : wiresN c ≤ 1000 := by unfold wiresN; omega
  obtain ⟨hfk0, hfk1⟩ := hfk
  subst hav hbv
  clear hgn h ha hb hsd hl h16
  generalize a.length = an at *
  generalize b.length = bn at *
  go_enter Try.func20, Try.ntmps20
  go_wp2_with fail
  refine g1.mono ?_
  rintro e w1 ⟨rfl, hs⟩
  have hb1 := Below.step hb0 hb0.size hs
  have y0 := x0.below hs (by omega)
  have y1 := x1.below hs (by omega)
  have hsz1 := hs.size
  rw [hsz] at hsz1
  clear g1 hs hb0 x0 x1 hsz
  obtain ⟨c0, c1, c2⟩ := y0.cells
  have ch := y0.heap
  have cl := y0.lt
  go_wp2_with fail
  refine (GW.out w1).mono ?_
  rintro e w2 ⟨rfl, hst⟩
  clear c0 c1 c2 ch cl
  have hb' : Below w.heap.size w w2 := hb1.trans (hst.mono hb1.size)
  have hst' := hst.size
  have y0' := y0.below hst y0.lt
  have y1' := y1.below hst y1.lt
  clear hst hb1 y0 y1
  have hb1 := hb'
  clear hb'
  have y0 := y0'
  clear y0'
  have y1 := y1'
  clear y1'
  obtain ⟨c0, c1, c2⟩ := y0.cells
  have ch := y0.heap
  have cl := y0.lt
  go_wp2_with fail
  refine (GK.out w2).mono ?_
  rintro e w3 ⟨rfl, hst⟩
  clear c0 c1 c2 ch cl
  have hb' : Below w.heap.size w w3 := hb1.trans (hst.mono hb1.size)
  have hst' := hst.size
  have y0' := y0.below hst y0.lt
  have y1' := y1.below hst y1.lt
  clear hst hb1 y0 y1
  have hb1 := hb'
  clear hb'
  have y0 := y0'
  clear y0'
  have y1 := y1'
  clear y1'
  clear GW GK
  clear y0
  obtain ⟨r0, r1, r2⟩ := y1.cells
  have rh := y1.heap
  have rl := y1.lt
  have rf0 := y1.frozen 0
  have rf1 := y1.frozen 1
  have rf2 := y1.frozen 2
  go_wp2_with fail
  have z1 := ((y1.set0 (.int .i64 0)).set1 (.slice none 0 0)).set2 (.slice none 0 0)
  have hbz := ((hb1.setCell (p := ⟨w.heap.size + 1, 0, none⟩) (Nat.le_succ _) (.int .i64 0)).setCell (p := ⟨w.heap.size + 1, 1, none⟩) (Nat.le_succ _) (.slice none 0 0)).setCell (p := ⟨w.heap.size + 1, 2, none⟩) (Nat.le_succ _) (.slice none 0 0)
  refine bodyPost_ret (results_c2 rfl _ _ (w.heap.size + 1) 27 _ (0, 0) _ rfl z1.heap Try.underlying27 rfl (by kernel_rfl)) rfl ?_
  exact ⟨_, _, rfl, ⟨_, _, rfl, rowIn_of (World.ownsRow_nil _ _ _ _), rowIn_of (World.ownsRow_nil _ _ _ _)⟩, rowIn_of (World.ownsRow_nil _ _ _ _), apart_nil _, hbz⟩
set_option maxRecDepth 100000 in
set_option maxHeartbeats 8000000 in
theorem iAddGates_no (v av bv : Value) (c : Ci) (a b : List Int) (k : Int) (hfk : Fit k) (hsd : sidesB c a b = true) (hki : inB (wiresN c) k = true) (hgD : goodC (addC c a b k) = false) (w : World) (h : AtC w v c) (ha : AtIS w av a) (hb : AtIS w bv b) :
    Calls Try.prog 20 #[v, av, bv, .int .i64 k] w fun e w' => ∃ r0 r1, e = .returned (.tuple #[r0, r1, .bool false]) ∧ OwnCirc w' w.heap.size w'.heap.size r0 (0, [], []) ∧ OwnIS w' w.heap.size w'.heap.size r1 [] ∧ ApartIS r0 r1 ∧ Below w.heap.size w w' := by
  obtain ⟨hgd, hl, h16, _, _⟩ := sides_parts hsd
  obtain ⟨hI0, hI1, hG, hO, _, _⟩ := goodC_ins hgd
  obtain ⟨ga, gn, gc, oa, on, oc, hv⟩ := h.at.shape
  have hgn : gn = c.2.1.length := by
    obtain ⟨_, g, o, hv', h1, _⟩ := h
    obtain ⟨a', cap, hg⟩ := h1.shape
    rw [hv] at hv'
    rw [hg] at hv'
    simp at hv'
    exact hv'.1.2.1
  subst hv
  obtain ⟨aa, ac, hav⟩ := ha.1.shape
  obtain ⟨ba, bc, hbv⟩ := hb.1.shape
  have hb0 : Below w.heap.size w ((w.alloc (.cells #[.int .i64 c.1, .slice ga gn gc, .slice oa on oc] 27)).alloc (.cells #[.int .i64 0, .slice none 0 0, .slice none 0 0] 27)) := below2 _ _ _
  have x0 := (box3_alloc w 27 (.int .i64 c.1) (.slice ga gn gc) (.slice oa on oc)).alloc (.cells #[.int .i64 0, .slice none 0 0, .slice none 0 0] 27)
  have x1 := box3_alloc (w.alloc (.cells #[.int .i64 c.1, .slice ga gn gc, .slice oa on oc] 27)) 27 (.int .i64 0) (.slice none 0 0) (.slice none 0 0)
  simp only [World.size_alloc] at x1
  have g1 := iSides_any _ _ _ c a b _ (h.below hb0).at (ha.1.below hb0) (hb.1.below hb0)
  rw [hsd] at g1
  have hsz : ((w.alloc (.cells #[.int .i64 c.1, .slice ga gn gc, .slice oa on oc] 27)).alloc (.cells #[.int .i64 0, .slice none 0 0, .slice none 0 0] 27)).heap.size = w.heap.size + 1 + 1 := by simp only [World.size_alloc]
  have GW : Hid (∀ w1 : World, Calls Try.prog 96 #[.agg #[.int .i64 c.1, .slice ga gn gc, .slice oa on oc]] w1 fun e w' => e = .returned (.int .i64 (wiresN c)) ∧ Below w1.heap.size w1 w') := fun w1 => by
    rw [hgn]
    refine (size_raw c.1 ga c.2.1.length gc (.slice oa on oc) (by omega) (by omega) (by omega) w1).mono ?_
    rintro e w' ⟨he, hw⟩
    exact ⟨he, by rw [hw]; exact (Below.refl _ _).alloc (Nat.le_refl _) _⟩
  have GK : Hid (∀ w1 : World, Calls Try.prog 95 #[.int .i64 (wiresN c), .slice (some ⟨w1.heap.size, 0, none⟩) 1 1] (w1.alloc (.cells #[.int .i64 k] 3)) fun e w' => e = .returned (.bool true) ∧ Below w1.heap.size w1 w') := fun w1 => by
    have g := goodWires_any _ [k] (wiresN c) _ (ints_lit w1 k)
    rw [show ([k].all (inB (wiresN c))) = inB (wiresN c) k from by simp, hki] at g
    refine g.mono ?_
    rintro e w' ⟨he, hw⟩
    exact ⟨he, by rw [hw]; exact (Below.refl _ _).alloc (Nat.le_refl _) _⟩
  have hwn0 : 0 ≤ wiresN c := by unfold wiresN; omega
  have hwn1 : wiresN c ≤ 1000 := by unfold wiresN; omega
  obtain ⟨hfk0, hfk1⟩ := hfk
  have GG : Hid (∀ w1 : World, Below w.heap.size w w1 → Calls Try.prog 97 #[.agg #[.int .i64 c.1, .slice ga gn gc, .slice oa on oc]] w1 fun e w' => ∃ b, e = .returned (.pointer (some ⟨b, 0, none⟩)) ∧ Bld w' w1.heap.size w'.heap.size b 27 c ∧ Below w1.heap.size w1 w') := fun w1 hw => grown_any _ c hI0 hI1 hG hO w1 (h.below hw)
  have GL : Hid (∀ (lo hi bl : Nat) (w1 : World), Bld w1 lo hi bl 27 c → hi ≤ w1.heap.size → w.heap.size ≤ lo → Below w.heap.size w w1 → Calls Try.prog 98 #[.pointer (some ⟨bl, 0, none⟩), av, bv, .int .i64 k] w1 fun e w' => ∃ r, e = .returned r ∧ w'.ownsRow w1.heap.size 3 1 r (addG a b k (wiresN c)).2.length (cellsI (addG a b k (wiresN c)).2) ∧ Bld w' lo hi bl 27 (addC c a b k) ∧ Below lo w1 w') := fun lo hi bl w1 hB hhi hlo hb' => iAdd_any lo hi bl c.1 c.2.1 c.2.2 av bv a b k (wiresN c) rfl hI0 hI1 hG hl h16 w1 hB hhi (fun w' hw => ha.1.below (hb'.trans (hw.mono hlo))) (fun w' hw => hb.1.below (hb'.trans (hw.mono hlo)))
  have HGO : Hid (∀ (u : Value) (w1 : World), AtCirc w1 u (addC c a b k) → Calls Try.prog 24 #[u] w1 fun e w' => e = .returned (.bool false) ∧ Below w1.heap.size w1 w') := fun u w1 h1 => by
    have g := iGood_any u _ w1 h1
    rw [hgD] at g
    exact g
  have hfit : Fit (addC c a b k).1 := h.1
  have hDs := addC_sm hsd hki
  have hD2 : (addC c a b k).2.2.length ≤ 16 := hO
  rw [hav, hbv] at GL
  obtain ⟨DD, hDD⟩ : ∃ DD, (addC c a b k) = DD := ⟨_, rfl⟩
  rw [hDD] at GL HGO hfit hDs hD2
  obtain ⟨SU, hSU⟩ : ∃ SU, (addG a b k (wiresN c)).2 = SU := ⟨_, rfl⟩
  rw [hSU] at GL
  clear hSU
  clear hDD hgD
  subst hav hbv
  clear hgn h ha hb hsd hl h16
  generalize a.length = an at *
  generalize b.length = bn at *
  go_enter Try.func20, Try.ntmps20
  go_wp2_with fail
  refine g1.mono ?_
  rintro e w1 ⟨rfl, hs⟩
  have hb1 := Below.step hb0 hb0.size hs
  have y0 := x0.below hs (by omega)
  have y1 := x1.below hs (by omega)
  have hsz1 := hs.size
  rw [hsz] at hsz1
  clear g1 hs hb0 x0 x1 hsz
  obtain ⟨c0, c1, c2⟩ := y0.cells
  have ch := y0.heap
  have cl := y0.lt
  go_wp2_with fail
  refine (GW.out w1).mono ?_
  rintro e w2 ⟨rfl, hst⟩
  clear c0 c1 c2 ch cl
  have hb' : Below w.heap.size w w2 := hb1.trans (hst.mono hb1.size)
  have hst' := hst.size
  have y0' := y0.below hst y0.lt
  have y1' := y1.below hst y1.lt
  clear hst hb1 y0 y1
  have hb1 := hb'
  clear hb'
  have y0 := y0'
  clear y0'
  have y1 := y1'
  clear y1'
  obtain ⟨c0, c1, c2⟩ := y0.cells
  have ch := y0.heap
  have cl := y0.lt
  go_wp2_with fail
  refine (GK.out w2).mono ?_
  rintro e w3 ⟨rfl, hst⟩
  clear c0 c1 c2 ch cl
  have hb' : Below w.heap.size w w3 := hb1.trans (hst.mono hb1.size)
  have hst' := hst.size
  have y0' := y0.below hst y0.lt
  have y1' := y1.below hst y1.lt
  clear hst hb1 y0 y1
  have hb1 := hb'
  clear hb'
  have y0 := y0'
  clear y0'
  have y1 := y1'
  clear y1'
  clear GW GK
  obtain ⟨c0, c1, c2⟩ := y0.cells
  have ch := y0.heap
  have cl := y0.lt
  go_wp2_with fail
  refine (GG.out w3 hb1).mono ?_
  rintro e w4 ⟨bl, rfl, hB, hst⟩
  clear c0 c1 c2 ch cl
  have hlo : w.heap.size + 1 + 1 ≤ w3.heap.size := by omega
  have hblo := hB.1
  have hb' : Below w.heap.size w w4 := hb1.trans (hst.mono hb1.size)
  have hst' := hst.size
  have y0' := y0.below hst y0.lt
  have y1' := y1.below hst y1.lt
  clear hst hb1 y0 y1
  have hb1 := hb'
  clear hb'
  have y0 := y0'
  clear y0'
  have y1 := y1'
  clear y1'
  have hhi : w4.heap.size ≤ w4.heap.size := Nat.le_refl _
  go_wp2_with fail
  refine (GL.out w3.heap.size w4.heap.size bl w4 hB hhi (by omega) hb1).mono ?_
  rintro e w5 ⟨rs, rfl, hrs, hB5, hs5⟩
  have hst : Below w.heap.size w w5 := hb1.trans (hs5.mono (by omega))
  have y1' := y1.below hs5 (by omega)
  have hs5' := hs5.size
  obtain ⟨gsl, osl, hx5, hat, hog5, hoo5, hob5⟩ := hB5.reads hfit hDs.1 (by omega) (by omega)
  clear hB hB5 y0 y1 hs5 GG GL hb1
  have hb1 := hst
  clear hst
  have y1 := y1'
  clear y1'
  obtain ⟨sga, sgc, hsg⟩ := own_shape hog5
  obtain ⟨soa, soc, hso⟩ := own_shape hoo5
  subst hsg hso
  obtain ⟨sra, src, hsr⟩ := own_shape hrs
  subst hsr
  have hblt := hx5.lt
  obtain ⟨c0, c1, c2⟩ := hx5.cells
  have ch := hx5.heap
  have cl := hx5.lt
  go_wp2_with fail
  refine (HGO.out _ w5 hat).mono ?_
  rintro e w6 ⟨rfl, hst⟩
  have hb' : Below w.heap.size w w6 := hb1.trans (hst.mono hb1.size)
  have y1' := y1.below hst y1.lt
  have hx6 := hx5.below hst hx5.lt
  have hog6 := owns_below hog5 hst
  have hoo6 := owns_below hoo5 hst
  have hst6 := hst.size
  have hrs6 := owns_below hrs hst
  clear hrs
  clear hst hb1 y1 hx5 hog5 hoo5 hat HGO c0 c1 c2 ch cl
  have hb1 := hb'
  clear hb'
  have y1 := y1'
  clear y1'
  have y0 := True.intro
  clear y0
  obtain ⟨r0, r1, r2⟩ := y1.cells
  have rh := y1.heap
  have rl := y1.lt
  have rf0 := y1.frozen 0
  have rf1 := y1.frozen 1
  have rf2 := y1.frozen 2
  go_wp2_with fail
  have z1 := ((y1.set0 (.int .i64 0)).set1 (.slice none 0 0)).set2 (.slice none 0 0)
  have hbz := ((hb1.setCell (p := ⟨w.heap.size + 1, 0, none⟩) (Nat.le_succ _) (.int .i64 0)).setCell (p := ⟨w.heap.size + 1, 1, none⟩) (Nat.le_succ _) (.slice none 0 0)).setCell (p := ⟨w.heap.size + 1, 2, none⟩) (Nat.le_succ _) (.slice none 0 0)
  refine bodyPost_ret (results_c2 rfl _ _ (w.heap.size + 1) 27 _ (0, 0) _ rfl z1.heap Try.underlying27 rfl (by kernel_rfl)) rfl ?_
  exact ⟨_, _, rfl, ⟨_, _, rfl, rowIn_of (World.ownsRow_nil _ _ _ _), rowIn_of (World.ownsRow_nil _ _ _ _)⟩, rowIn_of (World.ownsRow_nil _ _ _ _), apart_nil _, hbz⟩
set_option maxRecDepth 100000 in
set_option maxHeartbeats 8000000 in
theorem iAddGates_yes (v av bv : Value) (c : Ci) (a b : List Int) (k : Int) (hfk : Fit k) (hsd : sidesB c a b = true) (hki : inB (wiresN c) k = true) (hgD : goodC (addC c a b k) = true) (w : World) (h : AtC w v c) (ha : AtIS w av a) (hb : AtIS w bv b) :
    Calls Try.prog 20 #[v, av, bv, .int .i64 k] w fun e w' => ∃ r0 r1, e = .returned (.tuple #[r0, r1, .bool true]) ∧ OwnCirc w' w.heap.size w'.heap.size r0 (addC c a b k) ∧ OwnIS w' w.heap.size w'.heap.size r1 (addG a b k (wiresN c)).2 ∧ ApartIS r0 r1 ∧ Below w.heap.size w w' := by
  obtain ⟨hgd, hl, h16, _, _⟩ := sides_parts hsd
  obtain ⟨hI0, hI1, hG, hO, _, _⟩ := goodC_ins hgd
  obtain ⟨ga, gn, gc, oa, on, oc, hv⟩ := h.at.shape
  have hgn : gn = c.2.1.length := by
    obtain ⟨_, g, o, hv', h1, _⟩ := h
    obtain ⟨a', cap, hg⟩ := h1.shape
    rw [hv] at hv'
    rw [hg] at hv'
    simp at hv'
    exact hv'.1.2.1
  subst hv
  obtain ⟨aa, ac, hav⟩ := ha.1.shape
  obtain ⟨ba, bc, hbv⟩ := hb.1.shape
  have hb0 : Below w.heap.size w ((w.alloc (.cells #[.int .i64 c.1, .slice ga gn gc, .slice oa on oc] 27)).alloc (.cells #[.int .i64 0, .slice none 0 0, .slice none 0 0] 27)) := below2 _ _ _
  have x0 := (box3_alloc w 27 (.int .i64 c.1) (.slice ga gn gc) (.slice oa on oc)).alloc (.cells #[.int .i64 0, .slice none 0 0, .slice none 0 0] 27)
  have x1 := box3_alloc (w.alloc (.cells #[.int .i64 c.1, .slice ga gn gc, .slice oa on oc] 27)) 27 (.int .i64 0) (.slice none 0 0) (.slice none 0 0)
  simp only [World.size_alloc] at x1
  have g1 := iSides_any _ _ _ c a b _ (h.below hb0).at (ha.1.below hb0) (hb.1.below hb0)
  rw [hsd] at g1
  have hsz : ((w.alloc (.cells #[.int .i64 c.1, .slice ga gn gc, .slice oa on oc] 27)).alloc (.cells #[.int .i64 0, .slice none 0 0, .slice none 0 0] 27)).heap.size = w.heap.size + 1 + 1 := by simp only [World.size_alloc]
  have GW : Hid (∀ w1 : World, Calls Try.prog 96 #[.agg #[.int .i64 c.1, .slice ga gn gc, .slice oa on oc]] w1 fun e w' => e = .returned (.int .i64 (wiresN c)) ∧ Below w1.heap.size w1 w') := fun w1 => by
    rw [hgn]
    refine (size_raw c.1 ga c.2.1.length gc (.slice oa on oc) (by omega) (by omega) (by omega) w1).mono ?_
    rintro e w' ⟨he, hw⟩
    exact ⟨he, by rw [hw]; exact (Below.refl _ _).alloc (Nat.le_refl _) _⟩
  have GK : Hid (∀ w1 : World, Calls Try.prog 95 #[.int .i64 (wiresN c), .slice (some ⟨w1.heap.size, 0, none⟩) 1 1] (w1.alloc (.cells #[.int .i64 k] 3)) fun e w' => e = .returned (.bool true) ∧ Below w1.heap.size w1 w') := fun w1 => by
    have g := goodWires_any _ [k] (wiresN c) _ (ints_lit w1 k)
    rw [show ([k].all (inB (wiresN c))) = inB (wiresN c) k from by simp, hki] at g
    refine g.mono ?_
    rintro e w' ⟨he, hw⟩
    exact ⟨he, by rw [hw]; exact (Below.refl _ _).alloc (Nat.le_refl _) _⟩
  have hwn0 : 0 ≤ wiresN c := by unfold wiresN; omega
  have hwn1 : wiresN c ≤ 1000 := by unfold wiresN; omega
  obtain ⟨hfk0, hfk1⟩ := hfk
  have GG : Hid (∀ w1 : World, Below w.heap.size w w1 → Calls Try.prog 97 #[.agg #[.int .i64 c.1, .slice ga gn gc, .slice oa on oc]] w1 fun e w' => ∃ b, e = .returned (.pointer (some ⟨b, 0, none⟩)) ∧ Bld w' w1.heap.size w'.heap.size b 27 c ∧ Below w1.heap.size w1 w') := fun w1 hw => grown_any _ c hI0 hI1 hG hO w1 (h.below hw)
  have GL : Hid (∀ (lo hi bl : Nat) (w1 : World), Bld w1 lo hi bl 27 c → hi ≤ w1.heap.size → w.heap.size ≤ lo → Below w.heap.size w w1 → Calls Try.prog 98 #[.pointer (some ⟨bl, 0, none⟩), av, bv, .int .i64 k] w1 fun e w' => ∃ r, e = .returned r ∧ w'.ownsRow w1.heap.size 3 1 r (addG a b k (wiresN c)).2.length (cellsI (addG a b k (wiresN c)).2) ∧ Bld w' lo hi bl 27 (addC c a b k) ∧ Below lo w1 w') := fun lo hi bl w1 hB hhi hlo hb' => iAdd_any lo hi bl c.1 c.2.1 c.2.2 av bv a b k (wiresN c) rfl hI0 hI1 hG hl h16 w1 hB hhi (fun w' hw => ha.1.below (hb'.trans (hw.mono hlo))) (fun w' hw => hb.1.below (hb'.trans (hw.mono hlo)))
  have HGO : Hid (∀ (u : Value) (w1 : World), AtCirc w1 u (addC c a b k) → Calls Try.prog 24 #[u] w1 fun e w' => e = .returned (.bool true) ∧ Below w1.heap.size w1 w') := fun u w1 h1 => by
    have g := iGood_any u _ w1 h1
    rw [hgD] at g
    exact g
  have hfit : Fit (addC c a b k).1 := h.1
  have hDs := addC_sm hsd hki
  have hD2 : (addC c a b k).2.2.length ≤ 16 := hO
  rw [hav, hbv] at GL
  obtain ⟨DD, hDD⟩ : ∃ DD, (addC c a b k) = DD := ⟨_, rfl⟩
  rw [hDD] at GL HGO hfit hDs hD2 ⊢
  obtain ⟨SU, hSU⟩ : ∃ SU, (addG a b k (wiresN c)).2 = SU := ⟨_, rfl⟩
  rw [hSU] at GL ⊢
  clear hSU
  clear hDD hgD
  subst hav hbv
  clear hgn h ha hb hsd hl h16
  generalize a.length = an at *
  generalize b.length = bn at *
  go_enter Try.func20, Try.ntmps20
  go_wp2_with fail
  refine g1.mono ?_
  rintro e w1 ⟨rfl, hs⟩
  have hb1 := Below.step hb0 hb0.size hs
  have y0 := x0.below hs (by omega)
  have y1 := x1.below hs (by omega)
  have hsz1 := hs.size
  rw [hsz] at hsz1
  clear g1 hs hb0 x0 x1 hsz
  obtain ⟨c0, c1, c2⟩ := y0.cells
  have ch := y0.heap
  have cl := y0.lt
  go_wp2_with fail
  refine (GW.out w1).mono ?_
  rintro e w2 ⟨rfl, hst⟩
  clear c0 c1 c2 ch cl
  have hb' : Below w.heap.size w w2 := hb1.trans (hst.mono hb1.size)
  have hst' := hst.size
  have y0' := y0.below hst y0.lt
  have y1' := y1.below hst y1.lt
  clear hst hb1 y0 y1
  have hb1 := hb'
  clear hb'
  have y0 := y0'
  clear y0'
  have y1 := y1'
  clear y1'
  obtain ⟨c0, c1, c2⟩ := y0.cells
  have ch := y0.heap
  have cl := y0.lt
  go_wp2_with fail
  refine (GK.out w2).mono ?_
  rintro e w3 ⟨rfl, hst⟩
  clear c0 c1 c2 ch cl
  have hb' : Below w.heap.size w w3 := hb1.trans (hst.mono hb1.size)
  have hst' := hst.size
  have y0' := y0.below hst y0.lt
  have y1' := y1.below hst y1.lt
  clear hst hb1 y0 y1
  have hb1 := hb'
  clear hb'
  have y0 := y0'
  clear y0'
  have y1 := y1'
  clear y1'
  clear GW GK
  obtain ⟨c0, c1, c2⟩ := y0.cells
  have ch := y0.heap
  have cl := y0.lt
  go_wp2_with fail
  refine (GG.out w3 hb1).mono ?_
  rintro e w4 ⟨bl, rfl, hB, hst⟩
  clear c0 c1 c2 ch cl
  have hlo : w.heap.size + 1 + 1 ≤ w3.heap.size := by omega
  have hblo := hB.1
  have hb' : Below w.heap.size w w4 := hb1.trans (hst.mono hb1.size)
  have hst' := hst.size
  have y0' := y0.below hst y0.lt
  have y1' := y1.below hst y1.lt
  clear hst hb1 y0 y1
  have hb1 := hb'
  clear hb'
  have y0 := y0'
  clear y0'
  have y1 := y1'
  clear y1'
  have hhi : w4.heap.size ≤ w4.heap.size := Nat.le_refl _
  go_wp2_with fail
  refine (GL.out w3.heap.size w4.heap.size bl w4 hB hhi (by omega) hb1).mono ?_
  rintro e w5 ⟨rs, rfl, hrs, hB5, hs5⟩
  have hst : Below w.heap.size w w5 := hb1.trans (hs5.mono (by omega))
  have y1' := y1.below hs5 (by omega)
  have hs5' := hs5.size
  obtain ⟨gsl, osl, hx5, hat, hog5, hoo5, hob5⟩ := hB5.reads hfit hDs.1 (by omega) (by omega)
  clear hB hB5 y0 y1 hs5 GG GL hb1
  have hb1 := hst
  clear hst
  have y1 := y1'
  clear y1'
  obtain ⟨sga, sgc, hsg⟩ := own_shape hog5
  obtain ⟨soa, soc, hso⟩ := own_shape hoo5
  subst hsg hso
  obtain ⟨sra, src, hsr⟩ := own_shape hrs
  subst hsr
  have hblt := hx5.lt
  obtain ⟨c0, c1, c2⟩ := hx5.cells
  have ch := hx5.heap
  have cl := hx5.lt
  go_wp2_with fail
  refine (HGO.out _ w5 hat).mono ?_
  rintro e w6 ⟨rfl, hst⟩
  have hb' : Below w.heap.size w w6 := hb1.trans (hst.mono hb1.size)
  have y1' := y1.below hst y1.lt
  have hx6 := hx5.below hst hx5.lt
  have hog6 := owns_below hog5 hst
  have hoo6 := owns_below hoo5 hst
  have hst6 := hst.size
  have hrs6 := owns_below hrs hst
  clear hrs
  clear hst hb1 y1 hx5 hog5 hoo5 hat HGO c0 c1 c2 ch cl
  have hb1 := hb'
  clear hb'
  have y1 := y1'
  clear y1'
  obtain ⟨c0, c1, c2⟩ := hx6.cells
  have ch := hx6.heap
  have cl := hx6.lt
  obtain ⟨r0, r1, r2⟩ := y1.cells
  have rh := y1.heap
  have rl := y1.lt
  have rf0 := y1.frozen 0
  have rf1 := y1.frozen 1
  have rf2 := y1.frozen 2
  have hgl : DD.2.1.length ≤ 500 := hDs.2
  have HZ : Hid _ := ((y1.set0 (.int .i64 DD.1)).set1 (.slice sga DD.2.1.length sgc)).set2 (.slice soa DD.2.2.length soc)
  have HBZ : Hid _ := ((hb1.setCell (p := ⟨w.heap.size + 1, 0, none⟩) (Nat.le_succ _) (.int .i64 DD.1)).setCell (p := ⟨w.heap.size + 1, 1, none⟩) (Nat.le_succ _) (.slice sga DD.2.1.length sgc)).setCell (p := ⟨w.heap.size + 1, 2, none⟩) (Nat.le_succ _) (.slice soa DD.2.2.length soc)
  have HGZ : Hid _ := own_set (b := w.heap.size + 1) (o := 2) (u := .slice soa DD.2.2.length soc) (own_set (b := w.heap.size + 1) (o := 1) (u := .slice sga DD.2.1.length sgc) (own_set (b := w.heap.size + 1) (o := 0) (u := .int .i64 DD.1) hog6 (by omega)) (by omega)) (by omega)
  have HOZ : Hid _ := own_set (b := w.heap.size + 1) (o := 2) (u := .slice soa DD.2.2.length soc) (own_set (b := w.heap.size + 1) (o := 1) (u := .slice sga DD.2.1.length sgc) (own_set (b := w.heap.size + 1) (o := 0) (u := .int .i64 DD.1) hoo6 (by omega)) (by omega)) (by omega)
  have HRZ : Hid _ := own_set (b := w.heap.size + 1) (o := 2) (u := .slice soa DD.2.2.length soc) (own_set (b := w.heap.size + 1) (o := 1) (u := .slice sga DD.2.1.length sgc) (own_set (b := w.heap.size + 1) (o := 0) (u := .int .i64 DD.1) hrs6 (by omega)) (by omega)) (by omega)
  have HAP : Hid (∀ k', (Value.slice sra SU.length src).ownBlock = some k' → (Value.slice soa DD.2.2.length soc).ownBlock ≠ some k') := fun k' h1 h2 => by
    have q1 := (own_block hrs6 h1).1
    have q2 := hob5 k' h2
    omega
  have hne : bl ≠ w.heap.size + 1 := by omega
  clear hx6 y1 hog6 hoo6 hb1 hob5 hrs6
  generalize hdg : DD.2.1.length = dg at *
  generalize hdo : DD.2.2.length = dq at *
  generalize hds : SU.length = ds at *
  go_wp2_with fail
  refine bodyPost_ret (results_c2 rfl _ _ (w.heap.size + 1) 27 _ (0, 0) _ rfl HZ.out.heap Try.underlying27 rfl (by kernel_rfl)) rfl ?_
  exact ⟨_, _, rfl, ⟨.slice sga dg sgc, .slice soa dq soc, rfl, by rw [hdg]; exact rowIn_of (own_base HGZ.out (by omega)), by rw [hdo]; exact rowIn_of (own_base HOZ.out (by omega))⟩, by unfold OwnIS; rw [hds]; exact rowIn_of (own_base HRZ.out (by omega)), fun i' g' o' k' e1 e2 => by simp at e1; rw [← e1.2.2]; exact HAP.out k' e2, HBZ.out⟩
end Go.Proofs.Ytpjllhlbdcanlaa

namespace Go.Proofs.Ytpjllhlbdcanlaa
open Go Go.RowKit
open M
set_option linter.unusedVariables false
set_option linter.unusedSimpArgs false

theorem sLessGates_any (v av bv : Value) (c : Ci) (a b : List Int) (w : World) (h : AtC w v c) (ha : AtIS w av a) (hb : AtIS w bv b) :
    Calls Try.prog 33 #[v, av, bv] w fun e w' => ∃ r, e = .returned (.tuple #[r, .int .i64 (lessW c a b), .bool (lessB c a b)]) ∧ OwnCirc w' w.heap.size w'.heap.size r (lessR c a b) ∧ Below w.heap.size w w' := by
  unfold lessW lessR
  cases hsd : sidesB c a b with
  | false =>
    have e : lessB c a b = false := by unfold lessB; rw [hsd]; rfl
    rw [e]
    exact sLessGates_bad v av bv c a b hsd w h ha hb
  | true =>
    cases hgD : goodC (lessC c a b) with
    | false =>
      have e : lessB c a b = false := by unfold lessB; rw [hsd, hgD]; rfl
      rw [e]
      exact sLessGates_no v av bv c a b hsd hgD w h ha hb
    | true =>
      have e : lessB c a b = true := by unfold lessB; rw [hsd, hgD]; rfl
      rw [e]
      exact sLessGates_yes v av bv c a b hsd hgD w h ha hb
theorem sEqGates_any (v av bv : Value) (c : Ci) (a b : List Int) (w : World) (h : AtC w v c) (ha : AtIS w av a) (hb : AtIS w bv b) :
    Calls Try.prog 35 #[v, av, bv] w fun e w' => ∃ r, e = .returned (.tuple #[r, .int .i64 (eqW c a b), .bool (eqB c a b)]) ∧ OwnCirc w' w.heap.size w'.heap.size r (eqR c a b) ∧ Below w.heap.size w w' := by
  unfold eqW eqR
  cases hsd : sidesB c a b with
  | false =>
    have e : eqB c a b = false := by unfold eqB; rw [hsd]; rfl
    rw [e]
    exact sEqGates_bad v av bv c a b hsd w h ha hb
  | true =>
    cases hgD : goodC (eqC c a b) with
    | false =>
      have e : eqB c a b = false := by unfold eqB; rw [hsd, hgD]; rfl
      rw [e]
      exact sEqGates_no v av bv c a b hsd hgD w h ha hb
    | true =>
      have e : eqB c a b = true := by unfold eqB; rw [hsd, hgD]; rfl
      rw [e]
      exact sEqGates_yes v av bv c a b hsd hgD w h ha hb
theorem sAddGates_any (v av bv : Value) (c : Ci) (a b : List Int) (k : Int) (hfk : Fit k) (w : World) (h : AtC w v c) (ha : AtIS w av a) (hb : AtIS w bv b) :
    Calls Try.prog 21 #[v, av, bv, .int .i64 k] w fun e w' => ∃ r0 r1, e = .returned (.tuple #[r0, r1, .bool (addB c a b k)]) ∧ OwnCirc w' w.heap.size w'.heap.size r0 (addR c a b k) ∧ OwnIS w' w.heap.size w'.heap.size r1 (addS c a b k) ∧ ApartIS r0 r1 ∧ Below w.heap.size w w' := by
  unfold addR addS
  cases hsd : sidesB c a b with
  | false =>
    have e : addB c a b k = false := by unfold addB; rw [hsd]; rfl
    rw [e]
    exact sAddGates_bad v av bv c a b k hfk hsd w h ha hb
  | true =>
    cases hki : inB (wiresN c) k with
    | false =>
      have e : addB c a b k = false := by unfold addB; rw [hsd, hki]; rfl
      rw [e]
      exact sAddGates_badk v av bv c a b k hfk hsd hki w h ha hb
    | true =>
      cases hgD : goodC (addC c a b k) with
      | false =>
        have e : addB c a b k = false := by unfold addB; rw [hsd, hki, hgD]; rfl
        rw [e]
        exact sAddGates_no v av bv c a b k hfk hsd hki hgD w h ha hb
      | true =>
        have e : addB c a b k = true := by unfold addB; rw [hsd, hki, hgD]; rfl
        rw [e]
        exact sAddGates_yes v av bv c a b k hfk hsd hki hgD w h ha hb
theorem iAddGates_any (v av bv : Value) (c : Ci) (a b : List Int) (k : Int) (hfk : Fit k) (w : World) (h : AtC w v c) (ha : AtIS w av a) (hb : AtIS w bv b) :
    Calls Try.prog 20 #[v, av, bv, .int .i64 k] w fun e w' => ∃ r0 r1, e = .returned (.tuple #[r0, r1, .bool (addB c a b k)]) ∧ OwnCirc w' w.heap.size w'.heap.size r0 (addR c a b k) ∧ OwnIS w' w.heap.size w'.heap.size r1 (addS c a b k) ∧ ApartIS r0 r1 ∧ Below w.heap.size w w' := by
  unfold addR addS
  cases hsd : sidesB c a b with
  | false =>
    have e : addB c a b k = false := by unfold addB; rw [hsd]; rfl
    rw [e]
    exact iAddGates_bad v av bv c a b k hfk hsd w h ha hb
  | true =>
    cases hki : inB (wiresN c) k with
    | false =>
      have e : addB c a b k = false := by unfold addB; rw [hsd, hki]; rfl
      rw [e]
      exact iAddGates_badk v av bv c a b k hfk hsd hki w h ha hb
    | true =>
      cases hgD : goodC (addC c a b k) with
      | false =>
        have e : addB c a b k = false := by unfold addB; rw [hsd, hki, hgD]; rfl
        rw [e]
        exact iAddGates_no v av bv c a b k hfk hsd hki hgD w h ha hb
      | true =>
        have e : addB c a b k = true := by unfold addB; rw [hsd, hki, hgD]; rfl
        rw [e]
        exact iAddGates_yes v av bv c a b k hfk hsd hki hgD w h ha hb
end Go.Proofs.Ytpjllhlbdcanlaa

namespace Go.Proofs.Ytpjllhlbdcanlaa
open Go Go.RowKit
open M
set_option linter.unusedVariables false
set_option linter.unusedSimpArgs false

/-- the wires of a sum, and what the law asks of them -/
theorem addG_in4 : ∀ (xs ys : List Int) (c n : Int), ∀ x ∈ (addG xs ys c n).2, n ≤ x ∧ x < n + 5 * xs.length
  | [], ys, c, n, x, h => by simp [addG] at h
  | _ :: _, [], c, n, x, h => by simp [addG] at h
  | a :: xs, b :: ys, c, n, x, h => by
    simp only [addG, List.mem_cons] at h
    simp only [List.length_cons]
    rcases h with rfl | h
    · omega
    · have := addG_in4 xs ys (n + 4) (n + 5) x h
      omega
theorem add_math {c : Ci} {a b : List Int} {k : Int} (hB : addB c a b k = true) : 0 ≤ c.1 ∧ c.1 ≤ 16 ∧ a.length ≤ 16 ∧ addR c a b k = addC c a b k ∧ (addR c a b k).1 = c.1 ∧ goodC (addR c a b k) = true ∧ (addS c a b k).length ≤ 16 ∧ 0 ≤ k ∧
    ∀ l : List Bool, (l.length : Int) = c.1 → wiresB (addR c a b k) l = true ∧ (wiresL (addR c a b k) l).length ≤ 1000 ∧ (∀ x ∈ a, 0 ≤ x ∧ x < (wiresL (addR c a b k) l).length) ∧ (∀ x ∈ b, 0 ≤ x ∧ x < (wiresL (addR c a b k) l).length) ∧ (∀ x ∈ [k], 0 ≤ x ∧ x < (wiresL (addR c a b k) l).length) ∧ (∀ x ∈ addS c a b k, 0 ≤ x ∧ x < (wiresL (addR c a b k) l).length) ∧
      carryN (wiresL (addR c a b k) l) (addS c a b k) = (carryN (wiresL (addR c a b k) l) a + carryN (wiresL (addR c a b k) l) b + carryN (wiresL (addR c a b k) l) [k]) % 2 ^ a.length := by
  have hB0 := hB
  unfold addB at hB
  rw [Bool.and_eq_true, Bool.and_eq_true] at hB
  obtain ⟨hs, hk, hg⟩ := hB
  obtain ⟨gc, hab, h16, ha, hb⟩ := sides_parts hs
  obtain ⟨g1, g2, g3, g4, g5, g6⟩ := goodC_ins gc
  have hk' : 0 ≤ k ∧ k < wiresN c := by unfold inB at hk; exact of_decide_eq_true hk
  have hR : addR c a b k = addC c a b k := by unfold addR; rw [if_pos hB0]
  have hS : addS c a b k = (addG a b k (wiresN c)).2 := by unfold addS; rw [if_pos hB0]
  have hlA := addG_len a b k (wiresN c) hab
  have hWN : wiresN c = c.1 + c.2.1.length := rfl
  rw [hR, hS]
  refine ⟨g1, g2, h16, rfl, rfl, hg, by rw [hlA.2]; exact h16, hk'.1, fun l hl => ?_⟩
  have hwb : wiresB (addC c a b k) l = true := by unfold wiresB; exact decide_eq_true ⟨hg, hl⟩
  have hwl : wiresL (addC c a b k) l = runG (addG a b k (wiresN c)).1 (runG c.2.1 l) := by
    unfold wiresL
    rw [if_pos ⟨hg, hl⟩]
    show runG (c.2.1 ++ (addG a b k (wiresN c)).1) l = _
    rw [runG_append]
  have hol : ((runG c.2.1 l).length : Int) = wiresN c := by rw [runG_len, hWN]; omega
  rw [hwl]
  have hlen : (runG (addG a b k (wiresN c)).1 (runG c.2.1 l)).length = (runG c.2.1 l).length + 5 * a.length := by rw [runG_len, hlA.1]
  have hsum := addG_sum a b k (runG c.2.1 l) hab (fun x hx => by rw [hol]; exact ha x hx) (fun x hx => by rw [hol]; exact hb x hx) (by rw [hol]; exact hk')
  rw [hol] at hsum
  have kA := carryN_keep (addG a b k (wiresN c)).1 (runG c.2.1 l) a (fun x hx => by rw [hol]; exact ha x hx)
  have kB := carryN_keep (addG a b k (wiresN c)).1 (runG c.2.1 l) b (fun x hx => by rw [hol]; exact hb x hx)
  have kK := carryN_keep (addG a b k (wiresN c)).1 (runG c.2.1 l) [k] (fun x hx => by simp at hx; subst hx; rw [hol]; exact hk')
  refine ⟨hwb, by rw [hlen]; omega, fun x hx => ?_, fun x hx => ?_, fun x hx => ?_, fun x hx => ?_, ?_⟩
  · have := ha x hx; omega
  · have := hb x hx; omega
  · simp at hx; subst hx; omega
  · have := addG_in4 a b k (wiresN c) x hx; omega
  · rw [hsum, kA, kB, kK]
    simp only [carryN]
    congr 1
set_option maxRecDepth 100000 in
theorem adder_big (a0 a1 : Option Addr) (l0 c0 l1 c1 : Nat) (h0 : l0 ≤ 9223372036854775807) (h1 : l1 ≤ 9223372036854775807) (h : 1048576 < l0 + l1) (w : World) :
    Calls Try.prog 3 #[.slice a0 l0 c0, .slice a1 l1 c1] w fun e w' => e = .returned (.bool true) ∧ Below w.heap.size w w' := by
  have g0 := big_yes a0 a1 l0 c0 l1 c1 h0 h1 h w
  go_enter Try.func3, Try.ntmps3
  go_wp2_with fail
  refine g0.mono ?_
  rintro e w' ⟨rfl, rfl⟩
  clear g0
  go_wp2_with fail
  go_ret
  exact ⟨rfl, Below.refl _ _⟩
set_option maxRecDepth 100000 in
set_option maxHeartbeats 16000000 in
theorem adder_walk (a0 a1 : Option Addr) (l0 c0 l1 c1 : Nat) (h0 : l0 ≤ 9223372036854775807) (h1 : l1 ≤ 9223372036854775807) (w : World) (hc0 : CodeOk w.heap.size w (.slice a0 l0 c0)) (hc1 : CodeOk w.heap.size w (.slice a1 l1 c1)) :
    Calls Try.prog 3 #[.slice a0 l0 c0, .slice a1 l1 c1] w fun e w' => e = .returned (.bool true) ∧ Below w.heap.size w w' := by
  by_cases h : 1048576 < l0 + l1
  · exact adder_big a0 a1 l0 c0 l1 c1 h0 h1 h w
  obtain ⟨i0, hif, hz0, hz1, hz2⟩ := info_parts infoBool
  have g0 := big_no a0 a1 l0 c0 l1 c1 h0 h1 (by omega) w
  have g1 := drawAddGates_any a0 l0 c0 w hc0
  have HC1 : Hid (∀ w', Below w.heap.size w w' → CodeOk w'.heap.size w' (.slice a1 l1 c1)) := fun w' hb => (hc1.below hb).up hb.size
  clear hc0 hc1 h
  go_enter Try.func3, Try.ntmps3
  go_wp2_with fail
  refine g0.mono ?_
  rintro e w' ⟨rfl, rfl⟩
  clear g0
  obtain ⟨w, rfl⟩ : ∃ w, w = w' := ⟨_, rfl⟩
  go_wp2_with fail
  refine g1.mono ?_
  rintro e w1 hout
  unfold AddOut at hout
  obtain ⟨cv_, av, bv, c, a, b, k, rfl, hC, hA, hB, hfk, hok, hla, hlb, hw1⟩ := hout
  clear g1
  have HC : Hid (∀ w' : World, Below w1.heap.size w1 w' → AtC w' cv_ c) := fun w' hb => hC.below hb
  have HA : Hid (∀ w' : World, Below w1.heap.size w1 w' → AtIS w' av a) := fun w' hb => hA.below hb
  have HB : Hid (∀ w' : World, Below w1.heap.size w1 w' → AtIS w' bv b) := fun w' hb => hB.below hb
  obtain ⟨cga, cgn, cgc, coa, con, coc, hcs⟩ := hC.at.shape
  obtain ⟨aa, ac, has⟩ := hA.1.shape
  obtain ⟨ba, bc, hbs⟩ := hB.1.shape
  subst hcs has hbs
  clear hC hA hB
  have HMATH : Hid (addB c a b k = true → 0 ≤ c.1 ∧ c.1 ≤ 16 ∧ a.length ≤ 16 ∧ addR c a b k = addC c a b k ∧ (addR c a b k).1 = c.1 ∧ goodC (addR c a b k) = true ∧ (addS c a b k).length ≤ 16 ∧ 0 ≤ k ∧
      ∀ l : List Bool, (l.length : Int) = c.1 → wiresB (addR c a b k) l = true ∧ (wiresL (addR c a b k) l).length ≤ 1000 ∧ (∀ x ∈ a, 0 ≤ x ∧ x < (wiresL (addR c a b k) l).length) ∧ (∀ x ∈ b, 0 ≤ x ∧ x < (wiresL (addR c a b k) l).length) ∧ (∀ x ∈ [k], 0 ≤ x ∧ x < (wiresL (addR c a b k) l).length) ∧ (∀ x ∈ addS c a b k, 0 ≤ x ∧ x < (wiresL (addR c a b k) l).length) ∧
        carryN (wiresL (addR c a b k) l) (addS c a b k) = (carryN (wiresL (addR c a b k) l) a + carryN (wiresL (addR c a b k) l) b + carryN (wiresL (addR c a b k) l) [k]) % 2 ^ a.length) := add_math
  have HXOK : Hid (CiOk (addR c a b k)) := addR_ok c a b k hok
  have HSOK : Hid ((addS c a b k).length ≤ 1048576) := addS_len c a b k
  have GI : Hid (∀ w' : World, Below w1.heap.size w1 w' → Calls Try.prog 20 #[(.agg #[.int .i64 c.1, .slice cga cgn cgc, .slice coa con coc]), .slice aa a.length ac, .slice ba b.length bc, .int .i64 k] w' fun e w'' => ∃ r0 r1, e = .returned (.tuple #[r0, r1, .bool (addB c a b k)]) ∧ OwnCirc w'' w'.heap.size w''.heap.size r0 (addR c a b k) ∧ OwnIS w'' w'.heap.size w''.heap.size r1 (addS c a b k) ∧ ApartIS r0 r1 ∧ Below w'.heap.size w' w'') := fun w' hb => iAddGates_any _ _ _ c a b k hfk w' (HC.out w' hb) (HA.out w' hb) (HB.out w' hb)
  have GS : Hid (∀ w' : World, Below w1.heap.size w1 w' → Calls Try.prog 21 #[(.agg #[.int .i64 c.1, .slice cga cgn cgc, .slice coa con coc]), .slice aa a.length ac, .slice ba b.length bc, .int .i64 k] w' fun e w'' => ∃ r0 r1, e = .returned (.tuple #[r0, r1, .bool (addB c a b k)]) ∧ OwnCirc w'' w'.heap.size w''.heap.size r0 (addR c a b k) ∧ OwnIS w'' w'.heap.size w''.heap.size r1 (addS c a b k) ∧ ApartIS r0 r1 ∧ Below w'.heap.size w' w'') := fun w' hb => sAddGates_any _ _ _ c a b k hfk w' (HC.out w' hb) (HA.out w' hb) (HB.out w' hb)
  have GG1 : Hid (∀ w' : World, Below w1.heap.size w1 w' → Calls Try.prog 24 #[(.agg #[.int .i64 c.1, .slice cga cgn cgc, .slice coa con coc])] w' fun e w'' => e = .returned (.bool (goodC c)) ∧ Below w'.heap.size w' w'') := fun w' hb => iGood_any _ c w' (HC.out w' hb).at
  have GG2 : Hid (∀ w' : World, Below w1.heap.size w1 w' → Calls Try.prog 25 #[(.agg #[.int .i64 c.1, .slice cga cgn cgc, .slice coa con coc])] w' fun e w'' => e = .returned (.bool (goodC c)) ∧ Below w'.heap.size w' w'') := fun w' hb => sGood_any _ c w' (HC.out w' hb).at
  generalize goodC c = GD at *
  obtain ⟨OK, hOK⟩ : ∃ OK, addB c a b k = OK := ⟨_, rfl⟩
  obtain ⟨X, hX⟩ : ∃ X, addR c a b k = X := ⟨_, rfl⟩
  obtain ⟨S, hS⟩ : ∃ S, addS c a b k = S := ⟨_, rfl⟩
  obtain ⟨XC, hXC⟩ : ∃ XC, addC c a b k = XC := ⟨_, rfl⟩
  rw [hOK, hX, hS, hXC] at HMATH
  rw [hX] at HXOK
  rw [hS] at HSOK
  rw [hOK, hX, hS] at GI GS
  clear hOK hX hS hXC hok
  generalize han : a.length = an at *
  generalize hbn : b.length = bn at *
  have HAN : Hid (a.length = an) := han
  have HBN : Hid (b.length = bn) := hbn
  clear han hbn
  have hb1 := Below.refl w1.heap.size w1
  have hal := (Below.refl w1.heap.size w1).alloc (Nat.le_refl _) (.cells #[.int .i64 c.1, .slice cga cgn cgc, .slice coa con coc] 27)
  have hx_c := box3_alloc w1 27 (.int .i64 c.1) (.slice cga cgn cgc) (.slice coa con coc)
  have hsz_w2 := hal.size
  have hb2 := hb1.trans (hal.mono hb1.size)
  have hw2 := hw1.trans (hal.mono hw1.size)
  go_wp2_with fail
  generalize w1.alloc (.cells #[.int .i64 c.1, .slice cga cgn cgc, .slice coa con coc] 27) = w2 at *
  clear hal hb1 hw1
  obtain ⟨cc0, cc1, cc2⟩ := hx_c.cells
  have cch := hx_c.heap
  have ccl := hx_c.lt
  refine (GI.out _ hb2).mono ?_
  rintro e w3 ⟨x, sv, rfl, hox, hos, hap, hs3⟩
  have hxat := hox.hands HXOK.out
  have hsat := hos.hands HSOK.out
  obtain ⟨xga, xgn, xgc, xoa, xon, xoc, rfl⟩ := hox.shape
  obtain ⟨sa, sn, sc, rfl⟩ := hos.shape
  have hb3 := Below.step hb2 hb2.size hs3
  have hw3 := Below.step hw2 hw2.size hs3
  have hx_c3 := hx_c.below hs3 hx_c.lt
  clear hox hos hap hs3 hb2 hw2 hx_c cc0 cc1 cc2 cch ccl GI
  have hal := (Below.refl w3.heap.size w3).alloc (Nat.le_refl _) (.cells #[.int .i64 X.1, .slice xga xgn xgc, .slice xoa xon xoc] 27)
  have hx_x := box3_alloc w3 27 (.int .i64 X.1) (.slice xga xgn xgc) (.slice xoa xon xoc)
  have hsz_w4 := hal.size
  have hb4 := hb3.trans (hal.mono hb3.size)
  have hw4 := hw3.trans (hal.mono hw3.size)
  have hx_c4 := hx_c3.alloc (.cells #[.int .i64 X.1, .slice xga xgn xgc, .slice xoa xon xoc] 27)
  have hxat4 := hxat.below hal
  have hsat4 := hsat.below hal
  clear hxat hsat
  obtain ⟨cc0, cc1, cc2⟩ := hx_c4.cells
  have cch := hx_c4.heap
  have ccl := hx_c4.lt
  go_wp2_with fail
  generalize w3.alloc (.cells #[.int .i64 X.1, .slice xga xgn xgc, .slice xoa xon xoc] 27) = w4 at *
  clear hal hb3 hw3 hx_c3
  refine (GS.out _ hb4).mono ?_
  rintro e w5 ⟨y, tv, rfl, hoy, hot, hap, hs5⟩
  have hyat := hoy.hands HXOK.out
  have htat := hot.hands HSOK.out
  obtain ⟨yga, ygn, ygc, yoa, yon, yoc, rfl⟩ := hoy.shape
  obtain ⟨ta, tn, tc, rfl⟩ := hot.shape
  have hb5 := Below.step hb4 hb4.size hs5
  have hw5 := Below.step hw4 hw4.size hs5
  have hx_c5 := hx_c4.below hs5 hx_c4.lt
  have hx_x5 := hx_x.below hs5 hx_x.lt
  have hxat5 := hxat4.below hs5
  have hsat5 := hsat4.below hs5
  clear hoy hot hap hs5 hb4 hw4 hx_c4 hx_x hxat4 hsat4 cc0 cc1 cc2 cch ccl GS
  have hal := (Below.refl w5.heap.size w5).alloc (Nat.le_refl _) (.cells #[.int .i64 X.1, .slice yga ygn ygc, .slice yoa yon yoc] 27)
  have hx_y := box3_alloc w5 27 (.int .i64 X.1) (.slice yga ygn ygc) (.slice yoa yon yoc)
  have hsz_w6 := hal.size
  have hb6 := hb5.trans (hal.mono hb5.size)
  have hw6 := hw5.trans (hal.mono hw5.size)
  have hx_c6 := hx_c5.alloc (.cells #[.int .i64 X.1, .slice yga ygn ygc, .slice yoa yon yoc] 27)
  have hx_x6 := hx_x5.alloc (.cells #[.int .i64 X.1, .slice yga ygn ygc, .slice yoa yon yoc] 27)
  have hxat6 := hxat5.below hal
  have hsat6 := hsat5.below hal
  have hyat6 := hyat.below hal
  have htat6 := htat.below hal
  clear hxat5 hsat5 hyat htat
  go_wp2_with fail
  generalize w5.alloc (.cells #[.int .i64 X.1, .slice yga ygn ygc, .slice yoa yon yoc] 27) = w6 at *
  clear hal hb5 hw5 hx_c5 hx_x5
  have HB6 : Hid (Below w1.heap.size w1 w6) := hb6
  have HW6 : Hid (Below w.heap.size w w6) := hw6
  have HXC : Hid (∀ w' : World, Below w6.heap.size w6 w' → Box3 w' w1.heap.size 27 (.int .i64 c.1) (.slice cga cgn cgc) (.slice coa con coc)) := fun w' hb => hx_c6.below hb hx_c6.lt
  have HXX : Hid (∀ w' : World, Below w6.heap.size w6 w' → Box3 w' w3.heap.size 27 (.int .i64 X.1) (.slice xga xgn xgc) (.slice xoa xon xoc)) := fun w' hb => hx_x6.below hb hx_x6.lt
  have HXY : Hid (∀ w' : World, Below w6.heap.size w6 w' → Box3 w' w5.heap.size 27 (.int .i64 X.1) (.slice yga ygn ygc) (.slice yoa yon yoc)) := fun w' hb => hx_y.below hb hx_y.lt
  have HXA : Hid (∀ w' : World, Below w6.heap.size w6 w' → AtC w' (.agg #[.int .i64 X.1, .slice xga xgn xgc, .slice xoa xon xoc]) X) := fun w' hb => hxat6.below hb
  have HSA : Hid (∀ w' : World, Below w6.heap.size w6 w' → AtIS w' (.slice sa sn sc) S) := fun w' hb => hsat6.below hb
  have GSC : Hid (∀ w' : World, Below w6.heap.size w6 w' → Calls Try.prog 22 #[(.agg #[.int .i64 X.1, .slice xga xgn xgc, .slice xoa xon xoc]), (.agg #[.int .i64 X.1, .slice yga ygn ygc, .slice yoa yon yoc])] w' fun e w'' => e = .returned (.bool true) ∧ Below w'.heap.size w' w'') := fun w' hb => sameCircuit_same _ _ X w' (hxat6.below hb).at (hyat6.below hb).at
  have GSI : Hid (∀ w' : World, Below w6.heap.size w6 w' → Calls Try.prog 23 #[.slice sa sn sc, .slice ta tn tc] w' fun e w'' => e = .returned (.bool true) ∧ Below w'.heap.size w' w'') := fun w' hb => sameInts_same _ _ S w' (hsat6.below hb).1 (htat6.below hb).1
  have HUP : Hid (∀ w' : World, Below w6.heap.size w6 w' → Below w1.heap.size w1 w') := fun w' hb => HB6.out.trans (hb.mono HB6.out.size)
  obtain ⟨xx0, xx1, xx2⟩ := hx_x6.cells
  have xxh := hx_x6.heap
  have xxl := hx_x6.lt
  obtain ⟨yy0, yy1, yy2⟩ := hx_y.cells
  have yyh := hx_y.heap
  have yyl := hx_y.lt
  obtain ⟨cc0, cc1, cc2⟩ := hx_c6.cells
  have cch := hx_c6.heap
  have ccl := hx_c6.lt
  have HS0 : Hid (Below w6.heap.size w6 w6) := Below.refl _ _
  clear hb6 hw6 hxat6 hsat6 hyat6 htat6 hx_c6 hx_x6 hx_y
  go_cut [71] from 50 to 71 (fun s wx => s = .bool false ∧ Hid (Below w6.heap.size w6 wx))
  case first =>
    go_region_with (first | (go_at_call 22; refine (GSC.out _ (by first | exact HS0.out | exact HS0.out.drew | exact HS0.out.drew.drew | exact HS0.out.drew.drew.drew)).mono ?_; rintro e wn ⟨rfl, hst⟩; have HSa : Hid (Below w6.heap.size w6 wn) := (by first | exact HS0.out.trans (hst.mono HS0.out.size) | exact HS0.out.drew.trans (hst.mono HS0.out.size) | exact HS0.out.drew.drew.trans (hst.mono HS0.out.size) | exact HS0.out.drew.drew.drew.trans (hst.mono HS0.out.size)); have zx := HXC.out _ HSa.out; obtain ⟨zz0, zz1, zz2⟩ := zx.cells; have zzh := zx.heap; have zzl := zx.lt; clear hst zx) | (go_at_call 23; refine (GSI.out _ (by first | exact HSa.out | exact HSa.out.drew | exact HSa.out.drew.drew | exact HSa.out.drew.drew.drew)).mono ?_; rintro e wn ⟨rfl, hst⟩; have HSb : Hid (Below w6.heap.size w6 wn) := (by first | exact HSa.out.trans (hst.mono HSa.out.size) | exact HSa.out.drew.trans (hst.mono HSa.out.size) | exact HSa.out.drew.drew.trans (hst.mono HSa.out.size) | exact HSa.out.drew.drew.drew.trans (hst.mono HSa.out.size)); have zx := HXC.out _ HSb.out; obtain ⟨zz0, zz1, zz2⟩ := zx.cells; have zzh := zx.heap; have zzl := zx.lt; clear hst zx) | (go_at_call 24; refine (GG1.out _ (HUP.out _ (by first | exact HSd.out | exact HSd.out.drew | exact HSd.out.drew.drew | exact HSd.out.drew.drew.drew | exact HSb.out | exact HSb.out.drew | exact HSb.out.drew.drew | exact HSb.out.drew.drew.drew))).mono ?_; rintro e wn ⟨rfl, hst⟩; have HSc : Hid (Below w6.heap.size w6 wn) := (by first | exact HSd.out.trans (hst.mono HSd.out.size) | exact HSd.out.drew.trans (hst.mono HSd.out.size) | exact HSd.out.drew.drew.trans (hst.mono HSd.out.size) | exact HSd.out.drew.drew.drew.trans (hst.mono HSd.out.size) | exact HSb.out.trans (hst.mono HSb.out.size) | exact HSb.out.drew.trans (hst.mono HSb.out.size) | exact HSb.out.drew.drew.trans (hst.mono HSb.out.size) | exact HSb.out.drew.drew.drew.trans (hst.mono HSb.out.size)); have zx := HXC.out _ HSc.out; obtain ⟨zz0, zz1, zz2⟩ := zx.cells; have zzh := zx.heap; have zzl := zx.lt; clear hst zx) | (go_at_call 25; refine (GG2.out _ (HUP.out _ (by first | exact HSc.out | exact HSc.out.drew | exact HSc.out.drew.drew | exact HSc.out.drew.drew.drew | exact HSb.out | exact HSb.out.drew | exact HSb.out.drew.drew | exact HSb.out.drew.drew.drew))).mono ?_; rintro e wn ⟨rfl, hst⟩; have HSd : Hid (Below w6.heap.size w6 wn) := (by first | exact HSc.out.trans (hst.mono HSc.out.size) | exact HSc.out.drew.trans (hst.mono HSc.out.size) | exact HSc.out.drew.drew.trans (hst.mono HSc.out.size) | exact HSc.out.drew.drew.drew.trans (hst.mono HSc.out.size) | exact HSb.out.trans (hst.mono HSb.out.size) | exact HSb.out.drew.trans (hst.mono HSb.out.size) | exact HSb.out.drew.drew.trans (hst.mono HSb.out.size) | exact HSb.out.drew.drew.drew.trans (hst.mono HSb.out.size)); have zx := HXC.out _ HSd.out; obtain ⟨zz0, zz1, zz2⟩ := zx.cells; have zzh := zx.heap; have zzl := zx.lt; clear hst zx))
    all_goals
      go_wp2_with fail
      go_meet
      case rel => exact ⟨rfl, by first | exact HSd | exact HSc | exact HSd.out.drew | exact HSc.out.drew | exact HSd.out.drew.drew | exact HSc.out.drew.drew⟩
  obtain ⟨rfl, HCUT⟩ := hcut
  clear xx0 xx1 xx2 xxh xxl yy0 yy1 yy2 yyh yyl cc0 cc1 cc2 cch ccl GSC GSI HS0 GG1 GG2 HXY
  generalize wc = w7 at *
  have hw7 := HW6.out.trans (HCUT.out.mono HW6.out.size)
  have HW7 : Hid (Below w.heap.size w w7) := hw7
  have HB7 : Hid (Below w6.heap.size w6 w7) := HCUT.out
  clear hw7 HCUT
  cases OK with
  | false =>
    clear HMATH
    go_wp2_with fail
    go_ret
    exact ⟨rfl, HW7.out⟩
  | true =>
    obtain ⟨m1, m2, m3, m4, m5, m6, m7, m8, m9⟩ := HMATH.out rfl
    have HM9 : Hid _ := m9
    obtain ⟨IN, hIN⟩ : ∃ IN : Nat, c.1 = (IN : Int) := ⟨c.1.toNat, by omega⟩
    have HIN : Hid (c.1 = (IN : Int)) := hIN
    have hI16 : IN ≤ 16 := by omega
    have HXC7 : Hid (∀ w' : World, Below w7.heap.size w7 w' → Box3 w' w1.heap.size 27 (.int .i64 (IN : Int)) (.slice cga cgn cgc) (.slice coa con coc)) := fun w' hb => by
      have h1 := HXC.out w' (HB7.out.trans (hb.mono HB7.out.size))
      rw [hIN] at h1
      exact h1
    have HO7 : Hid (w7.ownsRow w7.heap.size 4 1 (.slice none 0 0) 0 (cellsB [])) := World.ownsRow_nil _ _ _ _
    have HB77 : Hid (Below w7.heap.size w7 w7) := Below.refl _ _
    clear m1 m2 m4 m5 m9 hIN HMATH HXC
    go_wp2_with fail
    go_loopw [15, 16] (fun v i wr => ∃ (j : Nat) (l : List Bool), j ≤ IN ∧ i = .int .i64 j ∧ Hid (l.length = j) ∧ Hid (wr.ownsRow w7.heap.size 4 1 v j (cellsB l)) ∧ Hid (Below w7.heap.size w7 wr)) (fun _ i _ => IN - (intOf i).toNat)
    case atStart => exact ⟨0, [], by omega, rfl, rfl, HO7, HB77⟩
    case round =>
      obtain ⟨j, l, hj, rfl, HL, HO, HB9⟩ := hrel
      clear HO7 HB77
      have zx := HXC7.out wr HB9.out
      obtain ⟨cc0, cc1, cc2⟩ := zx.cells
      have cch := zx.heap
      have ccl := zx.lt
      clear zx
      by_cases hlt : j < IN
      · obtain ⟨va, vc, hv⟩ := own_shape HO.out
        subst hv
        have gn := numberOf_any wr.heap.size (.slice a1 l1 c1) wr (HC1.out wr (HW7.out.trans (HB9.out.mono HW7.out.size)))
        have hjA : (j : Int) < (IN : Int) := by omega
        go_wp2_with fail
        refine gn.mono ?_
        rintro e w8 ⟨nn, ⟨hn0, hn1⟩, rfl, hw8⟩
        have hw9 := hw8.symm
        subst hw9
        clear hw8 gn
        have hjw : IntKind.u64.wrap (j : Int) = (j : Int) := IntWalk.u64_in _ ⟨by omega, by omega⟩
        obtain ⟨z, hz⟩ : ∃ z : Bool, (bits BinOp.and IntKind.i64 (nn / 2 ^ j) 1 == 1) = z := ⟨_, rfl⟩
        have own6 := World.ownsRow.alloc HO.out (.cells #[.bool z] 4)
        have hb6 : Below w7.heap.size w7 (wr.alloc (.cells #[.bool z] 4)) := HB9.out.alloc HB9.out.size _
        have hs6 := hb6.size
        have HL2 : Hid ((l ++ [z]).length = j + 1) := by
          show (l ++ [z]).length = j + 1
          rw [List.length_append, HL.out]
          rfl
        clear HO HB9
        go_wp2_with (at_builtin; refine wpList_append_own _ rfl _ _ 35 rfl w7.heap.size 4 i0 (.bool false) 1 1 Try.underlying35 hif hz0 hz1 hz2 rfl (by decide) _ _ _ rfl own6 ⟨wr.heap.size, 0, none⟩ 1 1 [.bool z] rfl rfl (oneB_cells wr z) (bools_one [z]) (by unfold maxLen; omega) (by omega) hs6 ?_)
        intro v9 w9 own9 grow9 _
        have HB10 : Hid (Below w7.heap.size w7 w9) := below_app hb6 (by omega) (Nat.le_refl _) own6 grow9
        have HO10 : Hid (w9.ownsRow w7.heap.size 4 1 v9 (j + 1) (cellsB (l ++ [z]))) := by
          show w9.ownsRow w7.heap.size 4 1 v9 (j + 1) (cellsB (l ++ [z]))
          rw [cellsB_append]
          exact own9
        clear own6 own9 grow9 hb6
        go_wp2_with fail
        go_roundw
        case rel => exact ⟨j + 1, l ++ [z], by omega, by go_num, HL2, HO10, HB10⟩
        case measure => simp [intOf]; omega
      · obtain rfl : j = IN := by omega
        have hLL : l.length ≤ 1048576 := by rw [HL.out]; omega
        have hlc : (l.length : Int) = c.1 := by rw [HL.out]; exact HIN.out.symm
        obtain ⟨q1, q2, q3, q4, q5, q6, q7⟩ := HM9.out l hlc
        have hown : OwnBS wr w7.heap.size wr.heap.size u15 l := by
          have h1 := HO.out
          rw [← HL.out] at h1
          exact rowIn_of h1
        have hiat := hown.hands hLL
        obtain ⟨ia, in_, ic, his⟩ := hown.shape
        subst his
        have HB97 : Hid (Below w6.heap.size w6 wr) := HB7.out.trans (HB9.out.mono HB7.out.size)
        have HW9 : Hid (Below w.heap.size w wr) := HW7.out.trans (HB9.out.mono HW7.out.size)
        have HIAT : Hid (∀ w' : World, Below wr.heap.size wr w' → AtBS w' (.slice ia in_ ic) l) := fun w' hb => hiat.below hb
        have GW1 : Hid (∀ w' : World, Below wr.heap.size wr w' → Calls Try.prog 27 #[(.agg #[.int .i64 X.1, .slice xga xgn xgc, .slice xoa xon xoc]), .slice ia in_ ic] w' fun e w'' => ∃ r, e = .returned (.tuple #[r, .bool true]) ∧ OwnBS w'' w'.heap.size w''.heap.size r (wiresL X l) ∧ Below w'.heap.size w' w'') := fun w' hb => by
          have g := iAllWires_bs (.agg #[.int .i64 X.1, .slice xga xgn xgc, .slice xoa xon xoc]) _ X l w' (HXA.out w' (HB97.out.trans (hb.mono HB97.out.size))) (HIAT.out w' hb)
          rw [q1] at g
          exact g
        have GW2 : Hid (∀ w' : World, Below wr.heap.size wr w' → Calls Try.prog 28 #[(.agg #[.int .i64 X.1, .slice xga xgn xgc, .slice xoa xon xoc]), .slice ia in_ ic] w' fun e w'' => ∃ r, e = .returned (.tuple #[r, .bool true]) ∧ OwnBS w'' w'.heap.size w''.heap.size r (wiresL X l) ∧ Below w'.heap.size w' w'') := fun w' hb => by
          have g := sAllWires_bs (.agg #[.int .i64 X.1, .slice xga xgn xgc, .slice xoa xon xoc]) _ X l w' (HXA.out w' (HB97.out.trans (hb.mono HB97.out.size))) (HIAT.out w' hb)
          rw [q1] at g
          exact g
        generalize wiresL X l = O at *
        have zx := HXX.out wr HB97.out
        obtain ⟨xx0, xx1, xx2⟩ := zx.cells
        have xxh := zx.heap
        have xxl := zx.lt
        have HXX9 : Hid (∀ w' : World, Below wr.heap.size wr w' → Box3 w' w3.heap.size 27 (.int .i64 X.1) (.slice xga xgn xgc) (.slice xoa xon xoc)) := fun w' hb => HXX.out w' (HB97.out.trans (hb.mono HB97.out.size))
        have HA9 : Hid (∀ w' : World, Below wr.heap.size wr w' → IntsAt w' (.slice aa an ac) a ∧ IntsAt w' (.slice ba bn bc) b ∧ IntsAt w' (.slice sa sn sc) S) := fun w' hb => ⟨(HA.out w' (HUP.out _ (HB97.out.trans (hb.mono HB97.out.size)))).1, (HB.out w' (HUP.out _ (HB97.out.trans (hb.mono HB97.out.size)))).1, (HSA.out w' (HB97.out.trans (hb.mono HB97.out.size))).1⟩
        clear zx hown hiat HO HB9 hlc HM9 q1
        go_wp2_with fail
        refine (GW1.out _ (Below.refl _ _)).mono ?_
        rintro e w11 ⟨all, rfl, ho11, hs11⟩
        have hall := ho11.reads (by omega)
        obtain ⟨la, ln, lc, hls⟩ := ho11.shape
        subst hls
        have zx := HXX9.out w11 hs11
        obtain ⟨zz0, zz1, zz2⟩ := zx.cells
        have zzh := zx.heap
        have zzl := zx.lt
        clear zx ho11 xx0 xx1 xx2 xxh xxl
        go_wp2_with fail
        refine (GW2.out _ hs11).mono ?_
        rintro e w12 ⟨wires, rfl, ho12, hs12⟩
        have hb12 := Below.step hs11 hs11.size hs12
        have hall12 := hall.below hs12
        have hwir := ho12.reads (by omega)
        obtain ⟨ra, rn, rc, hrs⟩ := ho12.shape
        subst hrs
        clear ho12 hall zz0 zz1 zz2 zzh zzl hs11 hs12
        have GCA : Hid (∀ (w' : World), Below w12.heap.size w12 w' → Calls Try.prog 29 #[.slice la ln lc, .slice aa an ac] w' fun e w'' => e = .returned (.int .i64 (carryN O a)) ∧ Below w'.heap.size w' w'') := fun w' hb => carried_laws _ _ O a (by rw [HAN.out]; omega) q2 q3 w' (hall12.below hb) (HA9.out w' (hb12.trans (hb.mono hb12.size))).1
        have GCB : Hid (∀ (w' : World), Below w12.heap.size w12 w' → Calls Try.prog 29 #[.slice la ln lc, .slice ba bn bc] w' fun e w'' => e = .returned (.int .i64 (carryN O b)) ∧ Below w'.heap.size w' w'') := fun w' hb => carried_laws _ _ O b (by rw [HBN.out]; omega) q2 q4 w' (hall12.below hb) (HA9.out w' (hb12.trans (hb.mono hb12.size))).2.1
        have GCS : Hid (∀ (w' : World), Below w12.heap.size w12 w' → Calls Try.prog 29 #[.slice la ln lc, .slice sa sn sc] w' fun e w'' => e = .returned (.int .i64 (carryN O S)) ∧ Below w'.heap.size w' w'') := fun w' hb => carried_laws _ _ O S (by omega) q2 q6 w' (hall12.below hb) (HA9.out w' (hb12.trans (hb.mono hb12.size))).2.2
        have GCK : Hid (∀ (w' : World), Below w12.heap.size w12 w' → Calls Try.prog 29 #[.slice la ln lc, .slice (some ⟨w'.heap.size, 0, none⟩) 1 1] (w'.alloc (.cells #[.int .i64 k] 3)) fun e w'' => e = .returned (.int .i64 (carryN O [k])) ∧ Below (w'.alloc (.cells #[.int .i64 k] 3)).heap.size (w'.alloc (.cells #[.int .i64 k] 3)) w'') := fun w' hb => by
          refine carried_laws _ _ O [k] (by simp) q2 q5 _ ((hall12.below hb).below ((Below.refl _ _).alloc (Nat.le_refl _) _)) ⟨by simp, Or.inr ⟨w'.heap.size, 0, 1, rfl, by rw [World.size_alloc]; omega, fun i x hx => ?_⟩⟩
          match i with
          | 0 => simp at hx; subst hx; simp
          | i + 1 => simp at hx
        have GSB : Hid (∀ (w' : World), Below w12.heap.size w12 w' → Calls Try.prog 30 #[.slice la ln lc, .slice ra rn rc] w' fun e w'' => e = .returned (.bool true) ∧ Below w'.heap.size w' w'') := fun w' hb => sameBools_same _ _ O w' (hall12.below hb) (hwir.below hb)
        have HW12 : Hid (Below w.heap.size w w12) := HW9.out.trans (hb12.mono HW9.out.size)
        have hA20 := carryN_lt O a
        have hB20 := carryN_lt O b
        have hK20 := carryN_lt O [k]
        have hpw : 2 ^ a.length ≤ 2 ^ 20 := Nat.pow_le_pow_right (by omega) (by rw [HAN.out]; omega)
        have hpw2 : 2 ^ b.length ≤ 2 ^ 20 := Nat.pow_le_pow_right (by omega) (by rw [HBN.out]; omega)
        generalize carryN O a = NA at *
        generalize carryN O b = NB at *
        generalize carryN O [k] = NK at *
        generalize carryN O S = NS at *
        have hA21 : NA < 1048576 := by omega
        have hB21 : NB < 1048576 := by omega
        have hK21 : NK < 2 := by simpa using hK20
        obtain ⟨NN, hNN⟩ : ∃ NN : Int, (NA : Int) + (NB : Int) + (NK : Int) = NN := ⟨_, rfl⟩
        obtain ⟨PP, hPP⟩ : ∃ PP : Int, IntKind.i64.wrap (2 ^ an) = PP := ⟨_, rfl⟩
        have hPe : PP = ((2 ^ an : Nat) : Int) := by
          have h1 : (2 : Nat) ^ an ≤ 2 ^ 16 := Nat.pow_le_pow_right (by omega) m3
          have h2 : ((2 : Int) ^ an) = ((2 ^ an : Nat) : Int) := by simp
          rw [← hPP, h2]
          exact IntWalk.i64_in _ ⟨by omega, by omega⟩
        have hP1 : 1 ≤ PP := by have := Nat.pow_pos (n := an) (show 0 < 2 by omega); omega
        have hP9 : PP ≤ 65536 := by have h1 : (2 : Nat) ^ an ≤ 2 ^ 16 := Nat.pow_le_pow_right (by omega) m3; omega
        have hmod : NN.tmod PP = (NS : Int) := by
          rw [Int.tmod_eq_emod_of_nonneg (by omega), q7, hPe, ← hNN]
          exact (Int.natCast_emod _ _).symm
        have hmod2 : NN % PP = (NS : Int) := by
          rw [← hmod, Int.tmod_eq_emod_of_nonneg (by omega)]
        have hP0 : ¬ PP = 0 := by omega
        have hanw : IntKind.u64.wrap (an : Int) = (an : Int) := IntWalk.u64_in _ ⟨by omega, by omega⟩
        clear q2 q3 q4 q5 q6 q7 hb12 hall12 hwir hA20 hB20 hK20 hpw hpw2 hPe HXX9 HA9 GW1 GW2
        have HQ0 : Hid (Below w12.heap.size w12 w12) := Below.refl _ _
        go_wp2_with fail
        refine (GCA.out _ HQ0.out).mono ?_
        rintro e w13 ⟨rfl, hs13⟩
        have HQ1 : Hid (Below w12.heap.size w12 w13) := hs13
        clear hs13
        go_wp2_with fail
        refine (GCB.out _ HQ1.out).mono ?_
        rintro e w14 ⟨rfl, hs14⟩
        have HQ2 : Hid (Below w12.heap.size w12 w14) := HQ1.out.trans (hs14.mono HQ1.out.size)
        clear hs14
        go_wp2_with fail
        refine (GCK.out _ HQ2.out).mono ?_
        rintro e w15 ⟨rfl, hs15⟩
        have HQ3 : Hid (Below w12.heap.size w12 w15) := (HQ2.out.trans (((Below.refl w14.heap.size w14).alloc (Nat.le_refl _) (.cells #[.int .i64 k] 3)).mono HQ2.out.size)).trans (hs15.mono (by rw [World.size_alloc]; have := HQ2.out.size; omega))
        clear hs15
        go_wp2_with fail
        have cA : ∀ d os', Calls Try.prog 30 #[.slice la ln lc, .slice ra rn rc] (Sort.grow (redrawn w15 d) os') fun e w'' => e = .returned (.bool true) ∧ ∃ p : Regrown, w'' = Sort.grow (redrawn w15 p.d) p.os := fun d os' => Calls.regrown_of (GSB.out _ (HQ3.out.trans ((below_regrown w15 d os').mono HQ3.out.size)))
        have cC : ∀ d os', Calls Try.prog 29 #[.slice la ln lc, .slice sa sn sc] (Sort.grow (redrawn w15 d) os') fun e w'' => e = .returned (.int .i64 NS) ∧ ∃ p : Regrown, w'' = Sort.grow (redrawn w15 p.d) p.os := fun d os' => Calls.regrown_of (GCS.out _ (HQ3.out.trans ((below_regrown w15 d os').mono HQ3.out.size)))
        have HW15 : Hid (Below w.heap.size w w15) := HW12.out.trans (HQ3.out.mono HW12.out.size)
        clear GSB GCS GCA GCB GCK HQ0 HQ1 HQ2 HQ3
        refine wp_region_quiet_below (by kernel_rfl) (by kernel_rfl) ?_
        iterate 8 (quiet_step (exact cA _ _))
        repeat (quiet_step (exact cC _ _))
        refine wpQuiet_nil ?_
        intro _ hw'
        obtain ⟨⟨dq, osq⟩, hw''⟩ := hw'
        subst hw''
        go_wp2_with fail
        go_ret
        exact ⟨rfl, HW15.out.trans ((below_regrown w15 dq osq).mono HW15.out.size)⟩
end Go.Proofs.Ytpjllhlbdcanlaa
