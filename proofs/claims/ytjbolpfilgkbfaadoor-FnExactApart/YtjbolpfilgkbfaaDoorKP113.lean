/-
  The program's rootsOf: whether a program is good, and where its wide and variables lie then; GoodProgram, IsSmall.
  The program's changeRoots: its answer whole, rows and trees.
  The program's rootsOf: its answer whole, rows and trees.
  The number of a state: plain mathematics.
  States of a good program as four words.
  The program's worth, holds: what a root comes to in a state.
  The program's rootsWith: a program read once, with a state of it.
  The program's number.
  The model's l7State and l7Holds.
  The model's l7No, StateNo, IsStart.
  The model's StateNo, IsStart.
  Whether a program is good and whether it is small: the program's GoodProgram, IsSmall.
  Whether a program is small: the program's bits, small, IsSmall.
  The program's isStart, IsStart, StateNo.
  The model's l7Enabled.
  The model's Enabled.
  The program's enabledIn.
  The state of a number: plain mathematics.
  The program's count, hasState, hasCommand, smallRootsOf.
  The program's step.
  The model's TouchedBy.
  The model's l1Has.
-/
import Derived.Test.YtjbolpfilgkbfaaDoorKP112
import Derived.Maps.AppendAt
import Derived.Test.YtjbolpfilgkbfaaDoorKP111
import Derived.Test.YtjbolpfilgkbfaaDoorStateF
import Derived.Test.YtjbolpfilgkbfaaDoorWordsS
import Derived.Test.YtjbolpfilgkbfaaDoorProgOwn
import Derived.Test.YtjbolpfilgkbfaaDoorStateG
import Derived.BigQuiet
import Derived.Test.YtjbolpfilgkbfaaDoorOwn3
import Derived.Lib.QuietBelow
import Derived.Test.YtjbolpfilgkbfaaDoorOwn
namespace Go.Proofs.YtjbolpfilgkbfaaDoor
open Go Go.RowKit
open M
set_option linter.unusedVariables false

/-- what rootsOf answers, but for the rows of its commands -/
def RootsOut (w : World) (p : Pg) (e : Ending) (w' : World) : Prop :=
  ((goodP p = true ∧ ∃ (P : Nat) (x y : Value), e = .returned (ptr P) ∧ w.heap.size ≤ P ∧ Box4 w' P 111 (.int .i64 p.1) (.int .i64 p.2.1) x y) ∨ (goodP p = false ∧ e = .returned (.pointer none))) ∧ Below w.heap.size w w'
theorem rootsOut_no {w w' : World} {p : Pg} (h : goodP p = false) (hb : Below w.heap.size w w') : RootsOut w p (.returned (.pointer none)) w' := ⟨Or.inr ⟨h, rfl⟩, hb⟩
theorem rootsOut_yes {w w' : World} {p : Pg} (P : Nat) (x y : Value) (h : goodP p = true) (hp : w.heap.size ≤ P) (hx : Box4 w' P 111 (.int .i64 p.1) (.int .i64 p.2.1) x y) (hb : Below w.heap.size w w') : RootsOut w p (.returned (.pointer (some ⟨P, 0, none⟩))) w' := ⟨Or.inl ⟨h, P, x, y, rfl, hp, hx⟩, hb⟩
theorem infoCm : (Tryd.prog.info? 108).map (fun i => (i.zero, i.size, i.bytes)) = some (some (.agg #[.pointer none, .slice none 0 0]), 2, 32) := by kernel_rfl
set_option maxRecDepth 100000 in
set_option maxHeartbeats 8000000 in
theorem rootsOf_any (v : Value) (p : Pg) (ok : PgOk p) (w : World) (hT : Tab w) (h : AtProg w v p) :
    Calls Tryd.prog 65 #[v] w (RootsOut w p) := by
  obtain ⟨⟨hfw0, hfw1⟩, ⟨hfv0, hfv1⟩, s, c, rfl, hst, hcm⟩ := h
  obtain ⟨sa, sc, rfl⟩ := hst.shape
  obtain ⟨ca, cc, rfl, hcc⟩ := hcm.opened
  have hcl := hcm.1
  have HOK : Hid (∀ x ∈ p.2.2.2, CmOk x) := ok.2.2.2.2
  have HCS : Hid (∀ w1 : World, Below w.heap.size w w1 → ∀ (i : Nat) (d : Cm), p.2.2.2[i]? = some d → ∃ b off : Nat, ca = some ⟨b, off, none⟩ ∧ ∃ x y : Value, w1.cell? ⟨b, off + i * 2, none⟩ = some x ∧ w1.cell? ⟨b, off + i * 2 + 1, none⟩ = some y ∧ NodesAt w1 x d.1 ∧ PairsAt ChV w1 y d.2) := fun w1 hb i d hi => by
    obtain ⟨b, off, e, hlt, x, y, h3, h4, h5⟩ := hcc i d hi
    exact ⟨b, off, e, x, y, by rw [hb.cell (p := ⟨b, off + i * 2, none⟩) hlt]; exact h3, by rw [hb.cell (p := ⟨b, off + i * 2 + 1, none⟩) hlt]; exact h4, h5.1.below hb, h5.2.below chV_frame hb⟩
  have GN : Hid (∀ (w1 : World) (u : Value) (t : List Nd), Below w.heap.size w w1 → NodesAt w1 u t → ¬ kindL p.1 p.2.1 t = 2 → Calls Tryd.prog 110 #[.int .i64 p.1, .int .i64 p.2.1, u, .int .i64 2] w1 fun e w' => e = .returned (.pointer none) ∧ Below w1.heap.size w1 w') := fun w1 u t hb hu hk => rootK_no _ _ 2 u t w1 (hT.below hb hT.some) hu (Or.inr rfl) hk
  have GY : Hid (∀ (w1 : World) (u : Value) (t : List Nd), Below w.heap.size w w1 → NodesAt w1 u t → kindL p.1 p.2.1 t = 2 → Calls Tryd.prog 110 #[.int .i64 p.1, .int .i64 p.2.1, u, .int .i64 2] w1 fun e w' => ∃ q, e = .returned (ptr q) ∧ Below w1.heap.size w1 w') := fun w1 u t hb hu hk => rootK_some _ _ 2 u t w1 (hT.below hb hT.some) hu (Or.inr rfl) hk
  have GC : Hid (∀ (w1 : World) (u : Value) (t : List Ch), Below w.heap.size w w1 → PairsAt ChV w1 u t → t.length ≤ 1048576 → Calls Tryd.prog 111 #[.int .i64 p.1, .int .i64 p.2.1, u] w1 (CROut w1 (chsB p.1 p.2.1 0 t))) := fun w1 u t hb hu hl => changeRoots_any _ _ u t ⟨hfv0, hfv1⟩ hl w1 (hT.below hb hT.some) hu
  have hR0 : goodP p = ((kindL p.1 p.2.1 p.2.2.1 == 2) && (decide (1 ≤ p.2.2.2.length ∧ p.2.2.2.length ≤ 6) && p.2.2.2.all (cmB p.1 p.2.1))) := rfl
  have HR : Hid _ := hR0
  have HST : Hid (∀ w1 : World, Below w.heap.size w w1 → NodesAt w1 (.slice sa p.2.2.1.length sc) p.2.2.1) := fun w1 hb => hst.below hb
  have HP1 : Hid (p.1 = p.1 ∧ p.2.1 = p.2.1) := ⟨rfl, rfl⟩
  clear hcc hcm hst hT ok hR0 HP1
  obtain ⟨i0, hi, hz0, hz1, hz2⟩ := info_parts infoCm
  have HB0 : Hid (Below w.heap.size w (w.alloc (.cells #[.int .i64 p.1, .int .i64 p.2.1, .slice sa p.2.2.1.length sc, .slice ca p.2.2.2.length cc] 27))) := (Below.refl _ _).alloc (Nat.le_refl _) _
  have x0 := box4_alloc w 27 (.int .i64 p.1) (.int .i64 p.2.1) (.slice sa p.2.2.1.length sc) (.slice ca p.2.2.2.length cc)
  have HX0 : Hid _ := x0
  have hns := HST.out _ HB0.out
  clear x0
  by_cases hks : kindL p.1 p.2.1 p.2.2.1 = 2
  case neg =>
    have hkb : (kindL p.1 p.2.1 p.2.2.1 == 2) = false := beq_eq_false_iff_ne.2 hks
    have HN : Hid (goodP p = false) := by
      show goodP p = false
      rw [HR.out, hkb, Bool.false_and]
    have g := GN.out _ _ _ HB0.out hns hks
    clear GN GY GC HCS HR HST hns hks hkb HX0 HOK
    generalize p.2.2.1.length = sn at *
    generalize p.2.2.2.length = cn at *
    go_enter Tryd.func65, Tryd.ntmps65
    go_wp2_with fail
    refine g.mono ?_
    rintro e w1 ⟨rfl, hs⟩
    have HB1 : Hid (Below w.heap.size w w1) := Below.step HB0.out HB0.out.size hs
    clear hs g
    go_wp2_with fail
    go_ret
    exact rootsOut_no HN.out HB1.out
  have hkb : (kindL p.1 p.2.1 p.2.2.1 == 2) = true := beq_iff_eq.2 hks
  have g := GY.out _ _ _ HB0.out hns hks
  by_cases hcn : 1 ≤ p.2.2.2.length ∧ p.2.2.2.length ≤ 6
  case neg =>
    have HN : Hid (goodP p = false) := by
      show goodP p = false
      rw [HR.out, decide_eq_false hcn, Bool.false_and, Bool.and_false]
    clear GN GY GC HCS HR HST hns hks hkb HOK
    generalize p.2.2.1.length = sn at *
    generalize p.2.2.2.length = cn at *
    by_cases hc1 : cn < 1
    · go_enter Tryd.func65, Tryd.ntmps65
      go_wp2_with fail
      refine g.mono ?_
      generalize w.alloc (.cells #[.int .i64 p.1, .int .i64 p.2.1, .slice sa sn sc, .slice ca cn cc] 27) = w0 at *
      rintro e w1 ⟨q, rfl, hs⟩
      have HB1 : Hid (Below w.heap.size w w1) := Below.step HB0.out HB0.out.size hs
      have x1 := HX0.out.below hs HX0.out.lt
      obtain ⟨a0, a1, a2, a3⟩ := x1.cells
      have ah := x1.heap
      have al := x1.lt
      clear hs g x1
      go_wp2_with fail
      go_ret
      exact rootsOut_no HN.out HB1.out
    · have hc6 : 6 < cn := by omega
      go_enter Tryd.func65, Tryd.ntmps65
      go_wp2_with fail
      refine g.mono ?_
      generalize w.alloc (.cells #[.int .i64 p.1, .int .i64 p.2.1, .slice sa sn sc, .slice ca cn cc] 27) = w0 at *
      rintro e w1 ⟨q, rfl, hs⟩
      have HB1 : Hid (Below w.heap.size w w1) := Below.step HB0.out HB0.out.size hs
      have x1 := HX0.out.below hs HX0.out.lt
      obtain ⟨a0, a1, a2, a3⟩ := x1.cells
      have ah := x1.heap
      have al := x1.lt
      clear hs g x1
      go_wp2_with fail
      go_ret
      exact rootsOut_no HN.out HB1.out
  obtain ⟨hc1, hc6⟩ := hcn
  have HR2 : Hid (goodP p = p.2.2.2.all (cmB p.1 p.2.1)) := by
    show goodP p = _
    rw [HR.out, hkb, decide_eq_true ⟨hc1, hc6⟩, Bool.true_and, Bool.true_and]
  clear HR HST hns hks hkb
  have HPE : Hid (∀ (P : Nat) (x y : Value) (w' : World), goodP p = true → w.heap.size ≤ P → Box4 w' P 111 (.int .i64 p.1) (.int .i64 p.2.1) x y → Below w.heap.size w w' → RootsOut w p (.returned (.pointer (some ⟨P, 0, none⟩))) w') := fun P x y w' h1 h2 h3 h4 => rootsOut_yes P x y h1 h2 h3 h4
  have HNO : Hid (∀ w' : World, goodP p = false → Below w.heap.size w w' → RootsOut w p (.returned (.pointer none)) w') := fun w' h1 h2 => rootsOut_no h1 h2
  generalize RootsOut w p = OUT at *
  generalize goodP p = GP at *
  generalize hcs : p.2.2.2 = cs at *
  generalize p.2.2.1.length = sn at *
  generalize p.1 = pw at *
  generalize p.2.1 = pv at *
  clear hcs
  go_enter Tryd.func65, Tryd.ntmps65
  go_wp2_with fail
  refine g.mono ?_
  generalize w.alloc (.cells #[.int .i64 pw, .int .i64 pv, .slice sa sn sc, .slice ca cs.length cc] 27) = w0 at *
  rintro e w1 ⟨q, rfl, hs⟩
  have hb1 : Below w.heap.size w w1 := Below.step HB0.out HB0.out.size hs
  have hsw1 := hb1.size
  have x1 := HX0.out.below hs HX0.out.lt
  have hlt1 := x1.lt
  obtain ⟨a0, a1, a2, a3⟩ := x1.cells
  have ah := x1.heap
  have al := x1.lt
  have y1 := box4_alloc w1 111 (.int .i64 pw) (.int .i64 pv) (ptr q) (.slice none 0 0)
  have hal := (Below.refl w1.heap.size w1).alloc (Nat.le_refl _) (.cells #[.int .i64 pw, .int .i64 pv, ptr q, .slice none 0 0] 111)
  have hb2 := hb1.trans (hal.mono hb1.size)
  have x2 := x1.below hal x1.lt
  have hss2 : (w1.alloc (.cells #[.int .i64 pw, .int .i64 pv, ptr q, .slice none 0 0] 111)).heap.size = w1.heap.size + 1 := World.size_alloc _ _
  have HXP : Hid (∀ w3, Below (w1.heap.size) (w1.alloc (.cells #[.int .i64 pw, .int .i64 pv, ptr q, .slice none 0 0] 111)) w3 → Box4 w3 w.heap.size 27 (.int .i64 pw) (.int .i64 pv) (.slice sa sn sc) (.slice ca cs.length cc)) := fun w3 hb3 => x2.below hb3 (by omega)
  have HB2 : Hid _ := hb2
  have hy1 := y1
  have HY1 : Hid _ := hy1
  have HBB : Hid (Below w1.heap.size (w1.alloc (.cells #[.int .i64 pw, .int .i64 pv, ptr q, .slice none 0 0] 111)) (w1.alloc (.cells #[.int .i64 pw, .int .i64 pv, ptr q, .slice none 0 0] 111))) := Below.refl _ _
  have HO1 : Hid (∃ (vv : Value) (ps : List (Value × Value)), Box4 (w1.alloc (.cells #[.int .i64 pw, .int .i64 pv, ptr q, .slice none 0 0] 111)) w1.heap.size 111 (.int .i64 pw) (.int .i64 pv) (ptr q) vv ∧ (w1.alloc (.cells #[.int .i64 pw, .int .i64 pv, ptr q, .slice none 0 0] 111)).ownsRow (w1.heap.size + 1) 108 2 vv 0 (flatP ps)) := ⟨_, [], y1, World.ownsRow_nil _ _ _ _⟩
  clear hs g hal hb2 hb1 x1 x2 y1 hy1 HX0 HB0
  go_wp2_with fail
  generalize w1.alloc (.cells #[.int .i64 pw, .int .i64 pv, ptr q, .slice none 0 0] 111) = w2 at *
  go_loopw [41] (fun i wr => ∃ j : Nat, j ≤ cs.length ∧ i = .int .i64 j ∧ Hid ((cs.take j).all (cmB pw pv) = true) ∧ Hid (∃ (vv : Value) (ps : List (Value × Value)), Box4 wr w1.heap.size 111 (.int .i64 pw) (.int .i64 pv) (ptr q) vv ∧ wr.ownsRow (w1.heap.size + 1) 108 2 vv j (flatP ps)) ∧ Hid (Below w.heap.size w wr) ∧ Hid (Below w1.heap.size w2 wr)) (fun i _ => cs.length - (intOf i).toNat)
  case atStart => exact ⟨0, by omega, rfl, rfl, HO1, HB2, HBB⟩
  case round =>
    obtain ⟨j, hj, rfl, HA, HO, HB, HBX⟩ := hrel
    clear HO1 HB2 HBB a0 a1 a2 a3 ah al
    obtain ⟨vv, ps, hbox, hown⟩ := HO.out
    obtain ⟨va, vcap, rfl⟩ := own_shape hown
    have HBOX : Hid _ := hbox
    have HOWN : Hid _ := hown
    have hbs := HBX.out.size
    clear HO hbox hown
    by_cases hlt : j < cs.length
    · obtain ⟨d, hd⟩ : ∃ d, cs[j]? = some d := ⟨cs[j], List.getElem?_eq_getElem hlt⟩
      obtain ⟨b, off, rfl, x, y, cx, cy, hnx, hny⟩ := HCS.out wr HB.out j d hd
      have HD : Hid (cs[j]? = some d) := hd
      have hok := HOK.out d (List.mem_of_getElem? hd)
      have hcb : cmB pw pv d = ((kindL pw pv d.1 == 2) && chsB pw pv 0 d.2) := rfl
      have HCB : Hid _ := hcb
      obtain ⟨xa, xc, rfl⟩ := hnx.shape
      obtain ⟨ya, yc, rfl⟩ := hny.shape
      have HNX : Hid (NodesAt wr (.slice xa d.1.length xc) d.1) := hnx
      have HNY : Hid (PairsAt ChV wr (.slice ya d.2.length yc) d.2) := hny
      have hdl2 := hok.2.1
      clear hnx hny hd hok hcb HCS HOK
      have hal := (Below.refl wr.heap.size wr).alloc (Nat.le_refl _) (.cells #[.slice xa d.1.length xc, .slice ya d.2.length yc] 102)
      have hb3 : Below w.heap.size w (wr.alloc (.cells #[.slice xa d.1.length xc, .slice ya d.2.length yc] 102)) := HB.out.alloc HB.out.size _
      have hbx3 : Below w1.heap.size w2 (wr.alloc (.cells #[.slice xa d.1.length xc, .slice ya d.2.length yc] 102)) := HBX.out.alloc (by omega) _
      have z3 := box2_alloc wr 102 (.slice xa d.1.length xc) (.slice ya d.2.length yc)
      obtain ⟨dw, dc⟩ := d
      simp only at *
      have HNX3 := HNX.out.below hal
      have HNY3 : Hid (∀ w4 : World, Below (wr.alloc (.cells #[.slice xa dw.length xc, .slice ya dc.length yc] 102)).heap.size (wr.alloc (.cells #[.slice xa dw.length xc, .slice ya dc.length yc] 102)) w4 → PairsAt ChV w4 (.slice ya dc.length yc) dc) := fun w4 hb4 => (HNY.out.below chV_frame hal).below chV_frame hb4
      have hq := HXP.out _ hbx3
      obtain ⟨a0, a1, a2, a3⟩ := hq.cells
      have ah := hq.heap
      have al := hq.lt
      have hss3 : (wr.alloc (.cells #[.slice xa dw.length xc, .slice ya dc.length yc] 102)).heap.size = wr.heap.size + 1 := World.size_alloc _ _
      have HBOX3 : Hid (Box4 (wr.alloc (.cells #[.slice xa dw.length xc, .slice ya dc.length yc] 102)) w1.heap.size 111 (.int .i64 pw) (.int .i64 pv) (ptr q) (.slice va j vcap)) := HBOX.out.below hal HBOX.out.lt
      have HOWN3 : Hid ((wr.alloc (.cells #[.slice xa dw.length xc, .slice ya dc.length yc] 102)).ownsRow (w1.heap.size + 1) 108 2 (.slice va j vcap) j (flatP ps)) := own_same HOWN.out (fun q hq => (own_block HOWN.out hq).2) (fun i _ hi => hal.block i hi)
      have HB3 : Hid _ := hb3
      have HBX3 : Hid _ := hbx3
      clear hal hb3 hbx3 hq HBOX HOWN HNX HNY HB HBX
      by_cases hk : kindL pw pv dw = 2
      case neg =>
        have g := GN.out _ _ dw HB3.out HNX3 hk
        have GCD : Hid (∀ (w1 : World) (u : Value), Below w.heap.size w w1 → PairsAt ChV w1 u dc → Calls Tryd.prog 111 #[.int .i64 pw, .int .i64 pv, u] w1 (CROut w1 (chsB pw pv 0 dc))) := fun w1 u hb hu => GC.out w1 u dc hb hu hdl2
        clear HNX3 GC hdl2
        generalize dw.length = xn at *
        generalize dc.length = yn at *
        go_wp2_with fail
        refine g.mono ?_
        generalize wr.alloc (.cells #[.slice xa xn xc, .slice ya yn yc] 102) = w3 at *
        rintro e w4 ⟨rfl, hs⟩
        have hs4 := hs.size
        have z4 := z3.below hs z3.lt
        have hbx4 : Below w1.heap.size w2 w4 := HBX3.out.trans (hs.mono (by omega))
        have hq := HXP.out _ hbx4
        have HBOX4 : Hid (Box4 w4 w1.heap.size 111 (.int .i64 pw) (.int .i64 pv) (ptr q) (.slice va j vcap)) := HBOX3.out.below hs HBOX3.out.lt
        have HOWN4 : Hid (w4.ownsRow (w1.heap.size + 1) 108 2 (.slice va j vcap) j (flatP ps)) := own_same HOWN3.out (fun q hq => (own_block HOWN3.out hq).2) (fun i _ hi => hs.block i hi)
        clear a0 a1 a2 a3 ah al
        obtain ⟨a0, a1, a2, a3⟩ := hq.cells
        have ah := hq.heap
        have al := hq.lt
        obtain ⟨c0, c1⟩ := z4.cells
        have ch := z4.heap
        have cl := z4.lt
        have HB4 : Hid (Below w.heap.size w w4) := HB3.out.trans (hs.mono HB3.out.size)
        have gc := GCD.out w4 (.slice ya yn yc) HB4.out (HNY3.out w4 hs)
        have HBX4 : Hid _ := hbx4
        clear g hs z3 hq HBOX3 HOWN3 HB3 HBX3 HNY3 hbx4 GN GY GCD
        go_wp2_with fail
        refine gc.mono ?_
        rintro e w5 hcr
        unfold CROut at hcr
        obtain ⟨ra, rn, rc, rfl, hs⟩ := hcr
        have hs5 := hs.size
        have HB5 : Hid (Below w.heap.size w w5) := HB4.out.trans (hs.mono HB4.out.size)
        have hkb : (kindL pw pv dw == 2) = false := beq_eq_false_iff_ne.2 hk
        have HN : Hid (GP = false) := HR2.out.trans (allNot HD.out (by rw [HCB.out, hkb, Bool.false_and]))
        clear hs gc z4 hkb hk HCB HD HA HR2 HBOX4 HOWN4
        go_wp2_with fail
        exact HNO.out _ HN.out HB5.out
      have g := GY.out _ _ dw HB3.out HNX3 hk
      have GCD : Hid (∀ (w1 : World) (u : Value), Below w.heap.size w w1 → PairsAt ChV w1 u dc → Calls Tryd.prog 111 #[.int .i64 pw, .int .i64 pv, u] w1 (CROut w1 (chsB pw pv 0 dc))) := fun w1 u hb hu => GC.out w1 u dc hb hu hdl2
      clear HNX3 GC hdl2
      generalize dw.length = xn at *
      generalize dc.length = yn at *
      go_wp2_with fail
      refine g.mono ?_
      generalize wr.alloc (.cells #[.slice xa xn xc, .slice ya yn yc] 102) = w3 at *
      rintro e w4 ⟨qb, rfl, hs⟩
      have hs4 := hs.size
      have z4 := z3.below hs z3.lt
      have hbx4 : Below w1.heap.size w2 w4 := HBX3.out.trans (hs.mono (by omega))
      have hq := HXP.out _ hbx4
      have HBOX4 : Hid (Box4 w4 w1.heap.size 111 (.int .i64 pw) (.int .i64 pv) (ptr q) (.slice va j vcap)) := HBOX3.out.below hs HBOX3.out.lt
      have HOWN4 : Hid (w4.ownsRow (w1.heap.size + 1) 108 2 (.slice va j vcap) j (flatP ps)) := own_same HOWN3.out (fun q hq => (own_block HOWN3.out hq).2) (fun i _ hi => hs.block i hi)
      clear a0 a1 a2 a3 ah al
      obtain ⟨a0, a1, a2, a3⟩ := hq.cells
      have ah := hq.heap
      have al := hq.lt
      obtain ⟨c0, c1⟩ := z4.cells
      have ch := z4.heap
      have cl := z4.lt
      have HB4 : Hid (Below w.heap.size w w4) := HB3.out.trans (hs.mono HB3.out.size)
      have gc := GCD.out w4 (.slice ya yn yc) HB4.out (HNY3.out w4 hs)
      have HBX4 : Hid _ := hbx4
      clear g hs z3 hq HBOX3 HOWN3 HB3 HBX3 HNY3 hbx4 GN GY GCD
      go_wp2_with fail
      refine gc.mono ?_
      rintro e w5 hcr
      unfold CROut at hcr
      obtain ⟨ra, rn, rc, rfl, hs⟩ := hcr
      have hs5 := hs.size
      have HB5 : Hid (Below w.heap.size w w5) := HB4.out.trans (hs.mono HB4.out.size)
      have hkb : (kindL pw pv dw == 2) = true := beq_iff_eq.2 hk
      cases hch : chsB pw pv 0 dc with
      | false =>
        have HN : Hid (GP = false) := HR2.out.trans (allNot HD.out (by rw [HCB.out, hch, Bool.and_false]))
        clear hs gc z4 hkb hk HCB HD HA HR2 HBOX4 HOWN4 hch
        go_wp2_with fail
        exact HNO.out _ HN.out HB5.out
      | true =>
        have HN : Hid ((cs.take (j + 1)).all (cmB pw pv) = true) := allTake HD.out HA.out (by rw [HCB.out, hkb, hch]; rfl)
        have hbx5 : Below w1.heap.size w2 w5 := HBX4.out.trans (hs.mono (by have := HBX4.out.size; omega))
        have hy5 := HBOX4.out.below hs HBOX4.out.lt
        have own5 := own_same HOWN4.out (fun q hq => (own_block HOWN4.out hq).2) (fun i _ hi => hs.block i hi)
        have own6 := World.ownsRow.alloc own5 (.cells #[ptr qb, .slice ra rn rc] 108)
        have hb6 : Below w.heap.size w (w5.alloc (.cells #[ptr qb, .slice ra rn rc] 108)) := HB5.out.alloc HB5.out.size _
        have hbx6 : Below w1.heap.size w2 (w5.alloc (.cells #[ptr qb, .slice ra rn rc] 108)) := hbx5.alloc (by have := hbx5.size; omega) _
        have hy6 := hy5.alloc (.cells #[ptr qb, .slice ra rn rc] 108)
        obtain ⟨r0, r1, r2, r3⟩ := hy5.cells
        have rh := hy5.heap
        have rl := hy5.lt
        have cells6 := cr_cells w5 (ptr qb) (.slice ra rn rc) 108
        have hlen6 := own6.1
        have hss6 : (w5.alloc (.cells #[ptr qb, .slice ra rn rc] 108)).heap.size = w5.heap.size + 1 := World.size_alloc _ _
        have hbs6 := hbx5.size
        have hs6 : w1.heap.size + 1 ≤ (w5.alloc (.cells #[ptr qb, .slice ra rn rc] 108)).heap.size := by omega
        clear hs gc z4 hkb hk HCB HD HA HBOX4 HOWN4 hch own5 hy5 HB4 HBX4 a0 a1 a2 a3 ah al c0 c1 ch cl
        go_wp2_with (at_builtin; refine wpList_append_own _ rfl _ _ 109 rfl (w1.heap.size + 1) 108 i0 (.agg #[.pointer none, .slice none 0 0]) 2 32 Tryd.underlying109 hi hz0 hz1 hz2 rfl (by decide) _ _ _ rfl own6 ⟨w5.heap.size, 0, none⟩ 1 1 [ptr qb, .slice ra rn rc] rfl rfl cells6 (by simp [Value.oneCell']) (by unfold maxLen; omega) (by omega) hs6 ?_)
        intro v9 w9 own9 grow9 hnew9
        have hy9 : Box4 w9 w1.heap.size 111 (.int .i64 pw) (.int .i64 pv) (ptr q) (.slice va j vcap) := by
          refine ⟨?_⟩
          rw [grow9.block _ hy6.lt ?_]
          · exact hy6.heap
          · intro e
            have := own_block own6 e.symm
            omega
        have hb9 : Below w.heap.size w w9 := hb6.grown grow9 (by omega) (fun k hk => by have := (own_block own6 hk).1; omega)
        have hbx9 : Below w1.heap.size w2 w9 := hbx6.grown grow9 (by omega) (fun k hk => by have := (own_block own6 hk).1; omega)
        obtain ⟨v9a, v9c, rfl⟩ := own_shape own9
        obtain ⟨m0, m1, m2, m3⟩ := hy9.cells
        have mh := hy9.heap
        have ml := hy9.lt
        have mf := hy9.frozen 3
        have HY10 : Hid _ := hy9.set3 (.slice v9a (j + 1) v9c)
        have HB10 : Hid (Below w.heap.size w (w9.setCell ⟨w1.heap.size, 3, none⟩ (.slice v9a (j + 1) v9c))) := hb9.setCell (by show w.heap.size ≤ w1.heap.size; omega) _
        have HBX10 : Hid (Below w1.heap.size w2 (w9.setCell ⟨w1.heap.size, 3, none⟩ (.slice v9a (j + 1) v9c))) := hbx9.setCell (Nat.le_refl _) _
        have HO10 : Hid ((w9.setCell ⟨w1.heap.size, 3, none⟩ (.slice v9a (j + 1) v9c)).ownsRow (w1.heap.size + 1) 108 2 (.slice v9a (j + 1) v9c) (j + 1) (flatP (ps ++ [(ptr qb, .slice ra rn rc)]))) := by
          show World.ownsRow _ _ _ _ _ _ _
          rw [flatP_append]
          exact own_same (lo := w1.heap.size + 1) own9 (fun q hq => (own_block own9 hq).2) (same_set (Nat.lt_succ_self _))
        clear own6 own9 grow9 hb6 hbx6 hy6 hb9 hbx9 hy9 cells6 r0 r1 r2 r3 rh rl hnew9
        go_wp2_with fail
        go_roundw
        case rel => exact ⟨j + 1, by omega, by go_num, HN, ⟨_, _, HY10.out, HO10.out⟩, HB10, HBX10⟩
        case measure => simp [intOf]; omega
    · obtain rfl : j = cs.length := by omega
      have HN : Hid (GP = true) := by
        have h1 := HA.out
        rw [List.take_length] at h1
        exact HR2.out.trans h1
      clear HCS GN GY GC HA HOWN HR2
      go_wp2_with fail
      exact HPE.out _ _ _ _ HN.out (by omega) HBOX.out HB.out
end Go.Proofs.YtjbolpfilgkbfaaDoor

namespace Go.Proofs.YtjbolpfilgkbfaaDoor
open Go Go.RowKit
open M
set_option linter.unusedVariables false

/-- a term of a kind, as its tree lies: blocks that S takes -/
def RtAt (w : World) (S : Nat → Prop) (wide vars kind : Int) (t : List Nd) (z : Value) : Prop := ∃ (r : Tr) (b : Nat), z = ptr b ∧ r.flat = t ∧ r.Ok wide vars ∧ r.kind = kind ∧ r.size ≤ 48 ∧ TrAt w S r b
theorem RtAt.frame {w w' : World} {S S' : Nat → Prop} {wide vars kind : Int} {t : List Nd} {z : Value} (h : RtAt w S wide vars kind t z) (hs : ∀ k, S k → S' k) (hk : ∀ k, S k → w'.heap[k]? = w.heap[k]?) : RtAt w' S' wide vars kind t z := by
  obtain ⟨r, b, h1, h2, h3, h4, h5, h6⟩ := h
  exact ⟨r, b, h1, h2, h3, h4, h5, TrAt.frame hs hk h6⟩
def CrEl (w : World) (S : Nat → Prop) (wide vars : Int) (c : Ch) (x y : Value) : Prop := x = .int .i64 c.1 ∧ RtAt w S wide vars 1 c.2 y
/-- a row of changes with their trees, to be read: blocks that S takes -/
def CrAt (w : World) (S : Nat → Prop) (wide vars : Int) (v : Value) (cs : List Ch) : Prop :=
  (cs = [] ∧ v = .slice none 0 0) ∨ ∃ g cap : Nat, v = .slice (some ⟨g, 0, none⟩) cs.length cap ∧ S g ∧ g < w.heap.size ∧ ∀ (i : Nat) (c : Ch), cs[i]? = some c → ∃ x y : Value, w.cell? ⟨g, i * 2, none⟩ = some x ∧ w.cell? ⟨g, i * 2 + 1, none⟩ = some y ∧ CrEl w S wide vars c x y
theorem CrEl.frame {w w' : World} {S S' : Nat → Prop} {wide vars : Int} {c : Ch} {x y : Value} (h : CrEl w S wide vars c x y) (hs : ∀ k, S k → S' k) (hk : ∀ k, S k → w'.heap[k]? = w.heap[k]?) : CrEl w' S' wide vars c x y := ⟨h.1, h.2.frame hs hk⟩
theorem CrAt.frame {w w' : World} {S S' : Nat → Prop} {wide vars : Int} {v : Value} {cs : List Ch} (h : CrAt w S wide vars v cs) (hz : w.heap.size ≤ w'.heap.size) (hs : ∀ k, S k → S' k) (hk : ∀ k, S k → w'.heap[k]? = w.heap[k]?) : CrAt w' S' wide vars v cs := by
  rcases h with h | ⟨g, cap, h1, h2, h3, h4⟩
  · exact Or.inl h
  · refine Or.inr ⟨g, cap, h1, hs g h2, Nat.lt_of_lt_of_le h3 hz, fun i c hi => ?_⟩
    obtain ⟨x, y, k1, k2, k3⟩ := h4 i c hi
    refine ⟨x, y, ?_, ?_, k3.frame hs hk⟩
    · rw [World.cell?_of_block (w := w) (a := ⟨g, i * 2, none⟩) (hk g h2)]; exact k1
    · rw [World.cell?_of_block (w := w) (a := ⟨g, i * 2 + 1, none⟩) (hk g h2)]; exact k2
theorem crAt_of {w : World} {base : Nat} {S : Nat → Prop} {wide vars : Int} {v : Value} {cs : List Ch} {T : TypeId} {ps : List (Value × Value)} (hl : ps.length = cs.length) (h : w.ownsRow base T 2 v cs.length (flatP ps)) (hS : ∀ k, base ≤ k → k < w.heap.size → S k)
    (he : ∀ (i : Nat) (c : Ch) (p : Value × Value), cs[i]? = some c → ps[i]? = some p → CrEl w S wide vars c p.1 p.2) : CrAt w S wide vars v cs := by
  rcases h.2 with ⟨h1, h2⟩ | ⟨g, cap, cur, rfl, hg, hh, _⟩
  · exact Or.inl ⟨List.length_eq_zero_iff.1 h2, h1⟩
  · have hlt := (Array.getElem?_eq_some_iff.1 hh).1
    refine Or.inr ⟨g, cap, rfl, hS g hg hlt, hlt, fun i c hi => ?_⟩
    have hic := (List.getElem?_eq_some_iff.1 hi).1
    obtain ⟨p, hq⟩ : ∃ p, ps[i]? = some p := ⟨ps[i]'(by omega), List.getElem?_eq_getElem (by omega)⟩
    obtain ⟨f0, f1⟩ := flatP_at ps i p hq
    have hfl := flatP_len ps
    refine ⟨p.1, p.2, ?_, ?_, he i c p hi hq⟩
    · rw [h.cellAt (i * 2) (by omega)]; exact f0
    · rw [h.cellAt (i * 2 + 1) (by omega)]; exact f1
theorem rootK_full (wide vars kind : Int) (v : Value) (t : List Nd) (w : World) (hT : Tab w) (h : NodesAt w v t) (hk0 : kind = 1 ∨ kind = 2) (hk : kindL wide vars t = kind) :
    Calls Tryd.prog 110 #[.int .i64 wide, .int .i64 vars, v, .int .i64 kind] w fun e w' => ∃ p, e = .returned (ptr p) ∧ Below w.heap.size w w' ∧ RtAt w' (fun k => w.heap.size ≤ k ∧ k < w'.heap.size) wide vars kind t (ptr p) := by
  obtain ⟨_, _, _, _, hl48, r, hr, k1, k2, k3⟩ := root_tree (show 0 < kindL wide vars t by omega)
  have hsz := r.flat_len
  rw [k2] at hsz
  exact (rootK_yes wide vars kind v t w hT h r hk hk0 hr (by rw [k3]; exact hk)).mono fun e w' ⟨p, he, ht, hb⟩ => ⟨p, he, hb, r, p, rfl, k2, k1, by rw [k3]; exact hk, by omega, TrAt.frame (fun k hk => Or.elim hk (fun q => False.elim q) id) (fun _ _ => rfl) ht⟩
/-- what changeRoots answers -/
def CRFull (w : World) (wide vars : Int) (cs : List Ch) (R : Bool) (e : Ending) (w' : World) : Prop := ∃ a n cap, e = .returned (.tuple #[.slice a n cap, .bool R]) ∧ Below w.heap.size w w' ∧ (R = true → CrAt w' (fun k => w.heap.size ≤ k ∧ k < w'.heap.size) wide vars (.slice a n cap) cs)
theorem crFull_no {w w' : World} {wide vars : Int} {cs : List Ch} {R : Bool} (a : Option Addr) (n cap : Nat) (h : R = false) (hb : Below w.heap.size w w') : CRFull w wide vars cs R (.returned (.tuple #[.slice a n cap, .bool false])) w' := ⟨a, n, cap, by rw [h], hb, fun h' => by rw [h] at h'; cases h'⟩
theorem crFull_yes {w w' : World} {wide vars : Int} {cs : List Ch} {R : Bool} (a : Option Addr) (n cap : Nat) (h : R = true) (hb : Below w.heap.size w w') (hc : CrAt w' (fun k => w.heap.size ≤ k ∧ k < w'.heap.size) wide vars (.slice a n cap) cs) : CRFull w wide vars cs R (.returned (.tuple #[.slice a n cap, .bool true])) w' := ⟨a, n, cap, by rw [h], hb, fun _ => hc⟩
set_option maxRecDepth 100000 in
set_option maxHeartbeats 8000000 in
theorem changeRoots_full (wide vars : Int) (v : Value) (cs : List Ch) (hfv : Fit vars) (hn : cs.length ≤ 1048576) (w : World) (hT : Tab w) (h : PairsAt ChV w v cs) :
    Calls Tryd.prog 111 #[.int .i64 wide, .int .i64 vars, v] w (CRFull w wide vars cs (chsB wide vars 0 cs)) := by
  obtain ⟨cha, chc, rfl, hcc⟩ := h.opened
  have HCS : Hid (∀ w1 : World, Below w.heap.size w w1 → ∀ (i : Nat) (d : Ch), cs[i]? = some d → ∃ b off : Nat, cha = some ⟨b, off, none⟩ ∧ ∃ y : Value, w1.cell? ⟨b, off + i * 2, none⟩ = some (.int .i64 d.1) ∧ w1.cell? ⟨b, off + i * 2 + 1, none⟩ = some y ∧ Fit d.1 ∧ NodesAt w1 y d.2) := fun w1 hb i d hi => by
    obtain ⟨b, off, e, hlt, x, y, h3, h4, h5⟩ := hcc i d hi
    obtain ⟨k0, rfl, k2⟩ := h5
    exact ⟨b, off, e, y, by rw [hb.cell (p := ⟨b, off + i * 2, none⟩) hlt]; exact h3, by rw [hb.cell (p := ⟨b, off + i * 2 + 1, none⟩) hlt]; exact h4, k0, k2.below hb⟩
  have GN : Hid (∀ (w1 : World) (u : Value) (t : List Nd), Below w.heap.size w w1 → NodesAt w1 u t → ¬ kindL wide vars t = 1 → Calls Tryd.prog 110 #[.int .i64 wide, .int .i64 vars, u, .int .i64 1] w1 fun e w' => e = .returned (.pointer none) ∧ Below w1.heap.size w1 w') := fun w1 u t hb hu hk => rootK_no wide vars 1 u t w1 (hT.below hb hT.some) hu (Or.inl rfl) hk
  have GY : Hid (∀ (w1 : World) (u : Value) (t : List Nd), Below w.heap.size w w1 → NodesAt w1 u t → kindL wide vars t = 1 → Calls Tryd.prog 110 #[.int .i64 wide, .int .i64 vars, u, .int .i64 1] w1 fun e w' => ∃ p, e = .returned (ptr p) ∧ Below w1.heap.size w1 w' ∧ RtAt w' (fun k => w1.heap.size ≤ k ∧ k < w'.heap.size) wide vars 1 t (ptr p)) := fun w1 u t hb hu hk => rootK_full wide vars 1 u t w1 (hT.below hb hT.some) hu (Or.inl rfl) hk
  clear h hcc hT
  generalize hR : chsB wide vars 0 cs = R at *
  have HR : Hid _ := hR
  clear hR
  obtain ⟨hf0, hf1⟩ := hfv
  obtain ⟨i0, hi, hz0, hz1, hz2⟩ := info_parts infoCR
  have HO0 : Hid (∃ ps : List (Value × Value), ps.length = 0 ∧ w.ownsRow w.heap.size 147 2 (.slice none 0 0) 0 (flatP ps) ∧ ∀ (i : Nat) (c : Ch) (p : Value × Value), cs[i]? = some c → ps[i]? = some p → CrEl w (fun k => w.heap.size ≤ k ∧ k < w.heap.size ∧ (Value.slice none 0 0).ownBlock ≠ some k) wide vars c p.1 p.2) := ⟨[], rfl, World.ownsRow_nil _ _ _ _, fun i c p _ hp => by simp at hp⟩
  have HB00 : Hid (Below w.heap.size w w) := Below.refl _ _
  go_enter Tryd.func111, Tryd.ntmps111
  go_wp2_with fail
  go_loopw [8, 9, 15] (fun v l i wr => ∃ j : Nat, j ≤ cs.length ∧ i = .int .i64 j ∧ l = .int .i64 (nextL 0 (cs.take j)) ∧ Hid (chsB wide vars 0 (cs.take j) = true) ∧ Hid (∃ ps : List (Value × Value), ps.length = j ∧ wr.ownsRow w.heap.size 147 2 v j (flatP ps) ∧ ∀ (i : Nat) (c : Ch) (p : Value × Value), cs[i]? = some c → ps[i]? = some p → CrEl wr (fun k => w.heap.size ≤ k ∧ k < wr.heap.size ∧ v.ownBlock ≠ some k) wide vars c p.1 p.2) ∧ Hid (Below w.heap.size w wr)) (fun _ _ i _ => cs.length - (intOf i).toNat)
  case atStart => exact ⟨0, by omega, rfl, rfl, rfl, HO0, HB00⟩
  case round =>
    obtain ⟨j, hj, rfl, rfl, HA, HO, HB⟩ := hrel
    clear HO0 HB00
    obtain ⟨ps, hpl, hown, hel⟩ := HO.out
    obtain ⟨va, vcap, rfl⟩ := own_shape hown
    clear HO
    have HOW : Hid _ := hown
    have HEL : Hid _ := hel
    have HPL : Hid (ps.length = j) := hpl
    clear hown hel hpl
    have hnx := nextL_in wide vars _ HA.out
    by_cases hlt : j < cs.length
    · obtain ⟨d, hd⟩ : ∃ d, cs[j]? = some d := ⟨cs[j], List.getElem?_eq_getElem hlt⟩
      obtain ⟨b, off, rfl, y, cx, cy, hfd, hny⟩ := HCS.out wr HB.out j d hd
      have hTk := chsB_take wide vars cs 0 j d hd HA.out
      have hnt := nextL_take cs 0 j d hd
      have HNT : Hid _ := hnt
      have HNK : Hid (NodesAt wr y d.2) := hny
      have HDJ : Hid (cs[j]? = some d) := hd
      obtain ⟨ya, yc, rfl⟩ := hny.shape
      obtain ⟨x1, dt⟩ := d
      obtain ⟨hx0, hx1⟩ := hfd
      simp only at *
      generalize hnl : nextL 0 (cs.take j) = nx at *
      generalize dt.length = yn at *
      have hal := (Below.refl wr.heap.size wr).alloc (Nat.le_refl _) (.cells #[.int .i64 x1, .slice ya yn yc] 122)
      have hb2 : Below w.heap.size w (wr.alloc (.cells #[.int .i64 x1, .slice ya yn yc] 122)) := HB.out.alloc HB.out.size _
      have hny2 := HNK.out.below hal
      have z2 := box2_alloc wr 122 (.int .i64 x1) (.slice ya yn yc)
      have hown2 := World.ownsRow.alloc HOW.out (.cells #[.int .i64 x1, .slice ya yn yc] 122)
      have HOW2 : Hid _ := hown2
      have HB2 : Hid _ := hb2
      have HNY : Hid _ := hny2
      have hss : (wr.alloc (.cells #[.int .i64 x1, .slice ya yn yc] 122)).heap.size = wr.heap.size + 1 := World.size_alloc _ _
      have hbs := HB.out.size
      clear hny hal hb2 hny2 hown2 HCS HNK hd hnt
      by_cases hlo : x1 < nx
      · have HN : Hid (R = false) := HR.out.symm.trans (chsB_not wide vars cs 0 (j + 1) (by rw [hTk, decide_eq_false (by omega), Bool.false_and]))
        clear hTk GN GY HOW HOW2 z2 HNY
        go_wp2_with fail
        go_ret2
        exact crFull_no _ _ _ HN.out HB2.out
      by_cases hhi : vars ≤ x1
      · have HN : Hid (R = false) := HR.out.symm.trans (chsB_not wide vars cs 0 (j + 1) (by rw [hTk, decide_eq_false (by omega), Bool.false_and]))
        clear hTk GN GY HOW HOW2 z2 HNY
        go_wp2_with fail
        go_ret2
        exact crFull_no _ _ _ HN.out HB2.out
      by_cases hk : kindL wide vars dt = 1
      case neg =>
        have hkb : (kindL wide vars dt == 1) = false := beq_eq_false_iff_ne.2 hk
        have HN : Hid (R = false) := HR.out.symm.trans (chsB_not wide vars cs 0 (j + 1) (by rw [hTk, hkb, Bool.and_false]))
        have g := GN.out _ _ dt HB2.out HNY.out hk
        clear hTk GN GY HOW HOW2 z2 HNY hkb hk
        go_wp2_with fail
        refine g.mono ?_
        rintro e w3 ⟨rfl, hs⟩
        have HB3 : Hid (Below w.heap.size w w3) := HB2.out.trans (hs.mono HB2.out.size)
        clear g hs
        go_wp2_with fail
        go_ret2
        exact crFull_no _ _ _ HN.out HB3.out
      have hkb : (kindL wide vars dt == 1) = true := beq_iff_eq.2 hk
      have HN : Hid (chsB wide vars 0 (cs.take (j + 1)) = true) := by
        show chsB wide vars 0 (cs.take (j + 1)) = true
        rw [hTk, decide_eq_true (by omega), hkb]
        rfl
      have g := GY.out _ _ dt HB2.out HNY.out hk
      clear hTk GN GY HNY hkb hk
      go_wp2_with fail
      refine g.mono ?_
      have hbw : ∀ k, k < wr.heap.size → (wr.alloc (.cells #[.int .i64 x1, .slice ya yn yc] 122)).heap[k]? = wr.heap[k]? := fun k hk => by
        show (wr.heap.push _)[k]? = _
        rw [Array.getElem?_push_lt hk]
        simp [hk]
      have HOW3 : Hid _ := HOW.out
      generalize wr.alloc (.cells #[.int .i64 x1, .slice ya yn yc] 122) = w2 at *
      rintro e w3 ⟨pb, rfl, hs, hrt⟩
      have hs3 := hs.size
      have z3 := z2.below hs z2.lt
      obtain ⟨c0, c1⟩ := z3.cells
      have ch := z3.heap
      have cl := z3.lt
      have own3 := own_same HOW2.out (fun q hq => (own_block HOW2.out hq).2) (fun i _ hi => hs.block i hi)
      have own6 := World.ownsRow.alloc own3 (.cells #[.int .i64 x1, ptr pb] 147)
      have hb6 : Below w.heap.size w (w3.alloc (.cells #[.int .i64 x1, ptr pb] 147)) := (HB2.out.trans (hs.mono HB2.out.size)).alloc (by omega) _
      have hs6 := hb6.size
      have z6 := z3.alloc (.cells #[.int .i64 x1, ptr pb] 147)
      have cells6 := cr_cells w3 (.int .i64 x1) (ptr pb) 147
      have hlen6 := own6.1
      have HS3 : Hid _ := hs
      have HRT : Hid (RtAt w3 (fun k => w2.heap.size ≤ k ∧ k < w3.heap.size) wide vars 1 dt (ptr pb)) := hrt
      have hss2 : w2.heap.size = wr.heap.size + 1 := hss
      clear hs g z2 own3 HOW2 hrt
      go_wp2_with (at_builtin; refine wpList_append_own_at _ rfl _ _ 106 rfl w.heap.size 147 i0 (.agg #[.int .i64 0, .pointer none]) 2 16 Tryd.underlying106 hi hz0 hz1 hz2 rfl (by decide) _ _ _ rfl own6 ⟨w3.heap.size, 0, none⟩ 1 1 [.int .i64 x1, ptr pb] rfl rfl cells6 (by simp [Value.oneCell']) (by unfold maxLen; omega) (by omega) hs6 ?_)
      intro v9 w9 own9 grow9 hnew9 hat9
      have HB9 : Hid (Below w.heap.size w w9) := hb6.grown grow9 hs6 (fun k hk => (own_block own6 hk).1)
      have hq9 : ∀ k, k < wr.heap.size + 1 ∨ (k < w3.heap.size) → (Value.slice va j vcap).ownBlock ≠ some k → w9.heap[k]? = w3.heap[k]? := fun k hk hne => by
        have hk3 : k < w3.heap.size := by have := HS3.out.size; omega
        rw [grow9.block k (by rw [World.size_alloc]; omega) (fun e => hne e.symm)]
        show (w3.heap.push _)[k]? = _
        rw [Array.getElem?_push_lt hk3]
        simp [hk3]
      have hs9 := grow9.size
      rw [World.size_alloc] at hs9
      have hv9 : ∀ k, k < w3.heap.size → (Value.slice va j vcap).ownBlock ≠ some k → v9.ownBlock ≠ some k := fun k hk hne e => by
        rcases hat9 with h | h
        · exact hne (h.symm.trans e)
        · rw [h] at e
          have := Option.some.inj e
          omega
      have HO9 : Hid (∃ ps : List (Value × Value), ps.length = j + 1 ∧ w9.ownsRow w.heap.size 147 2 v9 (j + 1) (flatP ps) ∧ ∀ (i : Nat) (c : Ch) (p : Value × Value), cs[i]? = some c → ps[i]? = some p → CrEl w9 (fun k => w.heap.size ≤ k ∧ k < w9.heap.size ∧ v9.ownBlock ≠ some k) wide vars c p.1 p.2) := by
        refine ⟨ps ++ [((.int .i64 x1 : Value), ptr pb)], by rw [List.length_append, HPL.out]; rfl, by rw [flatP_append]; exact own9, fun i c p hc hp => ?_⟩
        by_cases hij : i < ps.length
        · rw [List.getElem?_append_left hij] at hp
          refine (HEL.out i c p hc hp).frame (fun k hk => ⟨hk.1, by omega, hv9 k (by omega) hk.2.2⟩) (fun k hk => ?_)
          rw [hq9 k (Or.inl (by omega)) hk.2.2, HS3.out.block k (by omega)]
          exact hbw k hk.2.1
        · have hlt9 := (List.getElem?_eq_some_iff.1 hp).1
          have hpl := HPL.out
          rw [List.length_append, List.length_singleton] at hlt9
          have hi9 : i = j := by omega
          subst hi9
          rw [List.getElem?_append_right (by omega), hpl, Nat.sub_self] at hp
          simp only [List.getElem?_cons_zero, Option.some.injEq] at hp
          subst hp
          rw [HDJ.out] at hc
          simp only [Option.some.injEq] at hc
          subst hc
          refine ⟨rfl, HRT.out.frame (fun k hk => ?_) (fun k hk => ?_)⟩
          · have hne : (Value.slice va i vcap).ownBlock ≠ some k := fun e => by have := own_block HOW3.out e; omega
            exact ⟨by omega, by omega, hv9 k hk.2 hne⟩
          · have hne : (Value.slice va i vcap).ownBlock ≠ some k := fun e => by have := own_block HOW3.out e; omega
            exact hq9 k (Or.inr hk.2) hne
      have z9 : Box2 w9 wr.heap.size 122 (.int .i64 x1) (.slice ya yn yc) := by
        refine ⟨?_⟩
        rw [grow9.block _ z6.lt ?_]
        · exact z6.heap
        · intro e
          rcases own6.2 with ⟨h1, _⟩ | ⟨g, cap, cur, h1, h2, h3, _⟩
          · rw [h1] at e
            cases e
          · rw [h1] at e
            have e2 : g = wr.heap.size := (Option.some.inj e).symm
            subst e2
            rw [z6.heap] at h3
            simp only [Option.some.injEq] at h3
            injection h3 with _ h8
            exact absurd h8 (by decide)
      obtain ⟨m0, m1⟩ := z9.cells
      have mh := z9.heap
      have ml := z9.lt
      clear own6 own9 grow9 hb6 z3 z6 z9 cells6 c0 c1 ch cl hnew9 hat9 hq9 hv9 hbw HRT HS3 HOW3 HOW
      go_wp2_with fail
      go_roundw
      case rel => exact ⟨j + 1, by omega, by go_num, by rw [HNT.out], HN, HO9, HB9⟩
      case measure => simp [intOf]; omega
    · obtain rfl : j = cs.length := by omega
      have HN : Hid (R = true) := by
        have h1 := HA.out
        rw [List.take_length] at h1
        exact HR.out.symm.trans h1
      have HCR : Hid (CrAt wr (fun k => w.heap.size ≤ k ∧ k < wr.heap.size) wide vars (.slice va cs.length vcap) cs) := crAt_of HPL.out HOW.out (fun k h1 h2 => ⟨h1, h2⟩) (fun i c p hc hp => (HEL.out i c p hc hp).frame (fun k hk => ⟨hk.1, hk.2.1⟩) (fun _ _ => rfl))
      clear HCS GN GY HOW HA HEL
      go_wp2_with fail
      go_ret2
      exact crFull_yes _ _ _ HN.out HB.out HCR.out
end Go.Proofs.YtjbolpfilgkbfaaDoor

namespace Go.Proofs.YtjbolpfilgkbfaaDoor
open Go Go.RowKit
open M
set_option linter.unusedVariables false

def CmEl (w : World) (S : Nat → Prop) (wide vars : Int) (c : Cm) (x y : Value) : Prop := RtAt w S wide vars 2 c.1 x ∧ CrAt w S wide vars y c.2
/-- a row of commands with their trees, to be read: blocks that S takes -/
def CmrAt (w : World) (S : Nat → Prop) (wide vars : Int) (v : Value) (cs : List Cm) : Prop :=
  (cs = [] ∧ v = .slice none 0 0) ∨ ∃ g cap : Nat, v = .slice (some ⟨g, 0, none⟩) cs.length cap ∧ S g ∧ g < w.heap.size ∧ ∀ (i : Nat) (c : Cm), cs[i]? = some c → ∃ x y : Value, w.cell? ⟨g, i * 2, none⟩ = some x ∧ w.cell? ⟨g, i * 2 + 1, none⟩ = some y ∧ CmEl w S wide vars c x y
theorem CmEl.frame {w w' : World} {S S' : Nat → Prop} {wide vars : Int} {c : Cm} {x y : Value} (h : CmEl w S wide vars c x y) (hz : w.heap.size ≤ w'.heap.size) (hs : ∀ k, S k → S' k) (hk : ∀ k, S k → w'.heap[k]? = w.heap[k]?) : CmEl w' S' wide vars c x y := ⟨h.1.frame hs hk, h.2.frame hz hs hk⟩
theorem CmrAt.frame {w w' : World} {S S' : Nat → Prop} {wide vars : Int} {v : Value} {cs : List Cm} (h : CmrAt w S wide vars v cs) (hz : w.heap.size ≤ w'.heap.size) (hs : ∀ k, S k → S' k) (hk : ∀ k, S k → w'.heap[k]? = w.heap[k]?) : CmrAt w' S' wide vars v cs := by
  rcases h with h | ⟨g, cap, h1, h2, h3, h4⟩
  · exact Or.inl h
  · refine Or.inr ⟨g, cap, h1, hs g h2, Nat.lt_of_lt_of_le h3 hz, fun i c hi => ?_⟩
    obtain ⟨x, y, k1, k2, k3⟩ := h4 i c hi
    refine ⟨x, y, ?_, ?_, k3.frame hz hs hk⟩
    · rw [World.cell?_of_block (w := w) (a := ⟨g, i * 2, none⟩) (hk g h2)]; exact k1
    · rw [World.cell?_of_block (w := w) (a := ⟨g, i * 2 + 1, none⟩) (hk g h2)]; exact k2
theorem cmrAt_of {w : World} {base : Nat} {S : Nat → Prop} {wide vars : Int} {v : Value} {cs : List Cm} {T : TypeId} {ps : List (Value × Value)} (hl : ps.length = cs.length) (h : w.ownsRow base T 2 v cs.length (flatP ps)) (hS : ∀ k, base ≤ k → k < w.heap.size → S k)
    (he : ∀ (i : Nat) (c : Cm) (p : Value × Value), cs[i]? = some c → ps[i]? = some p → CmEl w S wide vars c p.1 p.2) : CmrAt w S wide vars v cs := by
  rcases h.2 with ⟨h1, h2⟩ | ⟨g, cap, cur, rfl, hg, hh, _⟩
  · exact Or.inl ⟨List.length_eq_zero_iff.1 h2, h1⟩
  · have hlt := (Array.getElem?_eq_some_iff.1 hh).1
    refine Or.inr ⟨g, cap, rfl, hS g hg hlt, hlt, fun i c hi => ?_⟩
    have hic := (List.getElem?_eq_some_iff.1 hi).1
    obtain ⟨p, hq⟩ : ∃ p, ps[i]? = some p := ⟨ps[i]'(by omega), List.getElem?_eq_getElem (by omega)⟩
    obtain ⟨f0, f1⟩ := flatP_at ps i p hq
    have hfl := flatP_len ps
    refine ⟨p.1, p.2, ?_, ?_, he i c p hi hq⟩
    · rw [h.cellAt (i * 2) (by omega)]; exact f0
    · rw [h.cellAt (i * 2 + 1) (by omega)]; exact f1
/-- a program read once, as it lies: blocks that S takes -/
def Rooted (w : World) (S : Nat → Prop) (p : Pg) (P : Nat) : Prop := S P ∧ ∃ x y, Box4 w P 111 (.int .i64 p.1) (.int .i64 p.2.1) x y ∧ RtAt w S p.1 p.2.1 2 p.2.2.1 x ∧ CmrAt w S p.1 p.2.1 y p.2.2.2
/-- what rootsOf answers -/
def RootsFull (w : World) (p : Pg) (e : Ending) (w' : World) : Prop :=
  ((goodP p = true ∧ ∃ P : Nat, e = .returned (ptr P) ∧ Rooted w' (fun k => w.heap.size ≤ k ∧ k < w'.heap.size) p P) ∨ (goodP p = false ∧ e = .returned (.pointer none))) ∧ Below w.heap.size w w'
theorem rootsFull_no {w w' : World} {p : Pg} (h : goodP p = false) (hb : Below w.heap.size w w') : RootsFull w p (.returned (.pointer none)) w' := ⟨Or.inr ⟨h, rfl⟩, hb⟩
theorem rootsFull_yes {w w' : World} {p : Pg} (P : Nat) (x y : Value) (h : goodP p = true) (hp : w.heap.size ≤ P) (hx : Box4 w' P 111 (.int .i64 p.1) (.int .i64 p.2.1) x y) (hb : Below w.heap.size w w') (h1 : RtAt w' (fun k => w.heap.size ≤ k ∧ k < w'.heap.size) p.1 p.2.1 2 p.2.2.1 x) (h2 : CmrAt w' (fun k => w.heap.size ≤ k ∧ k < w'.heap.size) p.1 p.2.1 y p.2.2.2) : RootsFull w p (.returned (.pointer (some ⟨P, 0, none⟩))) w' := ⟨Or.inl ⟨h, P, rfl, ⟨hp, hx.lt⟩, x, y, hx, h1, h2⟩, hb⟩
set_option maxRecDepth 100000 in
set_option maxHeartbeats 8000000 in
theorem rootsOf_full (v : Value) (p : Pg) (ok : PgOk p) (w : World) (hT : Tab w) (h : AtProg w v p) :
    Calls Tryd.prog 65 #[v] w (RootsFull w p) := by
  obtain ⟨⟨hfw0, hfw1⟩, ⟨hfv0, hfv1⟩, s, c, rfl, hst, hcm⟩ := h
  obtain ⟨sa, sc, rfl⟩ := hst.shape
  obtain ⟨ca, cc, rfl, hcc⟩ := hcm.opened
  have hcl := hcm.1
  have HOK : Hid (∀ x ∈ p.2.2.2, CmOk x) := ok.2.2.2.2
  have HCS : Hid (∀ w1 : World, Below w.heap.size w w1 → ∀ (i : Nat) (d : Cm), p.2.2.2[i]? = some d → ∃ b off : Nat, ca = some ⟨b, off, none⟩ ∧ ∃ x y : Value, w1.cell? ⟨b, off + i * 2, none⟩ = some x ∧ w1.cell? ⟨b, off + i * 2 + 1, none⟩ = some y ∧ NodesAt w1 x d.1 ∧ PairsAt ChV w1 y d.2) := fun w1 hb i d hi => by
    obtain ⟨b, off, e, hlt, x, y, h3, h4, h5⟩ := hcc i d hi
    exact ⟨b, off, e, x, y, by rw [hb.cell (p := ⟨b, off + i * 2, none⟩) hlt]; exact h3, by rw [hb.cell (p := ⟨b, off + i * 2 + 1, none⟩) hlt]; exact h4, h5.1.below hb, h5.2.below chV_frame hb⟩
  have GN : Hid (∀ (w1 : World) (u : Value) (t : List Nd), Below w.heap.size w w1 → NodesAt w1 u t → ¬ kindL p.1 p.2.1 t = 2 → Calls Tryd.prog 110 #[.int .i64 p.1, .int .i64 p.2.1, u, .int .i64 2] w1 fun e w' => e = .returned (.pointer none) ∧ Below w1.heap.size w1 w') := fun w1 u t hb hu hk => rootK_no _ _ 2 u t w1 (hT.below hb hT.some) hu (Or.inr rfl) hk
  have GY : Hid (∀ (w1 : World) (u : Value) (t : List Nd), Below w.heap.size w w1 → NodesAt w1 u t → kindL p.1 p.2.1 t = 2 → Calls Tryd.prog 110 #[.int .i64 p.1, .int .i64 p.2.1, u, .int .i64 2] w1 fun e w' => ∃ q, e = .returned (ptr q) ∧ Below w1.heap.size w1 w' ∧ RtAt w' (fun k => w1.heap.size ≤ k ∧ k < w'.heap.size) p.1 p.2.1 2 t (ptr q)) := fun w1 u t hb hu hk => rootK_full _ _ 2 u t w1 (hT.below hb hT.some) hu (Or.inr rfl) hk
  have GC : Hid (∀ (w1 : World) (u : Value) (t : List Ch), Below w.heap.size w w1 → PairsAt ChV w1 u t → t.length ≤ 1048576 → Calls Tryd.prog 111 #[.int .i64 p.1, .int .i64 p.2.1, u] w1 (CRFull w1 p.1 p.2.1 t (chsB p.1 p.2.1 0 t))) := fun w1 u t hb hu hl => changeRoots_full _ _ u t ⟨hfv0, hfv1⟩ hl w1 (hT.below hb hT.some) hu
  have hR0 : goodP p = ((kindL p.1 p.2.1 p.2.2.1 == 2) && (decide (1 ≤ p.2.2.2.length ∧ p.2.2.2.length ≤ 6) && p.2.2.2.all (cmB p.1 p.2.1))) := rfl
  have HR : Hid _ := hR0
  have HST : Hid (∀ w1 : World, Below w.heap.size w w1 → NodesAt w1 (.slice sa p.2.2.1.length sc) p.2.2.1) := fun w1 hb => hst.below hb
  have HP1 : Hid (p.1 = p.1 ∧ p.2.1 = p.2.1) := ⟨rfl, rfl⟩
  clear hcc hcm hst hT ok hR0 HP1
  obtain ⟨i0, hi, hz0, hz1, hz2⟩ := info_parts infoCm
  have HB0 : Hid (Below w.heap.size w (w.alloc (.cells #[.int .i64 p.1, .int .i64 p.2.1, .slice sa p.2.2.1.length sc, .slice ca p.2.2.2.length cc] 27))) := (Below.refl _ _).alloc (Nat.le_refl _) _
  have x0 := box4_alloc w 27 (.int .i64 p.1) (.int .i64 p.2.1) (.slice sa p.2.2.1.length sc) (.slice ca p.2.2.2.length cc)
  have HX0 : Hid _ := x0
  have hns := HST.out _ HB0.out
  clear x0
  by_cases hks : kindL p.1 p.2.1 p.2.2.1 = 2
  case neg =>
    have hkb : (kindL p.1 p.2.1 p.2.2.1 == 2) = false := beq_eq_false_iff_ne.2 hks
    have HN : Hid (goodP p = false) := by
      show goodP p = false
      rw [HR.out, hkb, Bool.false_and]
    have g := GN.out _ _ _ HB0.out hns hks
    clear GN GY GC HCS HR HST hns hks hkb HX0 HOK
    generalize p.2.2.1.length = sn at *
    generalize p.2.2.2.length = cn at *
    go_enter Tryd.func65, Tryd.ntmps65
    go_wp2_with fail
    refine g.mono ?_
    rintro e w1 ⟨rfl, hs⟩
    have HB1 : Hid (Below w.heap.size w w1) := Below.step HB0.out HB0.out.size hs
    clear hs g
    go_wp2_with fail
    go_ret
    exact rootsFull_no HN.out HB1.out
  have hkb : (kindL p.1 p.2.1 p.2.2.1 == 2) = true := beq_iff_eq.2 hks
  have g := GY.out _ _ _ HB0.out hns hks
  by_cases hcn : 1 ≤ p.2.2.2.length ∧ p.2.2.2.length ≤ 6
  case neg =>
    have HN : Hid (goodP p = false) := by
      show goodP p = false
      rw [HR.out, decide_eq_false hcn, Bool.false_and, Bool.and_false]
    clear GN GY GC HCS HR HST hns hks hkb HOK
    generalize p.2.2.1.length = sn at *
    generalize p.2.2.2.length = cn at *
    by_cases hc1 : cn < 1
    · go_enter Tryd.func65, Tryd.ntmps65
      go_wp2_with fail
      refine g.mono ?_
      generalize w.alloc (.cells #[.int .i64 p.1, .int .i64 p.2.1, .slice sa sn sc, .slice ca cn cc] 27) = w0 at *
      rintro e w1 ⟨q, rfl, hs, hrt⟩
      have HB1 : Hid (Below w.heap.size w w1) := Below.step HB0.out HB0.out.size hs
      have x1 := HX0.out.below hs HX0.out.lt
      obtain ⟨a0, a1, a2, a3⟩ := x1.cells
      have ah := x1.heap
      have al := x1.lt
      clear hs g x1 hrt
      go_wp2_with fail
      go_ret
      exact rootsFull_no HN.out HB1.out
    · have hc6 : 6 < cn := by omega
      go_enter Tryd.func65, Tryd.ntmps65
      go_wp2_with fail
      refine g.mono ?_
      generalize w.alloc (.cells #[.int .i64 p.1, .int .i64 p.2.1, .slice sa sn sc, .slice ca cn cc] 27) = w0 at *
      rintro e w1 ⟨q, rfl, hs, hrt⟩
      have HB1 : Hid (Below w.heap.size w w1) := Below.step HB0.out HB0.out.size hs
      have x1 := HX0.out.below hs HX0.out.lt
      obtain ⟨a0, a1, a2, a3⟩ := x1.cells
      have ah := x1.heap
      have al := x1.lt
      clear hs g x1 hrt
      go_wp2_with fail
      go_ret
      exact rootsFull_no HN.out HB1.out
  obtain ⟨hc1, hc6⟩ := hcn
  have HR2 : Hid (goodP p = p.2.2.2.all (cmB p.1 p.2.1)) := by
    show goodP p = _
    rw [HR.out, hkb, decide_eq_true ⟨hc1, hc6⟩, Bool.true_and, Bool.true_and]
  clear HR HST hns hks hkb
  have HPE : Hid (∀ (P : Nat) (x y : Value) (w' : World), goodP p = true → w.heap.size ≤ P → Box4 w' P 111 (.int .i64 p.1) (.int .i64 p.2.1) x y → Below w.heap.size w w' → RtAt w' (fun k => w.heap.size ≤ k ∧ k < w'.heap.size) p.1 p.2.1 2 p.2.2.1 x → CmrAt w' (fun k => w.heap.size ≤ k ∧ k < w'.heap.size) p.1 p.2.1 y p.2.2.2 → RootsFull w p (.returned (.pointer (some ⟨P, 0, none⟩))) w') := fun P x y w' h1 h2 h3 h4 h5 h6 => rootsFull_yes P x y h1 h2 h3 h4 h5 h6
  have HNO : Hid (∀ w' : World, goodP p = false → Below w.heap.size w w' → RootsFull w p (.returned (.pointer none)) w') := fun w' h1 h2 => rootsFull_no h1 h2
  generalize RootsFull w p = OUT at *
  generalize goodP p = GP at *
  generalize hcs : p.2.2.2 = cs at *
  generalize p.2.2.1.length = sn at *
  generalize p.2.2.1 = pst at *
  generalize p.1 = pw at *
  generalize p.2.1 = pv at *
  clear hcs
  go_enter Tryd.func65, Tryd.ntmps65
  go_wp2_with fail
  refine g.mono ?_
  generalize w.alloc (.cells #[.int .i64 pw, .int .i64 pv, .slice sa sn sc, .slice ca cs.length cc] 27) = w0 at *
  rintro e w1 ⟨q, rfl, hs, hrt⟩
  have HRT : Hid (RtAt w1 (fun k => w0.heap.size ≤ k ∧ k < w1.heap.size) pw pv 2 pst (ptr q)) := hrt
  have hsw0 := HB0.out.size
  have hb1 : Below w.heap.size w w1 := Below.step HB0.out HB0.out.size hs
  have hsw1 := hb1.size
  clear hrt
  have x1 := HX0.out.below hs HX0.out.lt
  have hlt1 := x1.lt
  obtain ⟨a0, a1, a2, a3⟩ := x1.cells
  have ah := x1.heap
  have al := x1.lt
  have y1 := box4_alloc w1 111 (.int .i64 pw) (.int .i64 pv) (ptr q) (.slice none 0 0)
  have hal := (Below.refl w1.heap.size w1).alloc (Nat.le_refl _) (.cells #[.int .i64 pw, .int .i64 pv, ptr q, .slice none 0 0] 111)
  have hb2 := hb1.trans (hal.mono hb1.size)
  have x2 := x1.below hal x1.lt
  have hss2 : (w1.alloc (.cells #[.int .i64 pw, .int .i64 pv, ptr q, .slice none 0 0] 111)).heap.size = w1.heap.size + 1 := World.size_alloc _ _
  have HXP : Hid (∀ w3, Below (w1.heap.size) (w1.alloc (.cells #[.int .i64 pw, .int .i64 pv, ptr q, .slice none 0 0] 111)) w3 → Box4 w3 w.heap.size 27 (.int .i64 pw) (.int .i64 pv) (.slice sa sn sc) (.slice ca cs.length cc)) := fun w3 hb3 => x2.below hb3 (by omega)
  have HRT2 : Hid (RtAt (w1.alloc (.cells #[.int .i64 pw, .int .i64 pv, ptr q, .slice none 0 0] 111)) (fun k => w0.heap.size ≤ k ∧ k < w1.heap.size) pw pv 2 pst (ptr q)) := HRT.out.frame (fun _ h => h) (fun k hk => hal.block k hk.2)
  clear HRT
  have HB2 : Hid _ := hb2
  have hy1 := y1
  have HY1 : Hid _ := hy1
  have HBB : Hid (Below w1.heap.size (w1.alloc (.cells #[.int .i64 pw, .int .i64 pv, ptr q, .slice none 0 0] 111)) (w1.alloc (.cells #[.int .i64 pw, .int .i64 pv, ptr q, .slice none 0 0] 111))) := Below.refl _ _
  have HO1 : Hid (∃ (vv : Value) (ps : List (Value × Value)), ps.length = 0 ∧ Box4 (w1.alloc (.cells #[.int .i64 pw, .int .i64 pv, ptr q, .slice none 0 0] 111)) w1.heap.size 111 (.int .i64 pw) (.int .i64 pv) (ptr q) vv ∧ (w1.alloc (.cells #[.int .i64 pw, .int .i64 pv, ptr q, .slice none 0 0] 111)).ownsRow (w1.heap.size + 1) 108 2 vv 0 (flatP ps) ∧ ∀ (i : Nat) (c : Cm) (p : Value × Value), cs[i]? = some c → ps[i]? = some p → CmEl (w1.alloc (.cells #[.int .i64 pw, .int .i64 pv, ptr q, .slice none 0 0] 111)) (fun k => w.heap.size ≤ k ∧ k < (w1.alloc (.cells #[.int .i64 pw, .int .i64 pv, ptr q, .slice none 0 0] 111)).heap.size ∧ k ≠ w1.heap.size ∧ vv.ownBlock ≠ some k) pw pv c p.1 p.2) := ⟨_, [], rfl, y1, World.ownsRow_nil _ _ _ _, fun i c p _ hp => by simp at hp⟩
  clear hs g hal hb2 hb1 x1 x2 y1 hy1 HX0 HB0
  go_wp2_with fail
  generalize w1.alloc (.cells #[.int .i64 pw, .int .i64 pv, ptr q, .slice none 0 0] 111) = w2 at *
  go_loopw [41] (fun i wr => ∃ j : Nat, j ≤ cs.length ∧ i = .int .i64 j ∧ Hid ((cs.take j).all (cmB pw pv) = true) ∧ Hid (∃ (vv : Value) (ps : List (Value × Value)), ps.length = j ∧ Box4 wr w1.heap.size 111 (.int .i64 pw) (.int .i64 pv) (ptr q) vv ∧ wr.ownsRow (w1.heap.size + 1) 108 2 vv j (flatP ps) ∧ ∀ (i : Nat) (c : Cm) (p : Value × Value), cs[i]? = some c → ps[i]? = some p → CmEl wr (fun k => w.heap.size ≤ k ∧ k < wr.heap.size ∧ k ≠ w1.heap.size ∧ vv.ownBlock ≠ some k) pw pv c p.1 p.2) ∧ Hid (Below w.heap.size w wr) ∧ Hid (Below w1.heap.size w2 wr)) (fun i _ => cs.length - (intOf i).toNat)
  case atStart => exact ⟨0, by omega, rfl, rfl, HO1, HB2, HBB⟩
  case round =>
    obtain ⟨j, hj, rfl, HA, HO, HB, HBX⟩ := hrel
    clear HO1 HB2 HBB a0 a1 a2 a3 ah al
    obtain ⟨vv, ps, hpl, hbox, hown, hel⟩ := HO.out
    obtain ⟨va, vcap, rfl⟩ := own_shape hown
    have HBOX : Hid _ := hbox
    have HOWN : Hid _ := hown
    have hbs := HBX.out.size
    have HEL : Hid _ := hel
    have HPL : Hid (ps.length = j) := hpl
    clear HO hbox hown hel hpl
    by_cases hlt : j < cs.length
    · obtain ⟨d, hd⟩ : ∃ d, cs[j]? = some d := ⟨cs[j], List.getElem?_eq_getElem hlt⟩
      obtain ⟨b, off, rfl, x, y, cx, cy, hnx, hny⟩ := HCS.out wr HB.out j d hd
      have HD : Hid (cs[j]? = some d) := hd
      have hok := HOK.out d (List.mem_of_getElem? hd)
      have hcb : cmB pw pv d = ((kindL pw pv d.1 == 2) && chsB pw pv 0 d.2) := rfl
      have HCB : Hid _ := hcb
      obtain ⟨xa, xc, rfl⟩ := hnx.shape
      obtain ⟨ya, yc, rfl⟩ := hny.shape
      have HNX : Hid (NodesAt wr (.slice xa d.1.length xc) d.1) := hnx
      have HNY : Hid (PairsAt ChV wr (.slice ya d.2.length yc) d.2) := hny
      have hdl2 := hok.2.1
      clear hnx hny hd hok hcb HCS HOK
      have hal := (Below.refl wr.heap.size wr).alloc (Nat.le_refl _) (.cells #[.slice xa d.1.length xc, .slice ya d.2.length yc] 102)
      have hb3 : Below w.heap.size w (wr.alloc (.cells #[.slice xa d.1.length xc, .slice ya d.2.length yc] 102)) := HB.out.alloc HB.out.size _
      have hbx3 : Below w1.heap.size w2 (wr.alloc (.cells #[.slice xa d.1.length xc, .slice ya d.2.length yc] 102)) := HBX.out.alloc (by omega) _
      have z3 := box2_alloc wr 102 (.slice xa d.1.length xc) (.slice ya d.2.length yc)
      obtain ⟨dw, dc⟩ := d
      simp only at *
      have HNX3 := HNX.out.below hal
      have HNY3 : Hid (∀ w4 : World, Below (wr.alloc (.cells #[.slice xa dw.length xc, .slice ya dc.length yc] 102)).heap.size (wr.alloc (.cells #[.slice xa dw.length xc, .slice ya dc.length yc] 102)) w4 → PairsAt ChV w4 (.slice ya dc.length yc) dc) := fun w4 hb4 => (HNY.out.below chV_frame hal).below chV_frame hb4
      have hq := HXP.out _ hbx3
      obtain ⟨a0, a1, a2, a3⟩ := hq.cells
      have ah := hq.heap
      have al := hq.lt
      have hss3 : (wr.alloc (.cells #[.slice xa dw.length xc, .slice ya dc.length yc] 102)).heap.size = wr.heap.size + 1 := World.size_alloc _ _
      have HBOX3 : Hid (Box4 (wr.alloc (.cells #[.slice xa dw.length xc, .slice ya dc.length yc] 102)) w1.heap.size 111 (.int .i64 pw) (.int .i64 pv) (ptr q) (.slice va j vcap)) := HBOX.out.below hal HBOX.out.lt
      have HOWN3 : Hid ((wr.alloc (.cells #[.slice xa dw.length xc, .slice ya dc.length yc] 102)).ownsRow (w1.heap.size + 1) 108 2 (.slice va j vcap) j (flatP ps)) := own_same HOWN.out (fun q hq => (own_block HOWN.out hq).2) (fun i _ hi => hal.block i hi)
      have HB3 : Hid _ := hb3
      have HBX3 : Hid _ := hbx3
      have hbw : ∀ k, k < wr.heap.size → (wr.alloc (.cells #[.slice xa dw.length xc, .slice ya dc.length yc] 102)).heap[k]? = wr.heap[k]? := fun k hk => hal.block k hk
      have HVL : Hid (∀ k, (Value.slice va j vcap).ownBlock = some k → w1.heap.size + 1 ≤ k ∧ k < wr.heap.size) := fun k hk => own_block HOWN.out hk
      clear hal hb3 hbx3 hq HBOX HOWN HNX HNY HB HBX
      by_cases hk : kindL pw pv dw = 2
      case neg =>
        have g := GN.out _ _ dw HB3.out HNX3 hk
        have GCD : Hid (∀ (w1 : World) (u : Value), Below w.heap.size w w1 → PairsAt ChV w1 u dc → Calls Tryd.prog 111 #[.int .i64 pw, .int .i64 pv, u] w1 (CRFull w1 pw pv dc (chsB pw pv 0 dc))) := fun w1 u hb hu => GC.out w1 u dc hb hu hdl2
        clear HNX3 GC hdl2
        generalize dw.length = xn at *
        generalize dc.length = yn at *
        go_wp2_with fail
        refine g.mono ?_
        generalize wr.alloc (.cells #[.slice xa xn xc, .slice ya yn yc] 102) = w3 at *
        rintro e w4 ⟨rfl, hs⟩
        have hs4 := hs.size
        have z4 := z3.below hs z3.lt
        have hbx4 : Below w1.heap.size w2 w4 := HBX3.out.trans (hs.mono (by omega))
        have hq := HXP.out _ hbx4
        have HBOX4 : Hid (Box4 w4 w1.heap.size 111 (.int .i64 pw) (.int .i64 pv) (ptr q) (.slice va j vcap)) := HBOX3.out.below hs HBOX3.out.lt
        have HOWN4 : Hid (w4.ownsRow (w1.heap.size + 1) 108 2 (.slice va j vcap) j (flatP ps)) := own_same HOWN3.out (fun q hq => (own_block HOWN3.out hq).2) (fun i _ hi => hs.block i hi)
        clear a0 a1 a2 a3 ah al
        obtain ⟨a0, a1, a2, a3⟩ := hq.cells
        have ah := hq.heap
        have al := hq.lt
        obtain ⟨c0, c1⟩ := z4.cells
        have ch := z4.heap
        have cl := z4.lt
        have HB4 : Hid (Below w.heap.size w w4) := HB3.out.trans (hs.mono HB3.out.size)
        have gc := GCD.out w4 (.slice ya yn yc) HB4.out (HNY3.out w4 hs)
        have HBX4 : Hid _ := hbx4
        clear g hs z3 hq HBOX3 HOWN3 HB3 HBX3 HNY3 hbx4 GN GY GCD
        go_wp2_with fail
        refine gc.mono ?_
        rintro e w5 hcr
        unfold CRFull at hcr
        obtain ⟨ra, rn, rc, rfl, hs, hcr⟩ := hcr
        have hs5 := hs.size
        have HB5 : Hid (Below w.heap.size w w5) := HB4.out.trans (hs.mono HB4.out.size)
        have hkb : (kindL pw pv dw == 2) = false := beq_eq_false_iff_ne.2 hk
        have HN : Hid (GP = false) := HR2.out.trans (allNot HD.out (by rw [HCB.out, hkb, Bool.false_and]))
        clear hs gc z4 hkb hk HCB HD HA HR2 HBOX4 HOWN4
        go_wp2_with fail
        exact HNO.out _ HN.out HB5.out
      have g := GY.out _ _ dw HB3.out HNX3 hk
      have GCD : Hid (∀ (w1 : World) (u : Value), Below w.heap.size w w1 → PairsAt ChV w1 u dc → Calls Tryd.prog 111 #[.int .i64 pw, .int .i64 pv, u] w1 (CRFull w1 pw pv dc (chsB pw pv 0 dc))) := fun w1 u hb hu => GC.out w1 u dc hb hu hdl2
      clear HNX3 GC hdl2
      generalize dw.length = xn at *
      generalize dc.length = yn at *
      go_wp2_with fail
      refine g.mono ?_
      generalize wr.alloc (.cells #[.slice xa xn xc, .slice ya yn yc] 102) = w3 at *
      rintro e w4 ⟨qb, rfl, hs, hrt⟩
      have HRW : Hid (RtAt w4 (fun k => w3.heap.size ≤ k ∧ k < w4.heap.size) pw pv 2 dw (ptr qb)) := hrt
      have HS4 : Hid (Below w3.heap.size w3 w4) := hs
      clear hrt
      have hs4 := hs.size
      have z4 := z3.below hs z3.lt
      have hbx4 : Below w1.heap.size w2 w4 := HBX3.out.trans (hs.mono (by omega))
      have hq := HXP.out _ hbx4
      have HBOX4 : Hid (Box4 w4 w1.heap.size 111 (.int .i64 pw) (.int .i64 pv) (ptr q) (.slice va j vcap)) := HBOX3.out.below hs HBOX3.out.lt
      have HOWN4 : Hid (w4.ownsRow (w1.heap.size + 1) 108 2 (.slice va j vcap) j (flatP ps)) := own_same HOWN3.out (fun q hq => (own_block HOWN3.out hq).2) (fun i _ hi => hs.block i hi)
      clear a0 a1 a2 a3 ah al
      obtain ⟨a0, a1, a2, a3⟩ := hq.cells
      have ah := hq.heap
      have al := hq.lt
      obtain ⟨c0, c1⟩ := z4.cells
      have ch := z4.heap
      have cl := z4.lt
      have HB4 : Hid (Below w.heap.size w w4) := HB3.out.trans (hs.mono HB3.out.size)
      have gc := GCD.out w4 (.slice ya yn yc) HB4.out (HNY3.out w4 hs)
      have HBX4 : Hid _ := hbx4
      clear g hs z3 hq HBOX3 HOWN3 HB3 HBX3 HNY3 hbx4 GN GY GCD
      go_wp2_with fail
      refine gc.mono ?_
      rintro e w5 hcr
      unfold CRFull at hcr
      obtain ⟨ra, rn, rc, rfl, hs, hcr⟩ := hcr
      have hs5 := hs.size
      have HB5 : Hid (Below w.heap.size w w5) := HB4.out.trans (hs.mono HB4.out.size)
      have hkb : (kindL pw pv dw == 2) = true := beq_iff_eq.2 hk
      cases hch : chsB pw pv 0 dc with
      | false =>
        have HN : Hid (GP = false) := HR2.out.trans (allNot HD.out (by rw [HCB.out, hch, Bool.and_false]))
        clear hs gc z4 hkb hk HCB HD HA HR2 HBOX4 HOWN4 hch
        go_wp2_with fail
        exact HNO.out _ HN.out HB5.out
      | true =>
        have HCRW : Hid (CrAt w5 (fun k => w4.heap.size ≤ k ∧ k < w5.heap.size) pw pv (.slice ra rn rc) dc) := hcr hch
        have HS5 : Hid (Below w4.heap.size w4 w5) := hs
        have HDJ : Hid (cs[j]? = some (dw, dc)) := HD.out
        have HN : Hid ((cs.take (j + 1)).all (cmB pw pv) = true) := allTake HD.out HA.out (by rw [HCB.out, hkb, hch]; rfl)
        have hbx5 : Below w1.heap.size w2 w5 := HBX4.out.trans (hs.mono (by have := HBX4.out.size; omega))
        have hy5 := HBOX4.out.below hs HBOX4.out.lt
        have own5 := own_same HOWN4.out (fun q hq => (own_block HOWN4.out hq).2) (fun i _ hi => hs.block i hi)
        have own6 := World.ownsRow.alloc own5 (.cells #[ptr qb, .slice ra rn rc] 108)
        have hb6 : Below w.heap.size w (w5.alloc (.cells #[ptr qb, .slice ra rn rc] 108)) := HB5.out.alloc HB5.out.size _
        have hbx6 : Below w1.heap.size w2 (w5.alloc (.cells #[ptr qb, .slice ra rn rc] 108)) := hbx5.alloc (by have := hbx5.size; omega) _
        have hy6 := hy5.alloc (.cells #[ptr qb, .slice ra rn rc] 108)
        obtain ⟨r0, r1, r2, r3⟩ := hy5.cells
        have rh := hy5.heap
        have rl := hy5.lt
        have cells6 := cr_cells w5 (ptr qb) (.slice ra rn rc) 108
        have hlen6 := own6.1
        have hss6 : (w5.alloc (.cells #[ptr qb, .slice ra rn rc] 108)).heap.size = w5.heap.size + 1 := World.size_alloc _ _
        have hbs6 := hbx5.size
        have hs6 : w1.heap.size + 1 ≤ (w5.alloc (.cells #[ptr qb, .slice ra rn rc] 108)).heap.size := by omega
        clear hs gc z4 hkb hk HCB HD HA HBOX4 HOWN4 hch own5 hy5 HB4 HBX4 a0 a1 a2 a3 ah al c0 c1 ch cl
        go_wp2_with (at_builtin; refine wpList_append_own_at _ rfl _ _ 109 rfl (w1.heap.size + 1) 108 i0 (.agg #[.pointer none, .slice none 0 0]) 2 32 Tryd.underlying109 hi hz0 hz1 hz2 rfl (by decide) _ _ _ rfl own6 ⟨w5.heap.size, 0, none⟩ 1 1 [ptr qb, .slice ra rn rc] rfl rfl cells6 (by simp [Value.oneCell']) (by unfold maxLen; omega) (by omega) hs6 ?_)
        intro v9 w9 own9 grow9 hnew9 hat9
        have hy9 : Box4 w9 w1.heap.size 111 (.int .i64 pw) (.int .i64 pv) (ptr q) (.slice va j vcap) := by
          refine ⟨?_⟩
          rw [grow9.block _ hy6.lt ?_]
          · exact hy6.heap
          · intro e
            have := own_block own6 e.symm
            omega
        have hb9 : Below w.heap.size w w9 := hb6.grown grow9 (by omega) (fun k hk => by have := (own_block own6 hk).1; omega)
        have hbx9 : Below w1.heap.size w2 w9 := hbx6.grown grow9 (by omega) (fun k hk => by have := (own_block own6 hk).1; omega)
        obtain ⟨v9a, v9c, rfl⟩ := own_shape own9
        obtain ⟨m0, m1, m2, m3⟩ := hy9.cells
        have mh := hy9.heap
        have ml := hy9.lt
        have mf := hy9.frozen 3
        have HY10 : Hid _ := hy9.set3 (.slice v9a (j + 1) v9c)
        have HB10 : Hid (Below w.heap.size w (w9.setCell ⟨w1.heap.size, 3, none⟩ (.slice v9a (j + 1) v9c))) := hb9.setCell (by show w.heap.size ≤ w1.heap.size; omega) _
        have HBX10 : Hid (Below w1.heap.size w2 (w9.setCell ⟨w1.heap.size, 3, none⟩ (.slice v9a (j + 1) v9c))) := hbx9.setCell (Nat.le_refl _) _
        have HO10 : Hid ((w9.setCell ⟨w1.heap.size, 3, none⟩ (.slice v9a (j + 1) v9c)).ownsRow (w1.heap.size + 1) 108 2 (.slice v9a (j + 1) v9c) (j + 1) (flatP (ps ++ [(ptr qb, .slice ra rn rc)]))) := by
          show World.ownsRow _ _ _ _ _ _ _
          rw [flatP_append]
          exact own_same (lo := w1.heap.size + 1) own9 (fun q hq => (own_block own9 hq).2) (same_set (Nat.lt_succ_self _))
        have hq10 : ∀ k, k < w5.heap.size → (Value.slice va j vcap).ownBlock ≠ some k → k ≠ w1.heap.size → (w9.setCell ⟨w1.heap.size, 3, none⟩ (.slice v9a (j + 1) v9c)).heap[k]? = w5.heap[k]? := fun k hk hne hp => by
          rw [Below.heap_setCell _ _ _ _ (by show k ≠ w1.heap.size; exact hp), grow9.block k (by rw [World.size_alloc]; omega) (fun e => hne e.symm)]
          show (w5.heap.push _)[k]? = _
          rw [Array.getElem?_push_lt hk]
          simp [hk]
        have hs9 := grow9.size
        rw [World.size_alloc] at hs9
        have hs10 : (w9.setCell ⟨w1.heap.size, 3, none⟩ (.slice v9a (j + 1) v9c)).heap.size = w9.heap.size := size_set _ _ _
        have hv9 : ∀ k, k < w5.heap.size → (Value.slice va j vcap).ownBlock ≠ some k → (Value.slice v9a (j + 1) v9c).ownBlock ≠ some k := fun k hk hne e => by
          rcases hat9 with h | h
          · exact hne (h.symm.trans e)
          · rw [h] at e
            have := Option.some.inj e
            omega
        have hz4 := HS4.out.size
        have hz5 := HS5.out.size
        have HEL10 : Hid (∀ (i : Nat) (c : Cm) (p : Value × Value), cs[i]? = some c → (ps ++ [((ptr qb : Value), (.slice ra rn rc : Value))])[i]? = some p → CmEl (w9.setCell ⟨w1.heap.size, 3, none⟩ (.slice v9a (j + 1) v9c)) (fun k => w.heap.size ≤ k ∧ k < (w9.setCell ⟨w1.heap.size, 3, none⟩ (.slice v9a (j + 1) v9c)).heap.size ∧ k ≠ w1.heap.size ∧ (Value.slice v9a (j + 1) v9c).ownBlock ≠ some k) pw pv c p.1 p.2) := by
          intro i c p hc hp
          by_cases hij : i < ps.length
          · rw [List.getElem?_append_left hij] at hp
            refine (HEL.out i c p hc hp).frame (by omega) (fun k hk => ⟨hk.1, by omega, hk.2.2.1, hv9 k (by omega) hk.2.2.2⟩) (fun k hk => ?_)
            rw [hq10 k (by omega) hk.2.2.2 hk.2.2.1, HS5.out.block k (by omega), HS4.out.block k (by omega)]
            exact hbw k hk.2.1
          · have hlt9 := (List.getElem?_eq_some_iff.1 hp).1
            have hpl := HPL.out
            rw [List.length_append, List.length_singleton] at hlt9
            have hi9 : i = j := by omega
            subst hi9
            rw [List.getElem?_append_right (by omega), hpl, Nat.sub_self] at hp
            simp only [List.getElem?_cons_zero, Option.some.injEq] at hp
            subst hp
            rw [HDJ.out] at hc
            simp only [Option.some.injEq] at hc
            subst hc
            refine ⟨HRW.out.frame (fun k hk => ?_) (fun k hk => ?_), HCRW.out.frame (by omega) (fun k hk => ?_) (fun k hk => ?_)⟩
            · have hne : (Value.slice va i vcap).ownBlock ≠ some k := fun e => by have := HVL.out k e; omega
              exact ⟨by omega, by omega, by omega, hv9 k (by omega) hne⟩
            · have hne : (Value.slice va i vcap).ownBlock ≠ some k := fun e => by have := HVL.out k e; omega
              rw [hq10 k (by omega) hne (by omega)]
              exact HS5.out.block k hk.2
            · have hne : (Value.slice va i vcap).ownBlock ≠ some k := fun e => by have := HVL.out k e; omega
              exact ⟨by omega, by omega, by omega, hv9 k hk.2 hne⟩
            · have hne : (Value.slice va i vcap).ownBlock ≠ some k := fun e => by have := HVL.out k e; omega
              exact hq10 k hk.2 hne (by omega)
        have HPL10 : Hid ((ps ++ [((ptr qb : Value), (.slice ra rn rc : Value))]).length = j + 1) := by
          show (ps ++ [((ptr qb : Value), (.slice ra rn rc : Value))]).length = j + 1
          rw [List.length_append, HPL.out]
          rfl
        clear hq10 hv9 hat9 hbw HRW HCRW HS4 HS5 HEL HPL HVL HDJ
        clear own6 own9 grow9 hb6 hbx6 hy6 hb9 hbx9 hy9 cells6 r0 r1 r2 r3 rh rl hnew9
        go_wp2_with fail
        go_roundw
        case rel => exact ⟨j + 1, by omega, by go_num, HN, ⟨_, _, HPL10.out, HY10.out, HO10.out, HEL10.out⟩, HB10, HBX10⟩
        case measure => simp [intOf]; omega
    · obtain rfl : j = cs.length := by omega
      have HN : Hid (GP = true) := by
        have h1 := HA.out
        rw [List.take_length] at h1
        exact HR2.out.trans h1
      have hbsz := HB.out.size
      have H5 : Hid (RtAt wr (fun k => w.heap.size ≤ k ∧ k < wr.heap.size) pw pv 2 pst (ptr q)) := HRT2.out.frame (fun k hk => ⟨by omega, by omega⟩) (fun k hk => HBX.out.block k hk.2)
      have H6 : Hid (CmrAt wr (fun k => w.heap.size ≤ k ∧ k < wr.heap.size) pw pv (.slice va cs.length vcap) cs) := cmrAt_of HPL.out HOWN.out (fun k h1 h2 => ⟨by omega, h2⟩) (fun i c p hc hp => (HEL.out i c p hc hp).frame (Nat.le_refl _) (fun k hk => ⟨hk.1, hk.2.1⟩) (fun _ _ => rfl))
      clear HCS GN GY GC HA HOWN HR2 HEL HPL HRT2
      go_wp2_with fail
      exact HPE.out _ _ _ _ HN.out (by omega) HBOX.out HB.out H5.out H6.out
end Go.Proofs.YtjbolpfilgkbfaaDoor

namespace Go.Proofs.YtjbolpfilgkbfaaDoor
open Go Go.RowKit
open M
set_option linter.unusedVariables false

theorem below_drew7 (B : Nat) (w : World) (n : Nat) : Below B w (w.drewN n) := ⟨rfl, rfl, rfl, Nat.le_refl _, fun _ _ => rfl⟩
/-- the number of words of k bits -/
def noL (k : Nat) : List Int → Int
  | [] => 0
  | x :: r => x + 2 ^ k * noL k r
theorem two_pos (n : Nat) : (0 : Int) < 2 ^ n := Int.pow_pos (by omega)
theorem noL_snoc (k : Nat) (x : Int) : ∀ l : List Int, noL k (l ++ [x]) = noL k l + x * 2 ^ (k * l.length)
  | [] => by simp [noL]
  | y :: l => by
    rw [List.cons_append, noL, noL, noL_snoc k x l, List.length_cons, Nat.mul_succ, Int.pow_add, Int.mul_add, Int.mul_comm (2 ^ (k * l.length)) (2 ^ k), ← Int.mul_assoc, ← Int.mul_assoc, Int.mul_comm (2 ^ k) x]
    omega
theorem noL_in (k : Nat) : ∀ l : List Int, (∀ s ∈ l, 0 ≤ s ∧ s < 2 ^ k) → 0 ≤ noL k l ∧ noL k l < 2 ^ (k * l.length)
  | [], _ => by simp [noL]
  | y :: l, h => by
    obtain ⟨h0, h1⟩ := h y (by simp)
    obtain ⟨g0, g1⟩ := noL_in k l (fun s hs => h s (by simp [hs]))
    have hp := two_pos k
    have m0 : (0 : Int) ≤ 2 ^ k * noL k l := Int.mul_nonneg (by omega) g0
    have m1 : 2 ^ k * noL k l ≤ 2 ^ k * (2 ^ (k * l.length) - 1) := Int.mul_le_mul_of_nonneg_left (by omega) (by omega)
    rw [Int.mul_sub, Int.mul_one] at m1
    rw [noL, List.length_cons, Nat.mul_succ, Int.pow_add, Int.mul_comm (2 ^ (k * l.length)) (2 ^ k)]
    omega
theorem good_two (k : Nat) (a : Int) (h0 : 0 ≤ a) (h : goodB k a = true) : 0 ≤ a ∧ a < 2 ^ k := by
  obtain ⟨k', e, _, _, h3⟩ := goodB_true h
  obtain rfl : k = k' := by omega
  rw [pw_int]
  exact ⟨h0, h3⟩
def padL (st : List Int) : List Int := [padW st 0, padW st 1, padW st 2, padW st 3]
theorem padL_getD (st : List Int) (h : st.length ≤ 4) (i : Nat) (hi : i < st.length) : (padL st).getD i 0 = st.getD i 0 := by
  match i, (show i < 4 by omega) with
  | 0, _ => rfl
  | 1, _ => rfl
  | 2, _ => rfl
  | 3, _ => rfl
theorem padL_at (st : List Int) (i : Nat) (hi : i < 4) : (padL st)[i]? = some (padW st i) := by
  rcases (show i = 0 ∨ i = 1 ∨ i = 2 ∨ i = 3 by omega) with rfl | rfl | rfl | rfl <;> rfl
theorem noL_pad (k : Nat) : ∀ (st : List Int), st.length ≤ 4 → noL k (padL st) = noL k st
  | [], _ => by simp [padL, padW, noL]
  | [a], _ => by simp [padL, padW, noL]
  | [a, b], _ => by simp [padL, padW, noL]
  | [a, b, c], _ => by simp [padL, padW, noL]
  | [a, b, c, d], _ => by simp [padL, padW, noL]
  | _ :: _ :: _ :: _ :: _ :: _, h => by simp at h
end Go.Proofs.YtjbolpfilgkbfaaDoor

namespace Go.Proofs.YtjbolpfilgkbfaaDoor
open Go Go.RowKit
open M
set_option linter.unusedVariables false

/-- the four words of a state -/
abbrev aggS (st : List Int) : Value := .agg #[.int .u64 (padW st 0), .int .u64 (padW st 1), .int .u64 (padW st 2), .int .u64 (padW st 3)]
/-- a state as it lies in a block -/
abbrev BoxS (w : World) (b : Nat) (st : List Int) : Prop := Box4 w b 90 (.int .u64 (padW st 0)) (.int .u64 (padW st 1)) (.int .u64 (padW st 2)) (.int .u64 (padW st 3))
/-- words of a state as a good program has them -/
def WordsIn (k vars : Nat) (st : List Int) : Prop := 1 ≤ k ∧ k ≤ 64 ∧ 1 ≤ vars ∧ vars ≤ 4 ∧ st.length = vars ∧ (∀ s ∈ st, 0 ≤ s) ∧ ∀ s ∈ st, goodB k s = true
theorem padW_mem (st : List Int) (i : Nat) : padW st i = 0 ∨ padW st i ∈ st := by
  unfold padW
  rw [List.getD_eq_getElem?_getD]
  cases h : st[i]? with
  | none => exact Or.inl rfl
  | some x => exact Or.inr (List.mem_of_getElem? h)
theorem padL_words {k vars : Nat} {st : List Int} (h : WordsIn k vars st) : ∀ s ∈ padL st, 0 ≤ s ∧ s < pw k := by
  obtain ⟨h1, h2, _, _, _, h0, hg⟩ := h
  have key : ∀ i, 0 ≤ padW st i ∧ padW st i < pw k := by
    intro i
    rcases padW_mem st i with e | e
    · rw [e]
      exact ⟨Int.le_refl _, by have := pw_pos k; omega⟩
    · have := good_two k _ (h0 _ e) (hg _ e)
      rw [pw_int] at this
      exact this
  intro s hs
  simp only [padL, List.mem_cons, List.not_mem_nil, or_false] at hs
  rcases hs with rfl | rfl | rfl | rfl <;> exact key _
theorem set4_other {u : World} {b i : Nat} (h : i ≠ b) (v0 v1 v2 v3 : Value) : ((((u.setCell ⟨b, 0, none⟩ v0).setCell ⟨b, 1, none⟩ v1).setCell ⟨b, 2, none⟩ v2).setCell ⟨b, 3, none⟩ v3).heap[i]? = u.heap[i]? := by
  rw [Below.heap_setCell _ _ _ _ h, Below.heap_setCell _ _ _ _ h, Below.heap_setCell _ _ _ _ h, Below.heap_setCell _ _ _ _ h]
theorem set4_size (u : World) (b : Nat) (v0 v1 v2 v3 : Value) : ((((u.setCell ⟨b, 0, none⟩ v0).setCell ⟨b, 1, none⟩ v1).setCell ⟨b, 2, none⟩ v2).setCell ⟨b, 3, none⟩ v3).heap.size = u.heap.size := by
  rw [size_set, size_set, size_set, size_set]
theorem set4_below {u w : World} {b : Nat} {B : Nat} (hb : Below B w u) (h : B ≤ b) (v0 v1 v2 v3 : Value) : Below B w ((((u.setCell ⟨b, 0, none⟩ v0).setCell ⟨b, 1, none⟩ v1).setCell ⟨b, 2, none⟩ v2).setCell ⟨b, 3, none⟩ v3) :=
  (((hb.setCell h v0).setCell h v1).setCell h v2).setCell h v3
end Go.Proofs.YtjbolpfilgkbfaaDoor

namespace Go.Proofs.YtjbolpfilgkbfaaDoor
open Go Go.RowKit
open M
set_option linter.unusedVariables false

theorem boxS_at {w : World} {b : Nat} {st : List Int} (h : BoxS w b st) : StAt w (.slice (some ⟨b, 0, none⟩) 4 4) (padL st) := by
  obtain ⟨c0, c1, c2, c3⟩ := h.cells
  refine Or.inr ⟨b, 0, 4, rfl, h.lt, fun i s hi => ?_⟩
  have hil := (List.getElem?_eq_some_iff.1 hi).1
  simp only [padL, List.length_cons, List.length_nil] at hil
  rw [padL_at st i (by omega)] at hi
  obtain rfl := Option.some.inj hi
  rcases (show i = 0 ∨ i = 1 ∨ i = 2 ∨ i = 3 by omega) with rfl | rfl | rfl | rfl
  · exact c0
  · exact c1
  · exact c2
  · exact c3
theorem valR_any {k vars : Nat} {kind : Int} {t : List Nd} (hpos : ∀ x ∈ t, 0 ≤ x.2) {st : List Int} (hw : WordsIn k vars st) (z : Value) (w : World) (hT : Tab w) (hr : RtAt w (Old w) k vars kind t z) (b : Nat) (hx : BoxS w b st) :
    Calls Tryd.prog 128 #[z, .int .i64 k, .slice (some ⟨b, 0, none⟩) 4 4] w fun e w' => e = .returned (.int .u64 (valueL k t st)) ∧ Below w.heap.size w w' := by
  obtain ⟨r, q, rfl, hf, hok, _, hsz, htr⟩ := hr
  have hp := padL_words hw
  obtain ⟨hk1, hk, hv1, hv4, hlen, h0, hg⟩ := hw
  have e1 := (value_of_flat (k := k) (st := st) (T := r) (by rw [hlen]; exact hok) hk1 hk (by omega) (by omega) hsz hg).2
  have hvb : ∀ x ∈ r.flat, x.1 = 2 → x.2.toNat < vars := by
    intro x hx h2
    have h3 := ok_vars hok x hx h2
    have h4 := hpos x (by rw [← hf]; exact hx)
    omega
  have e2 : trVal k (padL st) r = trVal k st r := trVal_congr k _ _ r (fun x hx h2 => padL_getD st (by omega) _ (by have := hvb x hx h2; omega))
  rw [hf] at e1
  rw [e1, ← e2]
  exact value_any k hk1 hk vars (padL st) _ hp (by simp [padL]) r q w hT htr (boxS_at hx) hok (fun x hx => hpos x (by rw [← hf]; exact hx)) (fun x hx h2 => by
    have := hvb x hx h2
    have : (padL st).length = 4 := rfl
    omega)
set_option maxRecDepth 100000 in
set_option maxHeartbeats 2000000 in
theorem worth_any {k vars : Nat} {kind : Int} {t : List Nd} (hpos : ∀ x ∈ t, 0 ≤ x.2) {st : List Int} (hw : WordsIn k vars st) (P : Nat) (u y z : Value) (w : World) (hT : Tab w) (hP : Box4 w P 111 (.int .i64 k) (.int .i64 vars) u y) (hr : RtAt w (Old w) k vars kind t z) :
    Calls Tryd.prog 108 #[ptr P, z, aggS st] w fun e w' => e = .returned (.int .u64 (valueL k t st)) ∧ Below w.heap.size w w' := by
  unfold aggS
  have HB0 : Hid (Below w.heap.size w (w.alloc (.cells #[.int .u64 (padW st 0), .int .u64 (padW st 1), .int .u64 (padW st 2), .int .u64 (padW st 3)] 90))) := (Below.refl _ _).alloc (Nat.le_refl _) _
  have y0 := box4_alloc w 90 (.int .u64 (padW st 0)) (.int .u64 (padW st 1)) (.int .u64 (padW st 2)) (.int .u64 (padW st 3))
  have HBD : Hid (Below w.heap.size w (w.alloc (.cells #[.int .u64 (padW st 0), .int .u64 (padW st 1), .int .u64 (padW st 2), .int .u64 (padW st 3)] 90)).drew) := HB0.out.drew
  have hr2 : RtAt _ (Old _) k vars kind t z := hr.frame (fun i hi => Nat.lt_of_lt_of_le hi HBD.out.size) (fun i hi => HBD.out.block i hi)
  have GC : Hid _ := valR_any hpos hw z _ (hT.below HBD.out hT.some) hr2 _ ⟨y0.heap⟩
  have hP2 := hP.below HB0.out hP.lt
  obtain ⟨p0, p1, p2, p3⟩ := hP2.cells
  have ph := hP2.heap
  have pl := hP2.lt
  obtain ⟨q0, q1, q2, q3⟩ := y0.cells
  have qh := y0.heap
  have ql := y0.lt
  have h4 : (Tryd.prog.info? 90).map (·.size) = some 4 := by kernel_rfl
  obtain ⟨_, b, rfl, _⟩ := hr
  clear hr2 hP2 hP y0 hT hpos hw
  generalize valueL k t st = V at *
  generalize padW st 0 = x0 at *
  generalize padW st 1 = x1 at *
  generalize padW st 2 = x2 at *
  generalize padW st 3 = x3 at *
  go_enter Tryd.func108, Tryd.ntmps108
  go_wp2_with fail
  go_region_with (go_at_call 128; refine Calls.mono GC.out ?_; rintro e w1 ⟨rfl, hs⟩; have HB1 : Hid (Below w.heap.size w w1) := Below.step HBD.out HBD.out.size hs; clear hs)
  all_goals
    go_wp2_with fail
    go_ret
    exact ⟨rfl, HB1.out⟩
set_option maxRecDepth 100000 in
set_option maxHeartbeats 2000000 in
theorem holds_any {k vars : Nat} {kind : Int} {t : List Nd} (hpos : ∀ x ∈ t, 0 ≤ x.2) {st : List Int} (hw : WordsIn k vars st) (P : Nat) (u y z : Value) (w : World) (hT : Tab w) (hP : Box4 w P 111 (.int .i64 k) (.int .i64 vars) u y) (hr : RtAt w (Old w) k vars kind t z) :
    Calls Tryd.prog 107 #[ptr P, z, aggS st] w fun e w' => e = .returned (.bool (holdsL k t st)) ∧ Below w.heap.size w w' := by
  have HB0 : Hid (Below w.heap.size w (w.alloc (.cells #[.int .u64 (padW st 0), .int .u64 (padW st 1), .int .u64 (padW st 2), .int .u64 (padW st 3)] 90))) := (Below.refl _ _).alloc (Nat.le_refl _) _
  have hr2 : RtAt _ (Old _) k vars kind t z := hr.frame (fun i hi => Nat.lt_of_lt_of_le hi HB0.out.size) (fun i hi => HB0.out.block i hi)
  have g := worth_any hpos hw P u y z _ (hT.below HB0.out hT.some) (hP.below HB0.out hP.lt) hr2
  have y0 := box4_alloc w 90 (.int .u64 (padW st 0)) (.int .u64 (padW st 1)) (.int .u64 (padW st 2)) (.int .u64 (padW st 3))
  obtain ⟨q0, q1, q2, q3⟩ := y0.cells
  have qh := y0.heap
  have ql := y0.lt
  have h4 : (Tryd.prog.info? 90).map (·.size) = some 4 := by kernel_rfl
  have hH : holdsL k t st = (valueL k t st == 1) := rfl
  rw [hH]
  unfold aggS at *
  obtain ⟨_, b, rfl, _⟩ := hr
  clear hT hP hpos hw hH hr2 y0
  generalize valueL k t st = V at *
  generalize padW st 0 = x0 at *
  generalize padW st 1 = x1 at *
  generalize padW st 2 = x2 at *
  generalize padW st 3 = x3 at *
  go_enter Tryd.func107, Tryd.ntmps107
  go_wp2_with fail
  refine g.mono ?_
  rintro e w1 ⟨rfl, hs⟩
  have HB1 : Hid (Below w.heap.size w w1) := Below.step HB0.out HB0.out.size hs
  clear hs g
  go_wp2_with fail
  go_ret
  exact ⟨rfl, HB1.out⟩
end Go.Proofs.YtjbolpfilgkbfaaDoor

namespace Go.Proofs.YtjbolpfilgkbfaaDoor
open Go Go.RowKit
open M
set_option linter.unusedVariables false

abbrev zeroS : Value := .agg #[.int .u64 0, .int .u64 0, .int .u64 0, .int .u64 0]
/-- what rootsWith answers -/
def RWOut (w : World) (p : Pg) (st : List Int) (e : Ending) (w' : World) : Prop :=
  ((goodS p st = true ∧ ∃ P : Nat, e = .returned (.tuple #[ptr P, aggS st]) ∧ Rooted w' (fun k => w.heap.size ≤ k ∧ k < w'.heap.size) p P) ∨ (goodS p st = false ∧ e = .returned (.tuple #[.pointer none, zeroS]))) ∧ Below w.heap.size w w'
theorem rwOut_no {w w' : World} {p : Pg} {st : List Int} (h : goodS p st = false) (hb : Below w.heap.size w w') : RWOut w p st (.returned (.tuple #[.pointer none, zeroS])) w' := ⟨Or.inr ⟨h, rfl⟩, hb⟩
theorem rwOut_yes {w w' : World} {p : Pg} {st : List Int} (P : Nat) (a b c d : Int) (h : goodS p st = true) (e : a = padW st 0 ∧ b = padW st 1 ∧ c = padW st 2 ∧ d = padW st 3) (hr : Rooted w' (fun k => w.heap.size ≤ k ∧ k < w'.heap.size) p P) (hb : Below w.heap.size w w') : RWOut w p st (.returned (.tuple #[.pointer (some ⟨P, 0, none⟩), .agg #[.int .u64 a, .int .u64 b, .int .u64 c, .int .u64 d]])) w' := by
  obtain ⟨rfl, rfl, rfl, rfl⟩ := e
  exact ⟨Or.inl ⟨h, P, rfl, hr⟩, hb⟩
theorem Rooted.frame {w w' : World} {S S' : Nat → Prop} {p : Pg} {P : Nat} (h : Rooted w S p P) (hz : w.heap.size ≤ w'.heap.size) (hs : ∀ k, S k → S' k) (hk : ∀ k, S k → w'.heap[k]? = w.heap[k]?) : Rooted w' S' p P := by
  obtain ⟨h0, x, y, h1, h2, h3⟩ := h
  exact ⟨hs P h0, x, y, ⟨by rw [hk P h0]; exact h1.heap⟩, h2.frame hs hk, h3.frame hz hs hk⟩
theorem goodS_open {p : Pg} {st : List Int} (h0 : ∀ s ∈ st, 0 ≤ s) (h : goodS p st = true) : goodP p = true ∧ ∃ k v : Nat, p.1 = k ∧ p.2.1 = v ∧ WordsIn k v st := by
  unfold goodS at h
  rw [Bool.and_eq_true] at h
  obtain ⟨h1, h2⟩ := h
  obtain ⟨k, v, e1, e2, q1, q2, q3, q4⟩ := goodP_nats h1
  obtain ⟨h3, h4⟩ := stateP_open h2
  refine ⟨h1, k, v, e1, e2, q1, q2, q3, q4, by omega, h0, ?_⟩
  rw [← e1]
  exact h4
theorem results_b4 {fn : Func} {p u : Tmp} (h : fn.results = #[.tmp u, .cell p 90]) (tmps : Array Value) (w : World) (g : Nat) (t : TypeId) (cs : Array Value) (fr : Nat × Nat)
    (hp : tmps.getD p undef = .pointer (some ⟨g, 0, none⟩)) (hg : w.heap[g]? = some (.cells cs t fr)) (hi : cs.size = 4 := by rfl) :
    (results fn tmps).run Tryd.prog w = .ok (.tuple #[tmps.getD u undef, .agg cs]) w := by
  have hp' : tmps[p]?.getD undef = .pointer (some ⟨g, 0, none⟩) := by simpa using hp
  have h4 : (Tryd.prog.info? 90).map (·.size) = some 4 := by kernel_rfl
  simp [results, h, hp', asAddr, run_loadVar_row w g t 90 cs fr _ hg Tryd.underlying90 rfl (by rw [hi]; exact h4)]
abbrev PBox (w : World) (a b : Int) (s c : Value) : World := w.alloc (.cells #[.int .i64 a, .int .i64 b, s, c] 27)
abbrev ZBox (w : World) : World := w.alloc (.cells #[.int .u64 0, .int .u64 0, .int .u64 0, .int .u64 0] 90)
abbrev BoxZ (w : World) (b : Nat) : Prop := Box4 w b 90 (.int .u64 0) (.int .u64 0) (.int .u64 0) (.int .u64 0)
set_option maxRecDepth 100000 in
set_option maxHeartbeats 4000000 in
theorem rootsWith_any (v sv : Value) (p : Pg) (ok : PgOk p) (st : List Int) (hst : ∀ s ∈ st, 0 ≤ s ∧ s ≤ 18446744073709551615) (hl : st.length ≤ 1048576) (w : World) (hT : Tab w) (h : AtProg w v p) (hs : StAt w sv st) :
    Calls Tryd.prog 61 #[v, sv] w (RWOut w p st) := by
  obtain ⟨sa, sn, sc, ca, cn, cc, rfl⟩ := h.shape
  have hb2 : Below w.heap.size w ((w.alloc (.cells #[.int .i64 p.1, .int .i64 p.2.1, .slice sa sn sc, .slice ca cn cc] 27)).alloc (.cells #[.int .u64 0, .int .u64 0, .int .u64 0, .int .u64 0] 90)) := ((Below.refl _ _).alloc (Nat.le_refl _) _).alloc (by rw [World.size_alloc]; omega) _
  have HB0 : Hid _ := hb2
  have x0 := (box4_alloc w 27 (.int .i64 p.1) (.int .i64 p.2.1) (.slice sa sn sc) (.slice ca cn cc)).alloc (.cells #[.int .u64 0, .int .u64 0, .int .u64 0, .int .u64 0] 90)
  have y0 := box4_alloc (w.alloc (.cells #[.int .i64 p.1, .int .i64 p.2.1, .slice sa sn sc, .slice ca cn cc] 27)) 90 (.int .u64 0) (.int .u64 0) (.int .u64 0) (.int .u64 0)
  simp only [World.size_alloc] at y0
  have g := rootsOf_full _ p ok _ (hT.below HB0.out hT.some) (h.below HB0.out)
  have HNO : Hid (∀ w' : World, goodS p st = false → Below w.heap.size w w' → RWOut w p st (.returned (.tuple #[.pointer none, zeroS])) w') := fun w' h1 h2 => rwOut_no h1 h2
  have HYE : Hid (∀ (w' : World) (P : Nat) (a b c d : Int), goodS p st = true → (a = padW st 0 ∧ b = padW st 1 ∧ c = padW st 2 ∧ d = padW st 3) → Rooted w' (fun k => w.heap.size ≤ k ∧ k < w'.heap.size) p P → Below w.heap.size w w' → RWOut w p st (.returned (.tuple #[.pointer (some ⟨P, 0, none⟩), .agg #[.int .u64 a, .int .u64 b, .int .u64 c, .int .u64 d]])) w') := fun w' P a b c d h1 h2 h3 h4 => rwOut_yes P a b c d h1 h2 h3 h4
  have HG : Hid (goodS p st = (goodP p && stateP p st)) := rfl
  have HF : Hid (∀ (w1 : World) (P : Nat) (x y : Value) (k u : Nat), goodP p = true → p.1 = k → p.2.1 = u → Below w.heap.size w w1 → Box4 w1 P 111 (.int .i64 p.1) (.int .i64 p.2.1) x y → Calls Tryd.prog 106 #[.pointer (some ⟨P, 0, none⟩), sv] w1 (StOut w1 k u st)) := fun w1 P x y k u hg e1 e2 hb hx => by
    obtain ⟨_, q0, q1, q2, q3, _⟩ := goodP_parts hg
    rw [e1, e2] at hx
    exact stateFrom_any k (by omega) (by omega) u (by omega) P x y sv st hst (by omega) w1 (hT.below hb hT.some) hx (hs.below hb)
  have HSB : Hid (∀ k u : Nat, p.1 = k → p.2.1 = u → stB k u st = stateP p st) := fun k u e1 e2 => by
    unfold stB stateP
    rw [e1, e2]
  have HNT : Hid (goodP p = true → ∃ k u : Nat, p.1 = k ∧ p.2.1 = u) := fun hg => by
    obtain ⟨k, u, e1, e2, _⟩ := goodP_nats hg
    exact ⟨k, u, e1, e2⟩
  obtain ⟨ua, uc, rfl⟩ := hs.shape
  have h4 : (Tryd.prog.info? 90).map (·.size) = some 4 := by kernel_rfl
  obtain ⟨a0, a1, a2, a3⟩ := x0.cells
  have ah := x0.heap
  have al := x0.lt
  have HY0 : Hid _ := y0
  clear h hT ok hs hst hb2 x0 y0
  generalize hOUT : RWOut w p st = OUT at *
  clear hOUT
  go_enter Tryd.func61, Tryd.ntmps61
  go_wp2_with fail
  refine g.mono ?_
  clear a0 a1 a2 a3 ah al
  generalize hw0 : (w.alloc (.cells #[.int .i64 p.1, .int .i64 p.2.1, .slice sa sn sc, .slice ca cn cc] 27)).alloc (.cells #[.int .u64 0, .int .u64 0, .int .u64 0, .int .u64 0] 90) = w0 at *
  have hz0 : w0.heap.size = w.heap.size + 2 := by rw [← hw0, World.size_alloc, World.size_alloc]
  clear hw0
  rintro e w1 ⟨ho, hb1⟩
  have HB1 : Hid (Below w.heap.size w w1) := HB0.out.trans (hb1.mono (by omega))
  have HY1 : Hid _ := HY0.out.below hb1 (by omega)
  have hz1 := hb1.size
  obtain ⟨q0, q1, q2, q3⟩ := HY1.out.cells
  have qh := HY1.out.heap
  have ql := HY1.out.lt
  have f0 := HY1.out.frozen 0
  have f1 := HY1.out.frozen 1
  have f2 := HY1.out.frozen 2
  have f3 := HY1.out.frozen 3
  rcases ho with ⟨hg, P, rfl, hroot⟩ | ⟨hg, rfl⟩
  · obtain ⟨k, u, e1, e2⟩ := HNT.out hg
    have HR : Hid (Rooted w1 (fun k => w0.heap.size ≤ k ∧ k < w1.heap.size) p P) := hroot
    obtain ⟨hPS, x, y, hbx, _, _⟩ := hroot
    have gf := HF.out w1 P x y k u hg e1 e2 HB1.out hbx
    have HGP : Hid (goodS p st = stB k u st) := by
      show goodS p st = stB k u st
      rw [HG.out, hg, Bool.true_and, HSB.out k u e1 e2]
    clear g HF HSB HNT HG hg hbx e1 e2 hPS
    go_wp2_with fail
    refine gf.mono ?_
    rintro e w2 ⟨a, b, c, d, rfl, habcd, hb2⟩
    have HB2 : Hid (Below w.heap.size w w2) := HB1.out.trans (hb2.mono HB1.out.size)
    have hz2 := hb2.size
    have HY2 : Hid _ := HY1.out.below hb2 (by omega)
    have HR2 : Hid (Rooted w2 (fun k => w.heap.size + 2 ≤ k ∧ k < w2.heap.size) p P) := Rooted.frame HR.out hb2.size (fun k hk => ⟨by omega, by omega⟩) (fun k hk => hb2.block k hk.2)
    have HA : Hid _ := habcd
    have hb3 : Below w2.heap.size w2 (w2.alloc (.cells #[.int .u64 a, .int .u64 b, .int .u64 c, .int .u64 d] 90)) := (Below.refl _ _).alloc (Nat.le_refl _) _
    have HB3 : Hid _ := HB2.out.trans (hb3.mono HB2.out.size)
    have hz3 := hb3.size
    have HR3 : Hid (Rooted (w2.alloc (.cells #[.int .u64 a, .int .u64 b, .int .u64 c, .int .u64 d] 90)) (fun k => w.heap.size + 2 ≤ k ∧ k < (w2.alloc (.cells #[.int .u64 a, .int .u64 b, .int .u64 c, .int .u64 d] 90)).heap.size) p P) := Rooted.frame HR2.out (S' := fun k => w.heap.size + 2 ≤ k ∧ k < (w2.alloc (.cells #[.int .u64 a, .int .u64 b, .int .u64 c, .int .u64 d] 90)).heap.size) hb3.size (fun k hk => ⟨hk.1, by omega⟩) (fun k hk => hb3.block k hk.2)
    have HY3 : Hid _ := HY2.out.alloc (.cells #[.int .u64 a, .int .u64 b, .int .u64 c, .int .u64 d] 90)
    have x3 := box4_alloc w2 90 (.int .u64 a) (.int .u64 b) (.int .u64 c) (.int .u64 d)
    clear q0 q1 q2 q3 qh ql f0 f1 f2 f3
    obtain ⟨q0, q1, q2, q3⟩ := HY3.out.cells
    have qh := HY3.out.heap
    have ql := HY3.out.lt
    have f0 := HY3.out.frozen 0
    have f1 := HY3.out.frozen 1
    have f2 := HY3.out.frozen 2
    have f3 := HY3.out.frozen 3
    obtain ⟨r0, r1, r2, r3⟩ := x3.cells
    have rh := x3.heap
    have rl := x3.lt
    clear gf HR hb2 habcd x3 HR2 HY2 HB2
    cases hB : stB k u st with
    | true =>
      rw [hB] at HA HGP
      go_wp2_with fail
      go_region
      all_goals
        go_wp2_with fail
        refine bodyPost_ret (results_b4 rfl _ _ _ _ _ _ rfl ((((HY3.out.set0 (.int .u64 a)).set1 (.int .u64 b)).set2 (.int .u64 c)).set3 (.int .u64 d)).heap) rfl ?_
        exact HYE.out _ _ _ _ _ _ HGP.out (HA.out (by trivial)) (Rooted.frame HR3.out (Nat.le_of_eq (set4_size _ _ _ _ _ _).symm) (fun k hk => ⟨by omega, Nat.lt_of_lt_of_eq hk.2 (set4_size _ _ _ _ _ _).symm⟩) (fun k hk => set4_other (by omega) _ _ _ _)) (set4_below HB3.out (Nat.le_succ _) _ _ _ _).drew
    | false =>
      rw [hB] at HGP
      go_wp2_with fail
      refine bodyPost_ret (results_b4 rfl _ _ _ _ _ _ rfl ((((HY3.out.set0 (.int .u64 0)).set1 (.int .u64 0)).set2 (.int .u64 0)).set3 (.int .u64 0)).heap) rfl ?_
      exact HNO.out _ HGP.out ((((HB3.out.setCell (Nat.le_succ _) (.int .u64 0)).setCell (Nat.le_succ _) (.int .u64 0)).setCell (Nat.le_succ _) (.int .u64 0)).setCell (Nat.le_succ _) (.int .u64 0))
  · have HN : Hid (goodS p st = false) := by
      show goodS p st = false
      rw [HG.out, hg, Bool.false_and]
    clear g HF HSB HNT HG hg hb1
    go_wp2_with fail
    refine bodyPost_ret (results_b4 rfl _ _ _ _ _ _ rfl ((((HY1.out.set0 (.int .u64 0)).set1 (.int .u64 0)).set2 (.int .u64 0)).set3 (.int .u64 0)).heap) rfl ?_
    exact HNO.out _ HN.out ((((HB1.out.setCell (Nat.le_succ _) (.int .u64 0)).setCell (Nat.le_succ _) (.int .u64 0)).setCell (Nat.le_succ _) (.int .u64 0)).setCell (Nat.le_succ _) (.int .u64 0))
end Go.Proofs.YtjbolpfilgkbfaaDoor

namespace Go.Proofs.YtjbolpfilgkbfaaDoor
open Go Go.RowKit
open M
set_option linter.unusedVariables false

theorem indexW_at (st : List Int) (j : Nat) (hj : j < 4) (w : World) : Sem.run Tryd.prog (Instr.index 90 (aggS st) (.int .i64 (j : Int))) w = .ok (.int .u64 (padW st j)) w := by
  rcases (show j = 0 ∨ j = 1 ∨ j = 2 ∨ j = 3 by omega) with rfl | rfl | rfl | rfl
  · exact indexW_0 _ _ _ _ w
  · exact indexW_1 _ _ _ _ w
  · exact indexW_2 _ _ _ _ w
  · exact indexW_3 _ _ _ _ w
set_option maxRecDepth 100000 in
set_option maxHeartbeats 2000000 in
theorem number_any {k vars : Nat} (hk5 : k ≤ 5) {st : List Int} (hw : WordsIn k vars st) (P : Nat) (u y : Value) (w : World) (hP : Box4 w P 111 (.int .i64 k) (.int .i64 vars) u y) :
    Calls Tryd.prog 84 #[ptr P, aggS st] w fun e w' => e = .returned (.int .i64 (noL k st)) ∧ Below w.heap.size w w' := by
  have hp := padL_words hw
  have hl4 : st.length ≤ 4 := by obtain ⟨_, _, _, h4, h5, _⟩ := hw; omega
  have hb0 : Below w.heap.size w (w.alloc (.cells #[.int .u64 (padW st 0), .int .u64 (padW st 1), .int .u64 (padW st 2), .int .u64 (padW st 3)] 90)) := (Below.refl _ _).alloc (Nat.le_refl _) _
  have y0 := box4_alloc w 90 (.int .u64 (padW st 0)) (.int .u64 (padW st 1)) (.int .u64 (padW st 2)) (.int .u64 (padW st 3))
  have HB0 : Hid _ := hb0
  have hP2 := hP.below hb0 hP.lt
  obtain ⟨p0, p1, p2, p3⟩ := hP2.cells
  have ph := hP2.heap
  have pl := hP2.lt
  obtain ⟨q0, q1, q2, q3⟩ := y0.cells
  have qh := y0.heap
  have ql := y0.lt
  have h4 : (Tryd.prog.info? 90).map (·.size) = some 4 := by kernel_rfl
  have hbd : ∀ j, j ≤ 4 → 0 ≤ noL k ((padL st).take j) ∧ noL k ((padL st).take j) < 1048576 := by
    intro j hj
    obtain ⟨a, b⟩ := noL_in k ((padL st).take j) (fun s hs => by
      have := hp s (List.mem_of_mem_take hs)
      rw [pw_int]
      exact this)
    refine ⟨a, Int.lt_of_lt_of_le b ?_⟩
    have hl : ((padL st).take j).length ≤ 4 := by rw [List.length_take]; exact Nat.le_trans (Nat.min_le_left _ _) hj
    have hm : k * ((padL st).take j).length ≤ 20 := Nat.le_trans (Nat.mul_le_mul hk5 hl) (by omega)
    rw [pw_int, show (1048576 : Int) = pw 20 from by decide]
    exact pw_mono _ _ hm
  have hsn : ∀ j, j < 4 → noL k ((padL st).take (j + 1)) = noL k ((padL st).take j) + padW st j * 2 ^ (k * j) := by
    intro j hj
    rw [List.take_add_one, padL_at st j hj]
    show noL k ((padL st).take j ++ [padW st j]) = _
    rw [noL_snoc, List.length_take, Nat.min_eq_left (by show j ≤ 4; omega)]
  have hwd : ∀ j, 0 ≤ padW st j ∧ padW st j < 32 := by
    intro j
    have h1 : 0 ≤ padW st j ∧ padW st j < pw k := by
      rcases padW_mem st j with e | e
      · rw [e]
        exact ⟨Int.le_refl _, by have := pw_pos k; omega⟩
      · obtain ⟨_, _, _, _, _, h0, hg⟩ := hw
        have := good_two k _ (h0 _ e) (hg _ e)
        rw [pw_int] at this
        exact this
    have h2 := pw_mono k 5 hk5
    have h3 : pw 5 = 32 := by decide
    omega
  have HBD : Hid _ := hbd
  have HSN : Hid _ := hsn
  have HWD : Hid _ := hwd
  have HE : Hid (noL k ((padL st).take 4) = noL k st) := by
    show _ = _
    rw [show (padL st).take 4 = padL st from rfl, noL_pad k st hl4]
  clear hbd hsn hwd hp hw hP hP2 y0 hb0 hl4
  go_enter Tryd.func84, Tryd.ntmps84
  go_wp2_with fail
  go_loopw [5, 9] (fun m i wr => ∃ j : Nat, j ≤ 4 ∧ i = .int .i64 j ∧ m = .int .i64 (noL k ((padL st).take j)) ∧ wr = w.alloc (.cells #[.int .u64 (padW st 0), .int .u64 (padW st 1), .int .u64 (padW st 2), .int .u64 (padW st 3)] 90)) (fun _ i _ => 4 - (intOf i).toNat)
  case atStart => exact ⟨0, by omega, rfl, rfl, rfl⟩
  case round =>
    obtain ⟨j, hj, rfl, rfl, rfl⟩ := hrel
    obtain ⟨b0, b1⟩ := HBD.out j hj
    by_cases hlt : j < 4
    · have ix := indexW_at st j hlt
      obtain ⟨x0, x1⟩ := HWD.out j
      obtain ⟨c0, c1⟩ := HBD.out (j + 1) hlt
      have hs := HSN.out j hlt
      have hkj : k * j ≤ 15 := Nat.le_trans (Nat.mul_le_mul hk5 (by omega : j ≤ 3)) (by omega)
      have hm : IntKind.i64.wrap ((k : Int) * (j : Int)) = ((k * j : Nat) : Int) := by
        rw [← Int.natCast_mul]
        exact IntWalk.i64_in _ ⟨by omega, by omega⟩
      have hx : IntKind.i64.wrap (padW st j) = padW st j := IntWalk.i64_in _ ⟨by omega, by omega⟩
      go_wp2_with fail
      go_roundw
      case rel => exact ⟨j + 1, by omega, by go_num, by rw [hs], trivial⟩
      case measure => simp [intOf]; omega
    · obtain rfl : j = 4 := by omega
      have HE2 := HE.out
      clear HBD HSN HWD
      go_wp2_with fail
      go_ret
      exact ⟨by rw [← HE2]; rfl, HB0.out⟩
end Go.Proofs.YtjbolpfilgkbfaaDoor

namespace Go.Proofs.YtjbolpfilgkbfaaDoor
open Go Go.RowKit
open M
set_option linter.unusedVariables false

set_option maxRecDepth 100000 in
set_option maxHeartbeats 2000000 in
theorem sState_any (v sv : Value) (p : Pg) (st : List Int) (hok : StOk st) (w : World) (h : AtProg w v p) (hs : StAt w sv st) :
    Calls Tryd.prog 64 #[v, sv] w fun e w' => e = .returned (.bool (stateP p st)) ∧ Below w.heap.size w w' := by
  obtain ⟨⟨hfw0, hfw1⟩, ⟨hfv0, hfv1⟩, _⟩ := id h
  obtain ⟨sa, sn, sc, ca, cn, cc, rfl⟩ := h.shape
  have HB0 : Hid (Below w.heap.size w (w.alloc (.cells #[.int .i64 p.1, .int .i64 p.2.1, .slice sa sn sc, .slice ca cn cc] 27))) := (Below.refl _ _).alloc (Nat.le_refl _) _
  have g := l2Words_any p.1 sv st hok _ (hs.below HB0.out)
  obtain ⟨ta, tc, rfl⟩ := hs.shape
  have hl := hok.1
  have hS : stateP p st = (decide ((st.length : Int) = p.2.1) && st.all (goodB p.1)) := rfl
  rw [hS]
  clear h hs hS hok
  generalize st.all (goodB p.1) = GB at *
  generalize st.length = n at *
  generalize p.1 = pw at *
  generalize p.2.1 = pv at *
  by_cases he : (n : Int) = pv
  · rw [decide_eq_true he, Bool.true_and]
    go_enter Tryd.func64, Tryd.ntmps64
    go_wp2_with fail
    refine g.mono ?_
    rintro e w1 ⟨rfl, rfl⟩
    clear g
    go_wp2_with fail
    go_ret
    exact ⟨rfl, HB0.out⟩
  · rw [decide_eq_false he, Bool.false_and]
    clear g
    go_enter Tryd.func64, Tryd.ntmps64
    go_wp2_with fail
    go_ret
    exact ⟨rfl, HB0.out⟩
set_option maxRecDepth 100000 in
set_option maxHeartbeats 2000000 in
theorem sHolds_any (v tv sv : Value) (p : Pg) (t : List Nd) (st : List Int) (hok : StOk st) (hsaid : saidV p.1 t st = true) (w : World) (h : AtProg w v p) (ht : NodesAt w tv t) (hs : StAt w sv st) :
    Calls Tryd.prog 75 #[v, tv, sv] w fun e w' => e = .returned (.bool (holdsL p.1 t st)) ∧ Below w.heap.size w w' := by
  obtain ⟨sa, sn, sc, ca, cn, cc, rfl⟩ := h.shape
  have HB0 : Hid (Below w.heap.size w (w.alloc (.cells #[.int .i64 p.1, .int .i64 p.2.1, .slice sa sn sc, .slice ca cn cc] 27))) := (Below.refl _ _).alloc (Nat.le_refl _) _
  have htl : 1 ≤ t.length ∧ t.length ≤ 48 := by
    obtain ⟨_, _, _, _, h1, h2, _⟩ := valueL_root hsaid
    exact ⟨h1, h2⟩
  have hwr : IntKind.i64.wrap ((t.length : Int) - 1) = (t.length : Int) - 1 := IntWalk.i64_in _ ⟨by omega, by omega⟩
  have g := l2Value_said p.1 tv sv t st hok hsaid _ (ht.below HB0.out) (hs.below HB0.out) _ rfl
  obtain ⟨ta, tc, rfl⟩ := ht.shape
  obtain ⟨ua, uc, rfl⟩ := hs.shape
  have hH : holdsL p.1 t st = (valueL p.1 t st == 1) := rfl
  rw [hH]
  clear h ht hs hH hok hsaid
  generalize valueL p.1 t st = V at *
  generalize t.length = n at *
  generalize st.length = m at *
  generalize p.1 = pw at *
  generalize p.2.1 = pv at *
  go_enter Tryd.func75, Tryd.ntmps75
  go_wp2_with fail
  refine g.mono ?_
  rintro e w1 ⟨rfl, hs⟩
  have HB1 : Hid (Below w.heap.size w w1) := Below.step HB0.out HB0.out.size hs
  clear g hs
  go_wp2_with fail
  go_ret
  exact ⟨rfl, HB1.out⟩
end Go.Proofs.YtjbolpfilgkbfaaDoor

namespace Go.Proofs.YtjbolpfilgkbfaaDoor
open Go Go.RowKit
open M
set_option linter.unusedVariables false

def noP (p : Pg) (st : List Int) : Int := if (smallP p && stateP p st) = true then noL p.1.toNat st else 0
theorem drop_at {st : List Int} {j : Nat} {x : Int} (h : st[j]? = some x) : st.drop j = x :: st.drop (j + 1) := by
  obtain ⟨hl, hx⟩ := List.getElem?_eq_some_iff.1 h
  rw [List.drop_eq_getElem_cons hl, hx]
theorem cell_same {w w' : World} {a : Addr} (h : w'.heap = w.heap) : w'.cell? a = w.cell? a := by
  unfold World.cell?
  rw [h]
theorem wrap64_in (x : Int) (h0 : 0 ≤ x) (h1 : x ≤ 9223372036854775807) : wrap64 x = x := by
  unfold wrap64
  omega
set_option maxRecDepth 100000 in
set_option maxHeartbeats 2000000 in
theorem sNo_any (v sv : Value) (p : Pg) (k : Nat) (hk1 : 1 ≤ k) (hk5 : k ≤ 5) (hp1 : p.1 = k) (st : List Int) (hlen : (st.length : Int) = p.2.1) (h4 : st.length ≤ 4) (hst : ∀ s ∈ st, 0 ≤ s ∧ s < 2 ^ k) (w : World) (h : AtProg w v p) (hs : StAt w sv st) :
    Calls Tryd.prog 86 #[v, sv] w fun e w' => e = .returned (.int .i64 (noL k st)) ∧ Below w.heap.size w w' := by
  obtain ⟨sa, sn, sc, ca, cn, cc, rfl⟩ := h.shape
  have hb0 : Below w.heap.size w (w.alloc (.cells #[.int .i64 p.1, .int .i64 p.2.1, .slice sa sn sc, .slice ca cn cc] 27)) := (Below.refl _ _).alloc (Nat.le_refl _) _
  have HB0 : Hid _ := hb0
  have x0 := box4_alloc w 27 (.int .i64 p.1) (.int .i64 p.2.1) (.slice sa sn sc) (.slice ca cn cc)
  obtain ⟨ua, uc, rfl⟩ := hs.shape
  have HC : Hid (∀ (j : Nat) (s : Int), st[j]? = some s → ∃ b off : Nat, ua = some ⟨b, off, none⟩ ∧ (w.alloc (.cells #[.int .i64 p.1, .int .i64 p.2.1, .slice sa sn sc, .slice ca cn cc] 27)).cell? ⟨b, off + j, none⟩ = some (.int .u64 s)) := by
    intro j s hj
    rcases hs with ⟨rfl, _⟩ | ⟨b, off, cap, e, hlt, hc⟩
    · simp at hj
    · injection e with e1 _ _
      exact ⟨b, off, e1, by rw [hb0.cell (p := ⟨b, off + j, none⟩) hlt]; exact hc j s hj⟩
  have HI : Hid (∀ j : Nat, j ≤ st.length → 0 ≤ noL k (st.drop j) ∧ noL k (st.drop j) < 2 ^ 20) := by
    intro j hj
    obtain ⟨a, b⟩ := noL_in k (st.drop j) (fun s hs => hst s (List.mem_of_mem_drop hs))
    refine ⟨a, Int.lt_of_lt_of_le b ?_⟩
    have hl : k * (st.drop j).length ≤ 20 := Nat.le_trans (Nat.mul_le_mul hk5 (by rw [List.length_drop]; omega : (st.drop j).length ≤ 4)) (by omega)
    rw [pw_int, pw_int]
    exact pw_mono _ _ hl
  have HS : Hid (∀ (j : Nat) (x : Int), st[j]? = some x → noL k (st.drop j) = x + 2 ^ k * noL k (st.drop (j + 1))) := fun j x hx => by
    rw [drop_at hx]
    rfl
  have HX0 : Hid (Box4 (w.alloc (.cells #[.int .i64 p.1, .int .i64 p.2.1, .slice sa sn sc, .slice ca cn cc] 27)) w.heap.size 27 (.int .i64 p.1) (.int .i64 p.2.1) (.slice sa sn sc) (.slice ca cn cc)) := x0
  obtain ⟨a0, a1, a2, a3⟩ := x0.cells
  have ah := x0.heap
  have al := x0.lt
  clear hs h hb0 x0
  rw [hp1, ← hlen] at *
  have HSV : Hid (∀ (j : Nat) (x : Int), st[j]? = some x → 0 ≤ x ∧ x < 32) := fun j x hx => by
    obtain ⟨a, b⟩ := hst x (List.mem_of_getElem? hx)
    have : (2 : Int) ^ k ≤ 2 ^ 5 := by
      rw [pw_int, pw_int]
      exact pw_mono _ _ hk5
    omega
  have HZ : Hid (Value.int .i64 0 = Value.int .i64 (noL k (st.drop st.length))) := by
    show Value.int .i64 0 = Value.int .i64 (noL k (st.drop st.length))
    rw [List.drop_length]
    rfl
  generalize hn : st.length = n at *
  have HLN : Hid (st.length = n) := hn
  clear hst hn
  have hwv : IntKind.i64.wrap ((n : Int) - 1) = (n : Int) - 1 := IntWalk.i64_in _ ⟨by omega, by omega⟩
  go_enter Tryd.func86, Tryd.ntmps86
  go_wp2_with fail
  go_loopw [5, 6] (fun m i wr => ∃ j : Nat, j ≤ n ∧ i = .int .i64 ((j : Int) - 1) ∧ m = .int .i64 (noL k (st.drop j)) ∧ Hid (wr.heap = (w.alloc (.cells #[.int .i64 k, .int .i64 n, .slice sa sn sc, .slice ca cn cc] 27)).heap) ∧ Hid (Below w.heap.size w wr)) (fun _ i _ => (intOf i + 1).toNat)
  case atStart => exact ⟨n, Nat.le_refl _, rfl, HZ.out, rfl, HB0⟩
  case round =>
    obtain ⟨j, hj, rfl, rfl, HH, HB⟩ := hrel
    clear a0 a1 a2 a3 ah al
    obtain ⟨b0, b1⟩ := HI.out j hj
    by_cases hlt : 1 ≤ j
    · obtain ⟨x, hx⟩ : ∃ x, st[j - 1]? = some x := ⟨_, List.getElem?_eq_getElem (by have := HLN.out; omega)⟩
      obtain ⟨b, off, rfl, cx⟩ := HC.out (j - 1) x hx
      obtain ⟨x0, x1⟩ := HSV.out (j - 1) x hx
      have hs := HS.out (j - 1) x hx
      have hi1 := HI.out (j - 1) (by omega)
      rw [Nat.sub_add_cancel hlt] at hs
      rw [← cell_same HH.out] at cx
      have x1' : Box4 wr w.heap.size 27 (.int .i64 k) (.int .i64 n) (.slice sa sn sc) (.slice ca cn cc) := ⟨by rw [HH.out]; exact HX0.out.heap⟩
      obtain ⟨a0, a1, a2, a3⟩ := x1'.cells
      have ah := x1'.heap
      have al := x1'.lt
      have hp2 := two_pos k
      have e1 : wrap64 (noL k (st.drop j) * 2 ^ k) = noL k (st.drop j) * 2 ^ k := by
        have : 0 ≤ noL k (st.drop j) * 2 ^ k := Int.mul_nonneg b0 (by omega)
        rw [Int.mul_comm] at this ⊢
        exact wrap64_in _ (by omega) (by omega)
      have e2 : wrap64 (noL k (st.drop j) * 2 ^ k + x) = noL k (st.drop (j - 1)) := by
        rw [hs, Int.mul_comm (noL k (st.drop j)) (2 ^ k), Int.add_comm]
        exact wrap64_in _ (by omega) (by omega)
      have E1 : Hid _ := e1
      have E2 : Hid _ := e2
      have HJ : Hid (noL k (st.drop (j - 1)) = noL k (st.drop (j - 1))) := rfl
      clear x1' e1 e2 hs hx hi1 hp2
      go_wp2_with fail
      go_quiet (fail)
      rw [E1.out, E2.out]
      have HB2 : Hid (Below w.heap.size w (wr.drewN nq)) := HB.out.trans (below_drew7 _ _ _)
      go_wp2_with fail
      go_roundw
      case rel => exact ⟨j - 1, by omega, by go_num, rfl, HH, HB2⟩
      case measure => simp [intOf]; omega
    · obtain rfl : j = 0 := by omega
      clear HI HS HC HSV HX0
      go_wp2_with fail
      go_ret
      exact ⟨rfl, HB.out⟩
end Go.Proofs.YtjbolpfilgkbfaaDoor

namespace Go.Proofs.YtjbolpfilgkbfaaDoor
open Go Go.RowKit
open M
set_option linter.unusedVariables false

theorem st_ok {st : List Int} (h : WsOk st) : StOk st := ⟨h.2, h.1⟩
theorem smallP_open {p : Pg} (h : smallP p = true) : goodP p = true ∧ p.1 * p.2.1 ≤ 5 := by
  unfold smallP at h
  rw [Bool.and_eq_true] at h
  exact ⟨h.1, of_decide_eq_true h.2⟩
set_option maxRecDepth 100000 in
set_option maxHeartbeats 2000000 in
theorem sStateNo_any (v sv : Value) (p : Pg) (st : List Int) (hok : WsOk st) (w : World) (h : AtProg w v p) (hs : StAt w sv st) :
    Calls Tryd.prog 39 #[v, sv] w fun e w' => e = .returned (.tuple #[.int .i64 (noP p st), .bool (smallP p && stateP p st)]) ∧ Below w.heap.size w w' := by
  have HS : Hid (∀ w1 : World, Below w.heap.size w w1 → Calls Tryd.prog 85 #[v] w1 fun e w' => e = .returned (.bool (smallP p)) ∧ Below w1.heap.size w1 w') := fun w1 hb => sSmall_any v p w1 (h.below hb)
  have HT : Hid (∀ w1 : World, Below w.heap.size w w1 → Calls Tryd.prog 64 #[v, sv] w1 fun e w' => e = .returned (.bool (stateP p st)) ∧ Below w1.heap.size w1 w') := fun w1 hb => sState_any v sv p st (st_ok hok) w1 (h.below hb) (hs.below hb)
  have HN : Hid (smallP p = true → stateP p st = true → ∀ w1 : World, Below w.heap.size w w1 → Calls Tryd.prog 86 #[v, sv] w1 fun e w' => e = .returned (.int .i64 (noL p.1.toNat st)) ∧ Below w1.heap.size w1 w') := fun h1 h2 w1 hb => by
    obtain ⟨hg, hm⟩ := smallP_open h1
    obtain ⟨k, u, e1, e2, q1, q2, q3, q4⟩ := goodP_nats hg
    obtain ⟨h3, h4⟩ := stateP_open h2
    have hk5 : k ≤ 5 := by
      rw [e1, e2] at hm
      have : (k : Int) * 1 ≤ (k : Int) * (u : Int) := Int.mul_le_mul_of_nonneg_left (by omega) (by omega)
      omega
    have g := sNo_any v sv p k q1 hk5 e1 st h3 (by omega) (fun s hs => good_two k s (hok.1 s hs).1 (by rw [← e1]; exact h4 s hs)) w1 (h.below hb) (hs.below hb)
    rw [show p.1.toNat = k from by omega]
    exact g
  have hn0 : noP p st = if (smallP p && stateP p st) = true then noL p.1.toNat st else 0 := rfl
  have hfit : smallP p = true → stateP p st = true → True := fun _ _ => trivial
  obtain ⟨sa, sn, sc, ca, cn, cc, rfl⟩ := h.shape
  have HB0 : Hid (Below w.heap.size w (w.alloc (.cells #[.int .i64 p.1, .int .i64 p.2.1, .slice sa sn sc, .slice ca cn cc] 27))) := (Below.refl _ _).alloc (Nat.le_refl _) _
  have x0 := box4_alloc w 27 (.int .i64 p.1) (.int .i64 p.2.1) (.slice sa sn sc) (.slice ca cn cc)
  have HX0 : Hid _ := x0
  obtain ⟨ua, uc, rfl⟩ := hs.shape
  rw [hn0]
  clear h hs hok x0 hn0 hfit
  generalize noL p.1.toNat st = NN at *
  generalize st.length = n at *
  generalize stateP p st = B2 at *
  generalize smallP p = B1 at *
  generalize p.1 = pw at *
  generalize p.2.1 = pv at *
  cases B1 with
  | false =>
    rw [Bool.false_and, if_neg (by decide)]
    clear HN HT HX0
    go_enter Tryd.func39, Tryd.ntmps39
    go_wp2_with fail
    refine (HS.out _ HB0.out).mono ?_
    rintro e w1 ⟨rfl, hs⟩
    have HB1 : Hid (Below w.heap.size w w1) := Below.step HB0.out HB0.out.size hs
    clear hs
    go_wp2_with fail
    go_ret2
    exact ⟨rfl, HB1.out⟩
  | true =>
    cases B2 with
    | false =>
      rw [Bool.and_false, if_neg (by decide)]
      clear HN
      go_enter Tryd.func39, Tryd.ntmps39
      go_wp2_with fail
      refine (HS.out _ HB0.out).mono ?_
      generalize w.alloc (.cells #[.int .i64 pw, .int .i64 pv, .slice sa sn sc, .slice ca cn cc] 27) = w0 at *
      rintro e w1 ⟨rfl, hs⟩
      have HB1 : Hid (Below w.heap.size w w1) := Below.step HB0.out HB0.out.size hs
      have x1 := HX0.out.below hs HX0.out.lt
      obtain ⟨a0, a1, a2, a3⟩ := x1.cells
      have ah := x1.heap
      have al := x1.lt
      clear hs x1 HX0
      go_wp2_with fail
      refine (HT.out _ HB1.out).mono ?_
      rintro e w2 ⟨rfl, hs⟩
      have HB2 : Hid (Below w.heap.size w w2) := HB1.out.trans (hs.mono HB1.out.size)
      clear hs a0 a1 a2 a3 ah al
      go_wp2_with fail
      go_ret2
      exact ⟨rfl, HB2.out⟩
    | true =>
      rw [Bool.and_true, if_pos rfl]
      have HN2 : Hid _ := HN.out rfl rfl
      clear HN
      go_enter Tryd.func39, Tryd.ntmps39
      go_wp2_with fail
      refine (HS.out _ HB0.out).mono ?_
      generalize w.alloc (.cells #[.int .i64 pw, .int .i64 pv, .slice sa sn sc, .slice ca cn cc] 27) = w0 at *
      rintro e w1 ⟨rfl, hs⟩
      have HB1 : Hid (Below w.heap.size w w1) := Below.step HB0.out HB0.out.size hs
      have x1 := HX0.out.below hs HX0.out.lt
      have HX1 : Hid _ := x1
      obtain ⟨a0, a1, a2, a3⟩ := x1.cells
      have ah := x1.heap
      have al := x1.lt
      clear hs x1 HX0
      go_wp2_with fail
      refine (HT.out _ HB1.out).mono ?_
      rintro e w2 ⟨rfl, hs⟩
      have HB2 : Hid (Below w.heap.size w w2) := HB1.out.trans (hs.mono HB1.out.size)
      have x2 := HX1.out.below hs HX1.out.lt
      clear a0 a1 a2 a3 ah al
      obtain ⟨a0, a1, a2, a3⟩ := x2.cells
      have ah := x2.heap
      have al := x2.lt
      clear hs x2 HX1
      go_wp2_with fail
      refine (HN2.out _ HB2.out).mono ?_
      rintro e w3 ⟨rfl, hs⟩
      have HB3 : Hid (Below w.heap.size w w3) := HB2.out.trans (hs.mono HB2.out.size)
      clear hs a0 a1 a2 a3 ah al
      go_wp2_with fail
      go_ret2
      exact ⟨rfl, HB3.out⟩
set_option maxRecDepth 100000 in
set_option maxHeartbeats 2000000 in
theorem sIsStart_any (v sv : Value) (p : Pg) (st : List Int) (hok : WsOk st) (w : World) (h : AtProg w v p) (hs : StAt w sv st) :
    Calls Tryd.prog 28 #[v, sv] w fun e w' => e = .returned (.tuple #[.bool (startP p st), .bool (goodS p st)]) ∧ Below w.heap.size w w' := by
  have HS : Hid (∀ w1 : World, Below w.heap.size w w1 → Calls Tryd.prog 20 #[v] w1 fun e w' => e = .returned (.bool (goodP p)) ∧ Below w1.heap.size w1 w') := fun w1 hb => sGoodProg_any v p w1 (h.below hb)
  have HT : Hid (∀ w1 : World, Below w.heap.size w w1 → Calls Tryd.prog 64 #[v, sv] w1 fun e w' => e = .returned (.bool (stateP p st)) ∧ Below w1.heap.size w1 w') := fun w1 hb => sState_any v sv p st (st_ok hok) w1 (h.below hb) (hs.below hb)
  have HN0 : goodP p = true → stateP p st = true → ∀ (w1 : World) (u : Value), Below w.heap.size w w1 → NodesAt w1 u p.2.2.1 → Calls Tryd.prog 75 #[v, u, sv] w1 fun e w' => e = .returned (.bool (holdsL p.1 p.2.2.1 st)) ∧ Below w1.heap.size w1 w' := fun h1 h2 w1 u hb hu => by
    obtain ⟨hk, _⟩ := goodP_parts h1
    exact sHolds_any v u sv p p.2.2.1 st (st_ok hok) (said_of h2 (by omega)) w1 (h.below hb) hu (hs.below hb)
  have hn0 : startP p st = (goodP p && stateP p st && holdsL p.1 p.2.2.1 st) := rfl
  have hg0 : goodS p st = (goodP p && stateP p st) := rfl
  obtain ⟨_, _, s', c', e', hns, _⟩ := id h
  obtain ⟨sa, sn, sc, ca, cn, cc, rfl⟩ := h.shape
  have e2 : s' = .slice sa sn sc := by
    injection e' with e'
    simp only [Array.mk.injEq, List.cons.injEq] at e'
    exact e'.2.2.1.symm
  rw [e2] at hns
  clear e' e2
  have HN : Hid (goodP p = true → stateP p st = true → ∀ (w1 : World), Below w.heap.size w w1 → Calls Tryd.prog 75 #[.agg #[.int .i64 p.1, .int .i64 p.2.1, .slice sa sn sc, .slice ca cn cc], .slice sa sn sc, sv] w1 fun e w' => e = .returned (.bool (holdsL p.1 p.2.2.1 st)) ∧ Below w1.heap.size w1 w') := fun h1 h2 w1 hb => HN0 h1 h2 w1 _ hb (hns.below hb)
  have HB0 : Hid (Below w.heap.size w (w.alloc (.cells #[.int .i64 p.1, .int .i64 p.2.1, .slice sa sn sc, .slice ca cn cc] 27))) := (Below.refl _ _).alloc (Nat.le_refl _) _
  have x0 := box4_alloc w 27 (.int .i64 p.1) (.int .i64 p.2.1) (.slice sa sn sc) (.slice ca cn cc)
  have HX0 : Hid _ := x0
  obtain ⟨ua, uc, rfl⟩ := hs.shape
  rw [hn0, hg0]
  clear h hs hok x0 hn0 hg0 HN0 hns
  generalize holdsL p.1 p.2.2.1 st = NN at *
  generalize st.length = n at *
  generalize stateP p st = B2 at *
  generalize goodP p = B1 at *
  generalize p.1 = pw at *
  generalize p.2.1 = pv at *
  cases B1 with
  | false =>
    rw [Bool.false_and, Bool.false_and]
    clear HN HT HX0
    go_enter Tryd.func28, Tryd.ntmps28
    go_wp2_with fail
    refine (HS.out _ HB0.out).mono ?_
    rintro e w1 ⟨rfl, hs⟩
    have HB1 : Hid (Below w.heap.size w w1) := Below.step HB0.out HB0.out.size hs
    clear hs
    go_wp2_with fail
    go_ret2
    exact ⟨rfl, HB1.out⟩
  | true =>
    cases B2 with
    | false =>
      rw [Bool.and_false, Bool.false_and]
      clear HN
      go_enter Tryd.func28, Tryd.ntmps28
      go_wp2_with fail
      refine (HS.out _ HB0.out).mono ?_
      generalize w.alloc (.cells #[.int .i64 pw, .int .i64 pv, .slice sa sn sc, .slice ca cn cc] 27) = w0 at *
      rintro e w1 ⟨rfl, hs⟩
      have HB1 : Hid (Below w.heap.size w w1) := Below.step HB0.out HB0.out.size hs
      have x1 := HX0.out.below hs HX0.out.lt
      obtain ⟨a0, a1, a2, a3⟩ := x1.cells
      have ah := x1.heap
      have al := x1.lt
      clear hs x1 HX0
      go_wp2_with fail
      refine (HT.out _ HB1.out).mono ?_
      rintro e w2 ⟨rfl, hs⟩
      have HB2 : Hid (Below w.heap.size w w2) := HB1.out.trans (hs.mono HB1.out.size)
      clear hs a0 a1 a2 a3 ah al
      go_wp2_with fail
      go_ret2
      exact ⟨rfl, HB2.out⟩
    | true =>
      rw [Bool.and_true, Bool.true_and]
      have HN2 : Hid _ := HN.out rfl rfl
      clear HN
      go_enter Tryd.func28, Tryd.ntmps28
      go_wp2_with fail
      refine (HS.out _ HB0.out).mono ?_
      generalize w.alloc (.cells #[.int .i64 pw, .int .i64 pv, .slice sa sn sc, .slice ca cn cc] 27) = w0 at *
      rintro e w1 ⟨rfl, hs⟩
      have HB1 : Hid (Below w.heap.size w w1) := Below.step HB0.out HB0.out.size hs
      have x1 := HX0.out.below hs HX0.out.lt
      have HX1 : Hid _ := x1
      obtain ⟨a0, a1, a2, a3⟩ := x1.cells
      have ah := x1.heap
      have al := x1.lt
      clear hs x1 HX0
      go_wp2_with fail
      refine (HT.out _ HB1.out).mono ?_
      rintro e w2 ⟨rfl, hs⟩
      have HB2 : Hid (Below w.heap.size w w2) := HB1.out.trans (hs.mono HB1.out.size)
      have x2 := HX1.out.below hs HX1.out.lt
      clear a0 a1 a2 a3 ah al
      obtain ⟨a0, a1, a2, a3⟩ := x2.cells
      have ah := x2.heap
      have al := x2.lt
      clear hs x2 HX1
      go_wp2_with fail
      refine (HN2.out _ HB2.out).mono ?_
      rintro e w3 ⟨rfl, hs⟩
      have HB3 : Hid (Below w.heap.size w w3) := HB2.out.trans (hs.mono HB2.out.size)
      clear hs a0 a1 a2 a3 ah al
      go_wp2_with fail
      go_ret2
      exact ⟨rfl, HB3.out⟩
end Go.Proofs.YtjbolpfilgkbfaaDoor

namespace Go.Proofs.YtjbolpfilgkbfaaDoor
open Go Go.RowKit
open M
set_option linter.unusedVariables false

set_option maxRecDepth 100000 in
theorem iGoodProg_any (v : Value) (p : Pg) (ok : PgOk p) (w : World) (hT : Tab w) (h : AtProg w v p) :
    Calls Tryd.prog 19 #[v] w fun e w' => e = .returned (.bool (goodP p)) ∧ Below w.heap.size w w' := by
  obtain ⟨sa, sn, sc, ca, cn, cc, rfl⟩ := h.shape
  have HB0 : Hid (Below w.heap.size w (w.alloc (.cells #[.int .i64 p.1, .int .i64 p.2.1, .slice sa sn sc, .slice ca cn cc] 27))) := (Below.refl _ _).alloc (Nat.le_refl _) _
  have g := rootsOf_any _ p ok _ (hT.below HB0.out hT.some) (h.below HB0.out)
  clear h hT ok
  generalize hgp : goodP p = GP at *
  have HGP : Hid _ := hgp
  clear hgp
  have HO : Hid (∀ (w0 : World) e w', RootsOut w0 p e w' → ((GP = true ∧ ∃ P : Nat, e = .returned (ptr P)) ∨ (GP = false ∧ e = .returned (.pointer none))) ∧ Below w0.heap.size w0 w') := fun w0 e w' ho => by
    obtain ⟨h1, h2⟩ := ho
    refine ⟨?_, h2⟩
    rcases h1 with ⟨a, P, x, y, b, _⟩ | ⟨a, b⟩
    · exact Or.inl ⟨HGP.out.symm.trans a, P, b⟩
    · exact Or.inr ⟨HGP.out.symm.trans a, b⟩
  clear HGP
  generalize hro : RootsOut (w.alloc (.cells #[.int .i64 p.1, .int .i64 p.2.1, .slice sa sn sc, .slice ca cn cc] 27)) p = OUT at g
  have HO2 : Hid (∀ e w', OUT e w' → ((GP = true ∧ ∃ P : Nat, e = .returned (ptr P)) ∨ (GP = false ∧ e = .returned (.pointer none))) ∧ Below (w.alloc (.cells #[.int .i64 p.1, .int .i64 p.2.1, .slice sa sn sc, .slice ca cn cc] 27)).heap.size (w.alloc (.cells #[.int .i64 p.1, .int .i64 p.2.1, .slice sa sn sc, .slice ca cn cc] 27)) w') := fun e w' ho => HO.out _ e w' (by rw [hro]; exact ho)
  clear HO hro
  generalize p.1 = pw at *
  generalize p.2.1 = pv at *
  go_enter Tryd.func19, Tryd.ntmps19
  go_wp2_with fail
  refine g.mono ?_
  rintro e w1 ho
  obtain ⟨h1, hs⟩ := HO2.out e w1 ho
  have HB1 : Hid (Below w.heap.size w w1) := Below.step HB0.out HB0.out.size hs
  clear hs ho g HO2 HB0
  rcases h1 with ⟨rfl, P, rfl⟩ | ⟨rfl, rfl⟩
  · go_wp2_with fail
    go_ret
    exact ⟨rfl, HB1.out⟩
  · go_wp2_with fail
    go_ret
    exact ⟨rfl, HB1.out⟩
end Go.Proofs.YtjbolpfilgkbfaaDoor

namespace Go.Proofs.YtjbolpfilgkbfaaDoor
open Go Go.RowKit
open M
set_option linter.unusedVariables false

set_option maxRecDepth 100000 in
theorem bits_any (P : Nat) (pw pv M : Int) (x y : Value) (w : World) (h : Box4 w P 111 (.int .i64 pw) (.int .i64 pv) x y) (hM : pw * pv = M) (h0 : 0 ≤ M) (h1 : M ≤ 100000) :
    Calls Tryd.prog 116 #[ptr P] w fun e w' => e = .returned (.int .i64 M) ∧ ∃ n, w' = w.drewN n := by
  obtain ⟨a0, a1, a2, a3⟩ := h.cells
  have ah := h.heap
  have al := h.lt
  have hMw : IntKind.i64.wrap (pw * pv) = M := by rw [hM]; exact IntWalk.i64_in _ ⟨by omega, by omega⟩
  have hMw2 : IntKind.i64.wrap M = M := IntWalk.i64_in _ ⟨by omega, by omega⟩
  clear h
  go_enter Tryd.func116, Tryd.ntmps116
  go_wp2_with fail
  go_quiet (fail)
  go_wp2_with fail
  go_ret
  exact ⟨rfl, _, rfl⟩

set_option maxRecDepth 100000 in
theorem small_any (P : Nat) (pw pv M : Int) (x y : Value) (w : World) (h : Box4 w P 111 (.int .i64 pw) (.int .i64 pv) x y) (hM : pw * pv = M) (h0 : 0 ≤ M) (h1 : M ≤ 100000) :
    Calls Tryd.prog 83 #[ptr P] w fun e w' => e = .returned (.bool (decide (M ≤ 5))) ∧ Below w.heap.size w w' := by
  have g := bits_any P pw pv M x y w h hM h0 h1
  clear h hM
  go_enter Tryd.func83, Tryd.ntmps83
  go_wp2_with fail
  refine g.mono ?_
  rintro e w1 ⟨rfl, n, hn⟩
  have HB : Hid (Below w.heap.size w w1) := by rw [hn]; exact below_drew7 _ _ _
  clear hn g
  go_wp2_with fail
  go_ret
  exact ⟨rfl, HB.out⟩
set_option maxRecDepth 100000 in
theorem iIsSmall_any (v : Value) (p : Pg) (ok : PgOk p) (w : World) (hT : Tab w) (h : AtProg w v p) :
    Calls Tryd.prog 40 #[v] w fun e w' => e = .returned (.tuple #[.bool (smallP p), .bool (goodP p)]) ∧ Below w.heap.size w w' := by
  obtain ⟨sa, sn, sc, ca, cn, cc, rfl⟩ := h.shape
  have HB0 : Hid (Below w.heap.size w (w.alloc (.cells #[.int .i64 p.1, .int .i64 p.2.1, .slice sa sn sc, .slice ca cn cc] 27))) := (Below.refl _ _).alloc (Nat.le_refl _) _
  have g := rootsOf_any _ p ok _ (hT.below HB0.out hT.some) (h.below HB0.out)
  have hparts := @goodP_parts p
  have hsm : smallP p = (goodP p && decide (p.1 * p.2.1 ≤ 5)) := rfl
  clear h hT ok
  generalize hgp : goodP p = GP at *
  have HGP : Hid _ := hgp
  clear hgp
  have HO : Hid (∀ (w0 : World) e w', RootsOut w0 p e w' → ((GP = true ∧ ∃ (P : Nat) (x y : Value), e = .returned (ptr P) ∧ Box4 w' P 111 (.int .i64 p.1) (.int .i64 p.2.1) x y) ∨ (GP = false ∧ e = .returned (.pointer none))) ∧ Below w0.heap.size w0 w') := fun w0 e w' ho => by
    obtain ⟨h1, h2⟩ := ho
    refine ⟨?_, h2⟩
    rcases h1 with ⟨a, P, x, y, b, _, c⟩ | ⟨a, b⟩
    · exact Or.inl ⟨HGP.out.symm.trans a, P, x, y, b, c⟩
    · exact Or.inr ⟨HGP.out.symm.trans a, b⟩
  clear HGP
  generalize hro : RootsOut (w.alloc (.cells #[.int .i64 p.1, .int .i64 p.2.1, .slice sa sn sc, .slice ca cn cc] 27)) p = OUT at g
  have HO2 : Hid (∀ e w', OUT e w' → ((GP = true ∧ ∃ (P : Nat) (x y : Value), e = .returned (ptr P) ∧ Box4 w' P 111 (.int .i64 p.1) (.int .i64 p.2.1) x y) ∨ (GP = false ∧ e = .returned (.pointer none))) ∧ Below (w.alloc (.cells #[.int .i64 p.1, .int .i64 p.2.1, .slice sa sn sc, .slice ca cn cc] 27)).heap.size (w.alloc (.cells #[.int .i64 p.1, .int .i64 p.2.1, .slice sa sn sc, .slice ca cn cc] 27)) w') := fun e w' ho => HO.out _ e w' (by rw [hro]; exact ho)
  clear HO hro
  have HPT : Hid (GP = true → 1 ≤ p.1 ∧ p.1 ≤ 64 ∧ 1 ≤ p.2.1 ∧ p.2.1 ≤ 4) := fun hg => by
    obtain ⟨_, q0, q1, q2, q3, _⟩ := hparts hg
    exact ⟨q0, q1, q2, q3⟩
  rw [hsm]
  clear hparts hsm
  generalize p.1 = pw at *
  generalize p.2.1 = pv at *
  go_enter Tryd.func40, Tryd.ntmps40
  go_wp2_with fail
  refine g.mono ?_
  rintro e w1 ho
  obtain ⟨h1, hs⟩ := HO2.out e w1 ho
  have HB1 : Hid (Below w.heap.size w w1) := Below.step HB0.out HB0.out.size hs
  clear hs ho g HO2 HB0
  rcases h1 with ⟨rfl, P, x, y, rfl, hbx⟩ | ⟨rfl, rfl⟩
  · obtain ⟨q0, q1, q2, q3⟩ := HPT.out rfl
    have hm0 : 1 ≤ pw * pv := Int.le_trans (by omega : (1 : Int) ≤ 1 * 1) (Int.mul_le_mul q0 q2 (by omega) (by omega))
    have hm1 : pw * pv ≤ 256 := Int.le_trans (Int.mul_le_mul q1 q3 (by omega) (by omega)) (by omega)
    obtain ⟨M, hM⟩ : ∃ M : Int, pw * pv = M := ⟨_, rfl⟩
    have gs := small_any P pw pv M x y w1 hbx hM (by omega) (by omega)
    have HM : Hid (pw * pv = M) := hM
    clear hbx HPT hM hm0 hm1
    go_wp2_with fail
    refine gs.mono ?_
    rintro e w2 ⟨rfl, hs⟩
    have HB2 : Hid (Below w.heap.size w w2) := HB1.out.trans (hs.mono HB1.out.size)
    clear hs gs
    go_wp2_with fail
    go_ret2
    exact ⟨by rw [HM.out]; rfl, HB2.out⟩
  · clear HPT
    go_wp2_with fail
    go_ret2
    exact ⟨rfl, HB1.out⟩
end Go.Proofs.YtjbolpfilgkbfaaDoor

namespace Go.Proofs.YtjbolpfilgkbfaaDoor
open Go Go.RowKit
open M
set_option linter.unusedVariables false

theorem ns_pos {t : List Nd} (h : NsOk t) : ∀ x ∈ t, 0 ≤ x.2 := fun x hx => (h.1 x hx).2.2.1
theorem Rooted.old {w w' : World} {B : Nat} {p : Pg} {P : Nat} (h : Rooted w (fun k => B ≤ k ∧ k < w.heap.size) p P) (hb : Below w.heap.size w w') : Rooted w' (Old w') p P :=
  Rooted.frame h hb.size (fun k hk => Nat.lt_of_lt_of_le hk.2 hb.size) (fun k hk => hb.block k hk.2)
theorem Rooted.below {w w' : World} {p : Pg} {P : Nat} (h : Rooted w (Old w) p P) (hb : Below w.heap.size w w') : Rooted w' (Old w') p P :=
  Rooted.frame h hb.size (fun k hk => Nat.lt_of_lt_of_le hk hb.size) (fun k hk => hb.block k hk)
set_option maxRecDepth 100000 in
set_option maxHeartbeats 2000000 in
theorem isStart_any {k vars : Nat} {st : List Int} (hw : WordsIn k vars st) (p : Pg) (hp1 : p.1 = k) (hp2 : p.2.1 = vars) (hpos : ∀ x ∈ p.2.2.1, 0 ≤ x.2) (P : Nat) (w : World) (hT : Tab w) (hR : Rooted w (Old w) p P) :
    Calls Tryd.prog 74 #[ptr P, aggS st] w fun e w' => e = .returned (.bool (holdsL p.1 p.2.2.1 st)) ∧ Below w.heap.size w w' := by
  unfold aggS
  have HB0 : Hid (Below w.heap.size w (w.alloc (.cells #[.int .u64 (padW st 0), .int .u64 (padW st 1), .int .u64 (padW st 2), .int .u64 (padW st 3)] 90))) := (Below.refl _ _).alloc (Nat.le_refl _) _
  have y0 := box4_alloc w 90 (.int .u64 (padW st 0)) (.int .u64 (padW st 1)) (.int .u64 (padW st 2)) (.int .u64 (padW st 3))
  have HBD : Hid (Below w.heap.size w (w.alloc (.cells #[.int .u64 (padW st 0), .int .u64 (padW st 1), .int .u64 (padW st 2), .int .u64 (padW st 3)] 90)).drew) := HB0.out.drew
  obtain ⟨_, x, y, hx2, hrx, _⟩ := hR.below HBD.out
  obtain ⟨_, x', y', hx0, _, _⟩ := hR
  have hx1 := hx0.below HB0.out hx0.lt
  have hxe := hx0.below HBD.out hx0.lt
  have he := hxe.heap.symm.trans hx2.heap
  simp only [Option.some.injEq, Obj.cells.injEq, Array.mk.injEq, List.cons.injEq, and_true, true_and] at he
  obtain ⟨rfl, rfl⟩ := he
  rw [hp1, hp2] at hx1 hx2 hrx
  rw [hp1]
  have GC : Hid (Calls Tryd.prog 107 #[ptr P, x', .agg #[.int .u64 (padW st 0), .int .u64 (padW st 1), .int .u64 (padW st 2), .int .u64 (padW st 3)]] _ _) := holds_any hpos hw P x' y' x' _ (hT.below HBD.out hT.some) hx2 hrx
  obtain ⟨p0, p1, p2, p3⟩ := hx1.cells
  have ph := hx1.heap
  have pl := hx1.lt
  obtain ⟨q0, q1, q2, q3⟩ := y0.cells
  have qh := y0.heap
  have ql := y0.lt
  have h4 : (Tryd.prog.info? 90).map (·.size) = some 4 := by kernel_rfl
  clear hx0 hx1 hx2 hxe hrx y0 hT hpos hw
  generalize holdsL k p.2.2.1 st = V at *
  generalize padW st 0 = x0 at *
  generalize padW st 1 = x1 at *
  generalize padW st 2 = x2 at *
  generalize padW st 3 = x3 at *
  go_enter Tryd.func74, Tryd.ntmps74
  go_wp2_with fail
  go_region_with (go_at_call 107; refine Calls.mono GC.out ?_; rintro e w1 ⟨rfl, hs⟩; have HB1 : Hid (Below w.heap.size w w1) := Below.step HBD.out HBD.out.size hs; clear hs)
  all_goals
    go_wp2_with fail
    go_ret
    exact ⟨rfl, HB1.out⟩
end Go.Proofs.YtjbolpfilgkbfaaDoor

namespace Go.Proofs.YtjbolpfilgkbfaaDoor
open Go Go.RowKit
open M
set_option linter.unusedVariables false

set_option maxRecDepth 100000 in
set_option maxHeartbeats 2000000 in
theorem sEnabledL_any (v sv : Value) (p : Pg) (st : List Int) (hok : WsOk st) (hgs : goodS p st = true) (w : World) (h : AtProg w v p) (hs : StAt w sv st) :
    Calls Tryd.prog 76 #[v, sv] w fun e w' => ∃ u, e = .returned u ∧ OwnInts w' w.heap.size u (enF p.1 st p.2.2.2 0) ∧ Below w.heap.size w w' := by
  have hg2 := hgs
  unfold goodS at hg2
  rw [Bool.and_eq_true] at hg2
  obtain ⟨hgp, hst⟩ := hg2
  obtain ⟨_, _, _, _, _, _, hc6, hcm0⟩ := goodP_parts hgp
  have GH0 : ∀ (w1 : World) (u : Value) (c : Cm), c ∈ p.2.2.2 → Below w.heap.size w w1 → NodesAt w1 u c.1 → Calls Tryd.prog 75 #[v, u, sv] w1 fun e w' => e = .returned (.bool (holdsL p.1 c.1 st)) ∧ Below w1.heap.size w1 w' := fun w1 u c hc hb hu => by
    have h1 := hcm0 c hc
    unfold cmB at h1
    rw [Bool.and_eq_true] at h1
    have h2 := beq_iff_eq.1 h1.1
    exact sHolds_any v u sv p c.1 st (st_ok hok) (said_of hst (by omega)) w1 (h.below hb) hu (hs.below hb)
  obtain ⟨⟨hfw0, hfw1⟩, ⟨hfv0, hfv1⟩, s, c, rfl, hns, hcm⟩ := h
  obtain ⟨sa, sc, rfl⟩ := hns.shape
  obtain ⟨ca, cc, rfl, hcc⟩ := hcm.opened
  have HCS : Hid (∀ w1 : World, Below w.heap.size w w1 → ∀ (i : Nat) (d : Cm), p.2.2.2[i]? = some d → ∃ b off : Nat, ca = some ⟨b, off, none⟩ ∧ ∃ x y : Value, w1.cell? ⟨b, off + i * 2, none⟩ = some x ∧ w1.cell? ⟨b, off + i * 2 + 1, none⟩ = some y ∧ CmV w1 d x y) := fun w1 hb i d hi => by
    obtain ⟨b, off, e, hlt, x, y, h3, h4, h5⟩ := hcc i d hi
    exact ⟨b, off, e, x, y, by rw [hb.cell (p := ⟨b, off + i * 2, none⟩) hlt]; exact h3, by rw [hb.cell (p := ⟨b, off + i * 2 + 1, none⟩) hlt]; exact h4, cmV_frame _ _ _ _ _ h5 hb⟩
  have GH : Hid _ := GH0
  obtain ⟨ua, uc, rfl⟩ := hs.shape
  have HB0 : Hid (Below w.heap.size w (w.alloc (.cells #[.int .i64 p.1, .int .i64 p.2.1, .slice sa p.2.2.1.length sc, .slice ca p.2.2.2.length cc] 27))) := (Below.refl _ _).alloc (Nat.le_refl _) _
  have x0 := box4_alloc w 27 (.int .i64 p.1) (.int .i64 p.2.1) (.slice sa p.2.2.1.length sc) (.slice ca p.2.2.2.length cc)
  have HXP : Hid (∀ w3, Below (w.heap.size + 1) (w.alloc (.cells #[.int .i64 p.1, .int .i64 p.2.1, .slice sa p.2.2.1.length sc, .slice ca p.2.2.2.length cc] 27)) w3 → Box4 w3 w.heap.size 27 (.int .i64 p.1) (.int .i64 p.2.1) (.slice sa p.2.2.1.length sc) (.slice ca p.2.2.2.length cc)) := fun w3 hb3 => x0.below hb3 (by omega)
  have HBX0 : Hid (Below (w.heap.size + 1) (w.alloc (.cells #[.int .i64 p.1, .int .i64 p.2.1, .slice sa p.2.2.1.length sc, .slice ca p.2.2.2.length cc] 27)) (w.alloc (.cells #[.int .i64 p.1, .int .i64 p.2.1, .slice sa p.2.2.1.length sc, .slice ca p.2.2.2.length cc] 27))) := Below.refl _ _
  have hw0z : (w.alloc (.cells #[.int .i64 p.1, .int .i64 p.2.1, .slice sa p.2.2.1.length sc, .slice ca p.2.2.2.length cc] 27)).heap.size = w.heap.size + 1 := World.size_alloc _ _
  obtain ⟨a0, a1, a2, a3⟩ := x0.cells
  have ah := x0.heap
  have al := x0.lt
  obtain ⟨i0, hi, hz0, hz1, hz2⟩ := info_parts infoInt
  clear hcc hcm hns hs hok hgs hst hgp hcm0 GH0 x0
  generalize hcs : p.2.2.2 = cs at *
  generalize p.2.2.1.length = sn at *
  generalize st.length = n at *
  generalize p.1 = pw at *
  generalize p.2.1 = pv at *
  clear hcs
  go_enter Tryd.func76, Tryd.ntmps76
  go_wp2_with fail
  generalize w.alloc (.cells #[.int .i64 pw, .int .i64 pv, .slice sa sn sc, .slice ca cs.length cc] 27) = w0 at *
  go_loopw [5, 11] (fun v i wr => ∃ j : Nat, j ≤ cs.length ∧ i = .int .i64 j ∧ Hid (OwnInts wr (w.heap.size + 1) v (enF pw st (cs.take j) 0)) ∧ Hid (Below w.heap.size w wr) ∧ Hid (Below (w.heap.size + 1) w0 wr)) (fun _ i _ => cs.length - (intOf i).toNat)
  case atStart => exact ⟨0, by omega, rfl, World.ownsRow_nil _ _ _ _, HB0, HBX0⟩
  case round =>
    obtain ⟨j, hj, rfl, HO, HB, HBX⟩ := hrel
    clear HB0 HBX0 a0 a1 a2 a3 ah al
    by_cases hlt : j < cs.length
    · obtain ⟨d, hd⟩ : ∃ d, cs[j]? = some d := ⟨cs[j], List.getElem?_eq_getElem hlt⟩
      obtain ⟨b, off, rfl, x, y, cx, cy, hV⟩ := HCS.out wr HB.out j d hd
      have HD : Hid (cs[j]? = some d) := hd
      have hal := (Below.refl wr.heap.size wr).alloc (Nat.le_refl _) (.cells #[x, y] 102)
      have HB3 : Hid (Below w.heap.size w (wr.alloc (.cells #[x, y] 102))) := HB.out.alloc HB.out.size _
      have HBX3 : Hid (Below (w.heap.size + 1) w0 (wr.alloc (.cells #[x, y] 102))) := HBX.out.alloc (by have := HBX.out.size; omega) _
      have g := GH.out _ x d (List.mem_of_getElem? hd) HB3.out (hV.1.below hal)
      obtain ⟨a0, a1, a2, a3⟩ := (HXP.out _ HBX3.out).cells
      have ah := (HXP.out _ HBX3.out).heap
      have al := (HXP.out _ HBX3.out).lt
      obtain ⟨hV1, hV2⟩ := hV
      obtain ⟨xa, xc, rfl⟩ := hV1.shape
      obtain ⟨ya, yc, rfl⟩ := hV2.shape
      generalize hxn : d.1.length = xn at *
      generalize hyn : d.2.length = yn at *
      have HO3 : Hid (OwnInts (wr.alloc (.cells #[.slice xa xn xc, .slice ya yn yc] 102)) (w.heap.size + 1) u5 (enF pw st (cs.take j) 0)) := World.ownsRow.alloc HO.out _
      have hle : (enF pw st (cs.take j) 0).length ≤ 6 := Nat.le_trans (enF_len pw st _ 0) (by rw [List.length_take]; omega)
      have hszw := HB.out.size
      clear hV1 hV2 hal hd HCS GH HXP HB HBX HO hxn hyn
      cases hp : holdsL pw d.1 st with
      | false =>
        rw [hp] at g
        have HE : Hid (enF pw st (cs.take (j + 1)) 0 = enF pw st (cs.take j) 0) := enF_no HD.out hp
        clear hp HD
        go_wp2_with fail
        refine g.mono ?_
        rintro e w4 ⟨rfl, hs⟩
        have HB4 : Hid (Below w.heap.size w w4) := HB3.out.trans (hs.mono HB3.out.size)
        have HBX4 : Hid (Below (w.heap.size + 1) w0 w4) := HBX3.out.trans (hs.mono (by have := HBX3.out.size; omega))
        have HO4 : Hid (OwnInts w4 (w.heap.size + 1) u5 (enF pw st (cs.take (j + 1)) 0)) := by
          show OwnInts _ _ _ _
          rw [HE.out]
          exact owns_below HO3.out hs
        clear g hs a0 a1 a2 a3 ah al
        go_wp2_with fail
        go_roundw
        case rel => exact ⟨j + 1, by omega, by go_num, HO4, HB4, HBX4⟩
        case measure => simp [intOf]; omega
      | true =>
        rw [hp] at g
        have HE : Hid (enF pw st (cs.take (j + 1)) 0 = enF pw st (cs.take j) 0 ++ [(j : Int)]) := enF_yes HD.out hp
        clear hp HD
        go_wp2_with fail
        refine g.mono ?_
        rintro e w4 ⟨rfl, hs⟩
        have HB4 : Hid (Below w.heap.size w w4) := HB3.out.trans (hs.mono HB3.out.size)
        have HBX4 : Hid (Below (w.heap.size + 1) w0 w4) := HBX3.out.trans (hs.mono (by have := HBX3.out.size; omega))
        have HO4 : Hid (OwnInts w4 (w.heap.size + 1) u5 (enF pw st (cs.take j) 0)) := owns_below HO3.out hs
        have own1 : (w4.alloc (.cells #[.int .i64 j] 3)).ownsRow (w.heap.size + 1) 3 1 u5 (enF pw st (cs.take j) 0).length ((enF pw st (cs.take j) 0).map (Value.int .i64)) := World.ownsRow.alloc HO4.out _
        have cellsN := oneI_cells w4 j
        have hsz4 := HB4.out.size
        have hszx := HBX4.out.size
        clear g hs a0 a1 a2 a3 ah al
        generalize enF pw st (cs.take j) 0 = R at *
        go_wp2_with (at_builtin; refine wpList_append_own _ rfl _ _ 29 rfl (w.heap.size + 1) 3 i0 (.int .i64 0) 1 8 Tryd.underlying29 hi hz0 hz1 hz2 rfl (by decide) _ _ _ rfl own1 ⟨w4.heap.size, 0, none⟩ 1 1 [.int .i64 j] rfl rfl cellsN (ints_one [(j : Int)]) (by unfold maxLen; omega) (by omega) (by simp; omega) ?_)
        intro v7 w7 own7 grow7 _
        have HB7 : Hid (Below w.heap.size w w7) := (HB4.out.alloc HB4.out.size _).grown grow7 (by simp; omega) (fun k hk => by have := (HO4.out.lt k hk).1; omega)
        have HBX7 : Hid (Below (w.heap.size + 1) w0 w7) := (HBX4.out.alloc (by omega) _).grown grow7 (by simp; omega) (fun k hk => (HO4.out.lt k hk).1)
        have HO7 : Hid (OwnInts w7 (w.heap.size + 1) v7 (enF pw st (cs.take (j + 1)) 0)) := by
          show OwnInts _ _ _ _
          rw [HE.out]
          unfold OwnInts
          rw [List.map_append, List.length_append]
          exact own7
        clear own1 own7 grow7 cellsN
        go_wp2_with fail
        go_roundw
        case rel => exact ⟨j + 1, by omega, by go_num, HO7, HB7, HBX7⟩
        case measure => simp [intOf]; omega
    · obtain rfl : j = cs.length := by omega
      have HO2 : Hid (OwnInts wr (w.heap.size + 1) u5 (enF pw st cs 0)) := by
        have h1 := HO.out
        rw [List.take_length] at h1
        exact h1
      clear HO HCS GH HXP
      go_wp2_with fail
      go_ret
      exact ⟨_, rfl, own_weaken HO2.out (Nat.le_succ _), HB.out⟩
end Go.Proofs.YtjbolpfilgkbfaaDoor

namespace Go.Proofs.YtjbolpfilgkbfaaDoor
open Go Go.RowKit
open M
set_option linter.unusedVariables false

theorem ownIS_nil (w : World) (lo : Nat) (h : lo ≤ w.heap.size) : OwnIS w lo w.heap.size (.slice none 0 0) [] := rowIn_of (World.ownsRow_nil _ _ _ _)
set_option maxRecDepth 100000 in
set_option maxHeartbeats 2000000 in
theorem sEnabled_any (v sv : Value) (p : Pg) (st : List Int) (hok : WsOk st) (w : World) (h : AtProg w v p) (hs : StAt w sv st) :
    Calls Tryd.prog 29 #[v, sv] w fun e w' => ∃ r0, e = .returned (.tuple #[r0, .bool (goodS p st)]) ∧ OwnIS w' w.heap.size w'.heap.size r0 (enP p st) ∧ Below w.heap.size w w' := by
  have HS : Hid (∀ w1 : World, Below w.heap.size w w1 → Calls Tryd.prog 20 #[v] w1 fun e w' => e = .returned (.bool (goodP p)) ∧ Below w1.heap.size w1 w') := fun w1 hb => sGoodProg_any v p w1 (h.below hb)
  have HT : Hid (∀ w1 : World, Below w.heap.size w w1 → Calls Tryd.prog 64 #[v, sv] w1 fun e w' => e = .returned (.bool (stateP p st)) ∧ Below w1.heap.size w1 w') := fun w1 hb => sState_any v sv p st (st_ok hok) w1 (h.below hb) (hs.below hb)
  have HN : Hid (goodP p = true → stateP p st = true → ∀ (w1 : World), Below w.heap.size w w1 → Calls Tryd.prog 76 #[v, sv] w1 fun e w' => ∃ u, e = .returned u ∧ OwnInts w' w1.heap.size u (enF p.1 st p.2.2.2 0) ∧ Below w1.heap.size w1 w') := fun h1 h2 w1 hb => sEnabledL_any v sv p st hok (by unfold goodS; rw [h1, h2]; rfl) w1 (h.below hb) (hs.below hb)
  have hn0 : enP p st = if (goodP p && stateP p st) = true then enF p.1 st p.2.2.2 0 else [] := rfl
  have hg0 : goodS p st = (goodP p && stateP p st) := rfl
  obtain ⟨sa, sn, sc, ca, cn, cc, rfl⟩ := h.shape
  have HB0 : Hid (Below w.heap.size w (w.alloc (.cells #[.int .i64 p.1, .int .i64 p.2.1, .slice sa sn sc, .slice ca cn cc] 27))) := (Below.refl _ _).alloc (Nat.le_refl _) _
  have x0 := box4_alloc w 27 (.int .i64 p.1) (.int .i64 p.2.1) (.slice sa sn sc) (.slice ca cn cc)
  have HX0 : Hid _ := x0
  obtain ⟨ua, uc, rfl⟩ := hs.shape
  rw [hn0, hg0]
  clear h hs hok x0 hn0 hg0
  generalize enF p.1 st p.2.2.2 0 = NN at *
  generalize st.length = n at *
  generalize stateP p st = B2 at *
  generalize goodP p = B1 at *
  generalize p.1 = pw at *
  generalize p.2.1 = pv at *
  cases B1 with
  | false =>
    rw [Bool.false_and, if_neg (by decide)]
    clear HN HT HX0
    go_enter Tryd.func29, Tryd.ntmps29
    go_wp2_with fail
    refine (HS.out _ HB0.out).mono ?_
    rintro e w1 ⟨rfl, hs⟩
    have HB1 : Hid (Below w.heap.size w w1) := Below.step HB0.out HB0.out.size hs
    clear hs
    go_wp2_with fail
    go_ret2
    exact ⟨_, rfl, ownIS_nil _ _ HB1.out.size, HB1.out⟩
  | true =>
    cases B2 with
    | false =>
      rw [Bool.and_false, if_neg (by decide)]
      clear HN
      go_enter Tryd.func29, Tryd.ntmps29
      go_wp2_with fail
      refine (HS.out _ HB0.out).mono ?_
      generalize w.alloc (.cells #[.int .i64 pw, .int .i64 pv, .slice sa sn sc, .slice ca cn cc] 27) = w0 at *
      rintro e w1 ⟨rfl, hs⟩
      have HB1 : Hid (Below w.heap.size w w1) := Below.step HB0.out HB0.out.size hs
      have x1 := HX0.out.below hs HX0.out.lt
      obtain ⟨a0, a1, a2, a3⟩ := x1.cells
      have ah := x1.heap
      have al := x1.lt
      clear hs x1 HX0
      go_wp2_with fail
      refine (HT.out _ HB1.out).mono ?_
      rintro e w2 ⟨rfl, hs⟩
      have HB2 : Hid (Below w.heap.size w w2) := HB1.out.trans (hs.mono HB1.out.size)
      clear hs a0 a1 a2 a3 ah al
      go_wp2_with fail
      go_ret2
      exact ⟨_, rfl, ownIS_nil _ _ HB2.out.size, HB2.out⟩
    | true =>
      rw [Bool.and_true, if_pos rfl]
      have HN2 : Hid _ := HN.out rfl rfl
      clear HN
      go_enter Tryd.func29, Tryd.ntmps29
      go_wp2_with fail
      refine (HS.out _ HB0.out).mono ?_
      generalize w.alloc (.cells #[.int .i64 pw, .int .i64 pv, .slice sa sn sc, .slice ca cn cc] 27) = w0 at *
      rintro e w1 ⟨rfl, hs⟩
      have HB1 : Hid (Below w.heap.size w w1) := Below.step HB0.out HB0.out.size hs
      have x1 := HX0.out.below hs HX0.out.lt
      have HX1 : Hid _ := x1
      obtain ⟨a0, a1, a2, a3⟩ := x1.cells
      have ah := x1.heap
      have al := x1.lt
      clear hs x1 HX0
      go_wp2_with fail
      refine (HT.out _ HB1.out).mono ?_
      rintro e w2 ⟨rfl, hs⟩
      have HB2 : Hid (Below w.heap.size w w2) := HB1.out.trans (hs.mono HB1.out.size)
      have x2 := HX1.out.below hs HX1.out.lt
      clear a0 a1 a2 a3 ah al
      obtain ⟨a0, a1, a2, a3⟩ := x2.cells
      have ah := x2.heap
      have al := x2.lt
      clear hs x2 HX1
      go_wp2_with fail
      refine (HN2.out _ HB2.out).mono ?_
      rintro e w3 ⟨u, rfl, ho, hs⟩
      have HB3 : Hid (Below w.heap.size w w3) := HB2.out.trans (hs.mono HB2.out.size)
      have HO : Hid (OwnIS w3 w.heap.size w3.heap.size u NN) := rowIn_of (own_weaken ho HB2.out.size)
      clear ho hs a0 a1 a2 a3 ah al
      go_wp2_with fail
      go_ret2
      exact ⟨_, rfl, HO.out, HB3.out⟩
end Go.Proofs.YtjbolpfilgkbfaaDoor

namespace Go.Proofs.YtjbolpfilgkbfaaDoor
open Go Go.RowKit
open M
set_option linter.unusedVariables false

theorem CrAt.shape {w : World} {S : Nat → Prop} {wide vars : Int} {v : Value} {cs : List Ch} (h : CrAt w S wide vars v cs) : ∃ a n c, v = .slice a n c := by
  rcases h with ⟨_, rfl⟩ | ⟨g, cap, rfl, _⟩ <;> exact ⟨_, _, _, rfl⟩
set_option maxRecDepth 100000 in
set_option maxHeartbeats 2000000 in
theorem enabledIn_any {k vars : Nat} {st : List Int} (hw : WordsIn k vars st) (p : Pg) (hp1 : p.1 = k) (hp2 : p.2.1 = vars) (hpos : ∀ c ∈ p.2.2.2, ∀ x ∈ c.1, 0 ≤ x.2) (hc1 : 1 ≤ p.2.2.2.length) (hc6 : p.2.2.2.length ≤ 6) (P : Nat) (w : World) (hT : Tab w) (hR : Rooted w (Old w) p P) :
    Calls Tryd.prog 69 #[ptr P, aggS st] w fun e w' => ∃ u, e = .returned u ∧ OwnInts w' w.heap.size u (enF p.1 st p.2.2.2 0) ∧ Below w.heap.size w w' := by
  unfold aggS
  have hb0 : Below w.heap.size w (w.alloc (.cells #[.int .u64 (padW st 0), .int .u64 (padW st 1), .int .u64 (padW st 2), .int .u64 (padW st 3)] 90)) := (Below.refl _ _).alloc (Nat.le_refl _) _
  have HB0 : Hid _ := hb0
  have y0 := box4_alloc w 90 (.int .u64 (padW st 0)) (.int .u64 (padW st 1)) (.int .u64 (padW st 2)) (.int .u64 (padW st 3))
  obtain ⟨_, x, y, hx0, _, hcm⟩ := hR
  have GH : Hid (∀ (w1 : World) (z : Value) (c : Cm), c ∈ p.2.2.2 → Below w.heap.size w w1 → RtAt w1 (Old w1) p.1 p.2.1 2 c.1 z → Calls Tryd.prog 107 #[ptr P, z, .agg #[.int .u64 (padW st 0), .int .u64 (padW st 1), .int .u64 (padW st 2), .int .u64 (padW st 3)]] w1 fun e w' => e = .returned (.bool (holdsL p.1 c.1 st)) ∧ Below w1.heap.size w1 w') := fun w1 z c hc hb hz => by
    have hx1 := hx0.below hb hx0.lt
    rw [hp1, hp2] at hx1 hz
    rw [hp1]
    exact holds_any (hpos c hc) hw P x y z w1 (hT.below hb hT.some) hx1 hz
  have hcs : ∀ w1 : World, Below w.heap.size w w1 → CmrAt w1 (Old w1) p.1 p.2.1 y p.2.2.2 := fun w1 hb => hcm.frame hb.size (fun i hi => Nat.lt_of_lt_of_le hi hb.size) (fun i hi => hb.block i hi)
  obtain ⟨g, cap, rfl⟩ : ∃ g cap, y = .slice (some ⟨g, 0, none⟩) p.2.2.2.length cap := by
    rcases hcm with ⟨e, _⟩ | ⟨g, cap, e, _⟩
    · rw [e] at hc1
      simp at hc1
    · exact ⟨g, cap, e⟩
  have HCS : Hid (∀ w1 : World, Below w.heap.size w w1 → ∀ (i : Nat) (d : Cm), p.2.2.2[i]? = some d → ∃ x y : Value, w1.cell? ⟨g, i * 2, none⟩ = some x ∧ w1.cell? ⟨g, i * 2 + 1, none⟩ = some y ∧ CmEl w1 (Old w1) p.1 p.2.1 d x y) := fun w1 hb i d hi => by
    rcases hcs w1 hb with ⟨e, _⟩ | ⟨g', cap', e, _, _, hc⟩
    · rw [e] at hi
      simp at hi
    · injection e with e1 _ _
      injection e1 with e1
      injection e1 with e1
      subst e1
      exact hc i d hi
  have HXP : Hid (∀ w3, Below (w.heap.size + 1) (w.alloc (.cells #[.int .u64 (padW st 0), .int .u64 (padW st 1), .int .u64 (padW st 2), .int .u64 (padW st 3)] 90)) w3 → Box4 w3 w.heap.size 90 (.int .u64 (padW st 0)) (.int .u64 (padW st 1)) (.int .u64 (padW st 2)) (.int .u64 (padW st 3))) := fun w3 hb3 => y0.below hb3 (by omega)
  have HBX0 : Hid (Below (w.heap.size + 1) (w.alloc (.cells #[.int .u64 (padW st 0), .int .u64 (padW st 1), .int .u64 (padW st 2), .int .u64 (padW st 3)] 90)) (w.alloc (.cells #[.int .u64 (padW st 0), .int .u64 (padW st 1), .int .u64 (padW st 2), .int .u64 (padW st 3)] 90))) := Below.refl _ _
  have hx1 := hx0.below hb0 hx0.lt
  obtain ⟨p0, p1, p2, p3⟩ := hx1.cells
  have ph := hx1.heap
  have pl := hx1.lt
  obtain ⟨i0, hi, hz0, hz1, hz2⟩ := info_parts infoInt
  have h4 : (Tryd.prog.info? 90).map (·.size) = some 4 := by kernel_rfl
  have hw0z : (w.alloc (.cells #[.int .u64 (padW st 0), .int .u64 (padW st 1), .int .u64 (padW st 2), .int .u64 (padW st 3)] 90)).heap.size = w.heap.size + 1 := World.size_alloc _ _
  clear hx0 hx1 hcm hcs hw hT hpos y0 hb0
  generalize hcsx : p.2.2.2 = cs at *
  generalize p.1 = pw at *
  generalize p.2.1 = pv at *
  generalize padW st 0 = x0 at *
  generalize padW st 1 = x1 at *
  generalize padW st 2 = x2 at *
  generalize padW st 3 = x3 at *
  clear hcsx
  go_enter Tryd.func69, Tryd.ntmps69
  go_wp2_with fail
  generalize w.alloc (.cells #[.int .u64 x0, .int .u64 x1, .int .u64 x2, .int .u64 x3] 90) = w0 at *
  go_loopw [5, 13] (fun v i wr => ∃ j : Nat, j ≤ cs.length ∧ i = .int .i64 j ∧ Hid (OwnInts wr (w.heap.size + 1) v (enF pw st (cs.take j) 0)) ∧ Hid (Below w.heap.size w wr) ∧ Hid (Below (w.heap.size + 1) w0 wr)) (fun _ i _ => cs.length - (intOf i).toNat)
  case atStart => exact ⟨0, by omega, rfl, World.ownsRow_nil _ _ _ _, HB0, HBX0⟩
  case round =>
    obtain ⟨j, hj, rfl, HO, HB, HBX⟩ := hrel
    clear HB0 HBX0 p0 p1 p2 p3 ph pl
    by_cases hlt : j < cs.length
    · obtain ⟨d, hd⟩ : ∃ d, cs[j]? = some d := ⟨cs[j], List.getElem?_eq_getElem hlt⟩
      obtain ⟨x, y, cx, cy, hV⟩ := HCS.out wr HB.out j d hd
      have HD : Hid (cs[j]? = some d) := hd
      have hal := (Below.refl wr.heap.size wr).alloc (Nat.le_refl _) (.cells #[x, y] 108)
      have HB3 : Hid (Below w.heap.size w (wr.alloc (.cells #[x, y] 108))) := HB.out.alloc HB.out.size _
      have HBX3 : Hid (Below (w.heap.size + 1) w0 (wr.alloc (.cells #[x, y] 108))) := HBX.out.alloc (by have := HBX.out.size; omega) _
      have g := GH.out _ x d (List.mem_of_getElem? hd) HB3.out (hV.1.frame (fun i hi => Nat.lt_of_lt_of_le hi hal.size) (fun i hi => hal.block i hi))
      obtain ⟨a0, a1, a2, a3⟩ := (HXP.out _ HBX3.out).cells
      have ah := (HXP.out _ HBX3.out).heap
      have al := (HXP.out _ HBX3.out).lt
      obtain ⟨hV1, hV2⟩ := hV
      obtain ⟨_, xb, rfl, _⟩ := hV1
      obtain ⟨ya, yn, yc, rfl⟩ := hV2.shape
      have HO3 : Hid (OwnInts (wr.alloc (.cells #[ptr xb, .slice ya yn yc] 108)) (w.heap.size + 1) u5 (enF pw st (cs.take j) 0)) := World.ownsRow.alloc HO.out _
      have hle : (enF pw st (cs.take j) 0).length ≤ 6 := Nat.le_trans (enF_len pw st _ 0) (by rw [List.length_take]; omega)
      have hszw := HB.out.size
      clear hV2 hal hd HCS GH HXP HB HBX HO
      cases hp : holdsL pw d.1 st with
      | false =>
        rw [hp] at g
        have HE : Hid (enF pw st (cs.take (j + 1)) 0 = enF pw st (cs.take j) 0) := enF_no HD.out hp
        clear hp HD
        go_wp2_with fail
        refine g.mono ?_
        rintro e w4 ⟨rfl, hs⟩
        have HB4 : Hid (Below w.heap.size w w4) := HB3.out.trans (hs.mono HB3.out.size)
        have HBX4 : Hid (Below (w.heap.size + 1) w0 w4) := HBX3.out.trans (hs.mono (by have := HBX3.out.size; omega))
        have HO4 : Hid (OwnInts w4 (w.heap.size + 1) u5 (enF pw st (cs.take (j + 1)) 0)) := by
          show OwnInts _ _ _ _
          rw [HE.out]
          exact owns_below HO3.out hs
        clear g hs a0 a1 a2 a3 ah al
        go_wp2_with fail
        go_roundw
        case rel => exact ⟨j + 1, by omega, by go_num, HO4, HB4, HBX4⟩
        case measure => simp [intOf]; omega
      | true =>
        rw [hp] at g
        have HE : Hid (enF pw st (cs.take (j + 1)) 0 = enF pw st (cs.take j) 0 ++ [(j : Int)]) := enF_yes HD.out hp
        clear hp HD
        go_wp2_with fail
        refine g.mono ?_
        rintro e w4 ⟨rfl, hs⟩
        have HB4 : Hid (Below w.heap.size w w4) := HB3.out.trans (hs.mono HB3.out.size)
        have HBX4 : Hid (Below (w.heap.size + 1) w0 w4) := HBX3.out.trans (hs.mono (by have := HBX3.out.size; omega))
        have HO4 : Hid (OwnInts w4 (w.heap.size + 1) u5 (enF pw st (cs.take j) 0)) := owns_below HO3.out hs
        have own1 : (w4.alloc (.cells #[.int .i64 j] 3)).ownsRow (w.heap.size + 1) 3 1 u5 (enF pw st (cs.take j) 0).length ((enF pw st (cs.take j) 0).map (Value.int .i64)) := World.ownsRow.alloc HO4.out _
        have cellsN := oneI_cells w4 j
        have hsz4 := HB4.out.size
        have hszx := HBX4.out.size
        clear g hs a0 a1 a2 a3 ah al
        generalize enF pw st (cs.take j) 0 = R at *
        go_wp2_with (at_builtin; refine wpList_append_own _ rfl _ _ 29 rfl (w.heap.size + 1) 3 i0 (.int .i64 0) 1 8 Tryd.underlying29 hi hz0 hz1 hz2 rfl (by decide) _ _ _ rfl own1 ⟨w4.heap.size, 0, none⟩ 1 1 [.int .i64 j] rfl rfl cellsN (ints_one [(j : Int)]) (by unfold maxLen; omega) (by omega) (by simp; omega) ?_)
        intro v7 w7 own7 grow7 _
        have HB7 : Hid (Below w.heap.size w w7) := (HB4.out.alloc HB4.out.size _).grown grow7 (by simp; omega) (fun k hk => by have := (HO4.out.lt k hk).1; omega)
        have HBX7 : Hid (Below (w.heap.size + 1) w0 w7) := (HBX4.out.alloc (by omega) _).grown grow7 (by simp; omega) (fun k hk => (HO4.out.lt k hk).1)
        have HO7 : Hid (OwnInts w7 (w.heap.size + 1) v7 (enF pw st (cs.take (j + 1)) 0)) := by
          show OwnInts _ _ _ _
          rw [HE.out]
          unfold OwnInts
          rw [List.map_append, List.length_append]
          exact own7
        clear own1 own7 grow7 cellsN
        go_wp2_with fail
        go_roundw
        case rel => exact ⟨j + 1, by omega, by go_num, HO7, HB7, HBX7⟩
        case measure => simp [intOf]; omega
    · obtain rfl : j = cs.length := by omega
      have HO2 : Hid (OwnInts wr (w.heap.size + 1) u5 (enF pw st cs 0)) := by
        have h1 := HO.out
        rw [List.take_length] at h1
        exact h1
      clear HO HCS GH HXP
      go_wp2_with fail
      go_ret
      exact ⟨_, rfl, own_weaken HO2.out (Nat.le_succ _), HB.out⟩
end Go.Proofs.YtjbolpfilgkbfaaDoor

namespace Go.Proofs.YtjbolpfilgkbfaaDoor
open Go Go.RowKit
open M
set_option linter.unusedVariables false

/-- word v of the state of a number -/
def ofW (k : Nat) (no : Int) (v : Nat) : Int := no / 2 ^ (k * v) % 2 ^ k
/-- the state of a number -/
def ofL (k vars : Nat) (no : Int) : List Int := (List.range vars).map (ofW k no)
theorem ofL_len (k vars : Nat) (no : Int) : (ofL k vars no).length = vars := by simp [ofL]
theorem ofL_succ (k j : Nat) (no : Int) : ofL k (j + 1) no = ofL k j no ++ [ofW k no j] := by simp [ofL, List.range_succ]
theorem ofW_in (k : Nat) (no : Int) (v : Nat) : 0 ≤ ofW k no v ∧ ofW k no v < 2 ^ k := ⟨Int.emod_nonneg _ (by have := two_pos k; omega), Int.emod_lt_of_pos _ (two_pos k)⟩
theorem ofL_mem {k vars : Nat} {no : Int} : ∀ s ∈ ofL k vars no, 0 ≤ s ∧ s < 2 ^ k := by
  intro s hs
  obtain ⟨v, _, rfl⟩ := List.mem_map.1 hs
  exact ofW_in k no v
theorem two_mono {a b : Nat} (h : a ≤ b) : (2 : Int) ^ a ≤ 2 ^ b := by
  rw [pw_int, pw_int]
  exact pw_mono _ _ h
/-- behind its last word a number is nothing -/
theorem ofW_high {k vars v : Nat} {no : Int} (h0 : 0 ≤ no) (h1 : no < 2 ^ (k * vars)) (hv : vars ≤ v) : ofW k no v = 0 := by
  have hm : (2 : Int) ^ (k * vars) ≤ 2 ^ (k * v) := two_mono (Nat.mul_le_mul_left k hv)
  unfold ofW
  rw [Int.ediv_eq_zero_of_lt h0 (by omega)]
  simp
theorem padW_ofL {k vars : Nat} {no : Int} (h0 : 0 ≤ no) (h1 : no < 2 ^ (k * vars)) (v : Nat) : padW (ofL k vars no) v = ofW k no v := by
  unfold padW
  rw [List.getD_eq_getElem?_getD]
  by_cases hv : v < vars
  · simp [ofL, hv]
  · rw [ofW_high h0 h1 (by omega), List.getElem?_eq_none (by rw [ofL_len]; omega)]
    rfl
theorem shr_two (a : Int) (n : Nat) : a >>> n = a / 2 ^ n := by
  rw [Int.shiftRight_eq_div_pow]
  simp
end Go.Proofs.YtjbolpfilgkbfaaDoor

namespace Go.Proofs.YtjbolpfilgkbfaaDoor
open Go Go.RowKit
open M
set_option linter.unusedVariables false

theorem two_small {m : Nat} (h : m ≤ 5) : 1 ≤ (2 : Int) ^ m ∧ (2 : Int) ^ m ≤ 32 := by
  have h1 := two_pos m
  have h2 := two_mono h
  have h3 : (2 : Int) ^ 5 = 32 := by decide
  omega
set_option maxRecDepth 100000 in
theorem count_any (P m : Nat) (pw pv : Int) (x y : Value) (w : World) (h : Box4 w P 111 (.int .i64 pw) (.int .i64 pv) x y) (hM : pw * pv = (m : Int)) (hm : m ≤ 5) :
    Calls Tryd.prog 117 #[ptr P] w fun e w' => e = .returned (.int .i64 (2 ^ m)) ∧ Below w.heap.size w w' := by
  have g := bits_any P pw pv m x y w h hM (by omega) (by omega)
  obtain ⟨t1, t2⟩ := two_small hm
  have ew : wrap64 ((2 : Int) ^ m) = 2 ^ m := wrap64_in _ (by omega) (by omega)
  clear h hM
  go_enter Tryd.func117, Tryd.ntmps117
  go_wp2_with fail
  refine g.mono ?_
  rintro e w1 ⟨rfl, n, hn⟩
  have HB : Hid (Below w.heap.size w w1) := by rw [hn]; exact below_drew7 _ _ _
  clear hn g
  go_wp2_with fail
  go_ret
  exact ⟨rfl, HB.out⟩
set_option maxRecDepth 100000 in
theorem hasState_any (P m : Nat) (pw pv : Int) (x y : Value) (no : Int) (w : World) (h : Box4 w P 111 (.int .i64 pw) (.int .i64 pv) x y) (hM : pw * pv = (m : Int)) (hm : m ≤ 5) :
    Calls Tryd.prog 88 #[ptr P, .int .i64 no] w fun e w' => e = .returned (.bool (decide (0 ≤ no ∧ no < 2 ^ m))) ∧ Below w.heap.size w w' := by
  have g := count_any P m pw pv x y w h hM hm
  obtain ⟨t1, t2⟩ := two_small hm
  clear h hM
  by_cases h0 : 0 ≤ no
  · have he : decide (0 ≤ no ∧ no < 2 ^ m) = decide (no < 2 ^ m) := by simp [h0]
    rw [he]
    clear he
    generalize (2 : Int) ^ m = M at *
    go_enter Tryd.func88, Tryd.ntmps88
    go_wp2_with fail
    refine g.mono ?_
    rintro e w1 ⟨rfl, hs⟩
    have HB : Hid _ := hs
    clear hs g
    go_wp2_with fail
    go_ret
    exact ⟨rfl, HB.out⟩
  · have he : decide (0 ≤ no ∧ no < 2 ^ m) = false := decide_eq_false (by omega)
    rw [he]
    clear he g
    go_enter Tryd.func88, Tryd.ntmps88
    go_wp2_with fail
    go_ret
    exact ⟨rfl, Below.refl _ _⟩
set_option maxRecDepth 100000 in
theorem hasCommand_any (P : Nat) (x y z : Value) (a : Option Addr) (n c : Nat) (k : Int) (w : World) (h : Box4 w P 111 x y z (.slice a n c)) :
    Calls Tryd.prog 70 #[ptr P, .int .i64 k] w fun e w' => e = .returned (.bool (decide (0 ≤ k ∧ k < n))) ∧ Below w.heap.size w w' := by
  obtain ⟨p0, p1, p2, p3⟩ := h.cells
  have ph := h.heap
  have pl := h.lt
  clear h
  by_cases h0 : 0 ≤ k
  · have he : decide (0 ≤ k ∧ k < (n : Int)) = decide (k < (n : Int)) := by simp [h0]
    rw [he]
    clear he
    go_enter Tryd.func70, Tryd.ntmps70
    go_wp2_with fail
    go_ret
    exact ⟨rfl, Below.refl _ _⟩
  · have he : decide (0 ≤ k ∧ k < (n : Int)) = false := decide_eq_false (by omega)
    rw [he]
    clear he
    go_enter Tryd.func70, Tryd.ntmps70
    go_wp2_with fail
    go_ret
    exact ⟨rfl, Below.refl _ _⟩
/-- what smallRootsOf answers -/
def SROut (w : World) (p : Pg) (e : Ending) (w' : World) : Prop :=
  ((smallP p = true ∧ ∃ P : Nat, e = .returned (ptr P) ∧ Rooted w' (fun k => w.heap.size ≤ k ∧ k < w'.heap.size) p P) ∨ (smallP p = false ∧ e = .returned (.pointer none))) ∧ Below w.heap.size w w'
set_option maxRecDepth 100000 in
set_option maxHeartbeats 2000000 in
theorem smallRootsOf_any (v : Value) (p : Pg) (ok : PgOk p) (w : World) (hT : Tab w) (h : AtProg w v p) :
    Calls Tryd.prog 87 #[v] w (SROut w p) := by
  obtain ⟨sa, sn, sc, ca, cn, cc, rfl⟩ := h.shape
  have HB0 : Hid (Below w.heap.size w (w.alloc (.cells #[.int .i64 p.1, .int .i64 p.2.1, .slice sa sn sc, .slice ca cn cc] 27))) := (Below.refl _ _).alloc (Nat.le_refl _) _
  have hz0 : (w.alloc (.cells #[.int .i64 p.1, .int .i64 p.2.1, .slice sa sn sc, .slice ca cn cc] 27)).heap.size = w.heap.size + 1 := World.size_alloc _ _
  have g := rootsOf_full _ p ok _ (hT.below HB0.out hT.some) (h.below HB0.out)
  clear h hT ok
  go_enter Tryd.func87, Tryd.ntmps87
  go_wp2_with fail
  refine g.mono ?_
  generalize w.alloc (.cells #[.int .i64 p.1, .int .i64 p.2.1, .slice sa sn sc, .slice ca cn cc] 27) = w0 at *
  rintro e w1 ⟨ho, hb1⟩
  have HB1 : Hid (Below w.heap.size w w1) := Below.step HB0.out HB0.out.size hb1
  clear g
  rcases ho with ⟨hg, P, rfl, hroot⟩ | ⟨hg, rfl⟩
  · obtain ⟨k, u, e1, e2, q1, q2, q3, q4⟩ := goodP_nats hg
    have hsm : smallP p = decide (p.1 * p.2.1 ≤ 5) := by
      unfold smallP
      rw [hg, Bool.true_and]
    have HR : Hid (Rooted w1 (fun i => w0.heap.size ≤ i ∧ i < w1.heap.size) p P) := hroot
    obtain ⟨_, x, y, hx, _, _⟩ := hroot
    have hm0 : 0 ≤ p.1 * p.2.1 := Int.mul_nonneg (by omega) (by omega)
    have hm1 : p.1 * p.2.1 ≤ 64 * 4 := Int.mul_le_mul (by omega) (by omega) (by omega) (by omega)
    have gs := small_any P p.1 p.2.1 _ x y w1 hx rfl hm0 (by omega)
    have HSM : Hid (smallP p = decide (p.1 * p.2.1 ≤ 5)) := hsm
    have hz1 := hb1.size
    clear hx hg hsm hb1
    generalize hM : p.1 * p.2.1 = M at *
    go_wp2_with fail
    refine gs.mono ?_
    rintro e w2 ⟨rfl, hs2⟩
    have HB2 : Hid (Below w.heap.size w w2) := HB1.out.trans (hs2.mono HB1.out.size)
    have hz2 := hs2.size
    have HR2 : Hid (Rooted w2 (fun i => w.heap.size ≤ i ∧ i < w2.heap.size) p P) := Rooted.frame HR.out hs2.size (fun i hi => ⟨by omega, by omega⟩) (fun i hi => hs2.block i hi.2)
    clear gs hs2 HR
    by_cases h5 : M ≤ 5
    · rw [decide_eq_true h5] at HSM ⊢
      go_wp2_with fail
      go_ret
      exact ⟨Or.inl ⟨HSM.out, P, rfl, HR2.out⟩, HB2.out⟩
    · rw [decide_eq_false h5] at HSM ⊢
      go_wp2_with fail
      go_ret
      exact ⟨Or.inr ⟨HSM.out, rfl⟩, HB2.out⟩
  · have HSM : Hid (smallP p = false) := by
      show smallP p = false
      unfold smallP
      rw [hg, Bool.false_and]
    clear hg hb1
    go_wp2_with fail
    go_ret
    exact ⟨Or.inr ⟨HSM.out, rfl⟩, HB1.out⟩
end Go.Proofs.YtjbolpfilgkbfaaDoor

namespace Go.Proofs.YtjbolpfilgkbfaaDoor
open Go Go.RowKit
open M
set_option linter.unusedVariables false

def cmdAt (p : Pg) (n : Int) : Cm := p.2.2.2.getD n.toNat ([], [])
/-- whether a command is there and enabled -/
def stepB (p : Pg) (st : List Int) (n : Int) : Bool := decide (0 ≤ n ∧ n < (p.2.2.2.length : Int)) && holdsL p.1 (cmdAt p n).1 st
def nextP (p : Pg) (st : List Int) (n : Int) : List Int := doC p.1 st (cmdAt p n)
theorem cmdAt_in {p : Pg} {n : Int} (h : 0 ≤ n ∧ n < (p.2.2.2.length : Int)) : p.2.2.2[n.toNat]? = some (cmdAt p n) := by
  have hl : n.toNat < p.2.2.2.length := by omega
  unfold cmdAt
  rw [List.getD_eq_getElem?_getD, List.getElem?_eq_getElem hl]
  rfl
theorem step_en {p : Pg} {st : List Int} {n : Int} : n ∈ enF p.1 st p.2.2.2 0 ↔ stepB p st n = true := by
  rw [enF_mem]
  unfold stepB
  constructor
  · rintro ⟨j, c, h1, h2, h3⟩
    have hj := (List.getElem?_eq_some_iff.1 h1).1
    have hin : 0 ≤ n ∧ n < (p.2.2.2.length : Int) := by omega
    have h4 := cmdAt_in hin
    rw [show n.toNat = j from by omega, h1] at h4
    obtain rfl := Option.some.inj h4
    rw [decide_eq_true hin, h3]
    rfl
  · intro h
    rw [Bool.and_eq_true] at h
    have hin := of_decide_eq_true h.1
    exact ⟨n.toNat, cmdAt p n, cmdAt_in hin, by omega, h.2⟩
theorem padW_set {st : List Int} {i : Nat} (x : Int) (hi : i < st.length) (j : Nat) : padW (st.set i x) j = if j = i then x else padW st j := by
  unfold padW
  rw [List.getD_eq_getElem?_getD, List.getD_eq_getElem?_getD, List.getElem?_set]
  by_cases e : i = j
  · subst e
    simp [hi]
  · rw [if_neg e, if_neg (fun h => e h.symm)]
theorem boxS_set {w : World} {b i : Nat} {st : List Int} (h : BoxS w b st) (hi : i < st.length) (h4 : st.length ≤ 4) (x : Int) : BoxS (w.setCell ⟨b, i, none⟩ (.int .u64 x)) b (st.set i x) := by
  show Box4 _ _ _ _ _ _ _
  rw [padW_set x hi, padW_set x hi, padW_set x hi, padW_set x hi]
  rcases (show i = 0 ∨ i = 1 ∨ i = 2 ∨ i = 3 by omega) with rfl | rfl | rfl | rfl
  · exact h.set0 _
  · exact h.set1 _
  · exact h.set2 _
  · exact h.set3 _
set_option maxRecDepth 100000 in
set_option maxHeartbeats 4000000 in
theorem step_no {k vars : Nat} {st : List Int} (hw : WordsIn k vars st) (p : Pg) (hp1 : p.1 = k) (hp2 : p.2.1 = vars) (hpos : ∀ c ∈ p.2.2.2, ∀ x ∈ c.1, 0 ≤ x.2) (hc1 : 1 ≤ p.2.2.2.length) (hc6 : p.2.2.2.length ≤ 6) (P : Nat) (n : Int) (hno : stepB p st n = false) (w : World) (hT : Tab w) (hR : Rooted w (Old w) p P) :
    Calls Tryd.prog 62 #[ptr P, aggS st, .int .i64 n] w fun e w' => e = .returned (.tuple #[zeroS, .bool false]) ∧ Below w.heap.size w w' := by
  unfold aggS
  have hb2 : Below w.heap.size w ((w.alloc (.cells #[.int .u64 (padW st 0), .int .u64 (padW st 1), .int .u64 (padW st 2), .int .u64 (padW st 3)] 90)).alloc (.cells #[.int .u64 0, .int .u64 0, .int .u64 0, .int .u64 0] 90)) := ((Below.refl _ _).alloc (Nat.le_refl _) _).alloc (by rw [World.size_alloc]; omega) _
  have HB2 : Hid _ := hb2
  have s0 := (box4_alloc w 90 (.int .u64 (padW st 0)) (.int .u64 (padW st 1)) (.int .u64 (padW st 2)) (.int .u64 (padW st 3))).alloc (.cells #[.int .u64 0, .int .u64 0, .int .u64 0, .int .u64 0] 90)
  have z0 := box4_alloc (w.alloc (.cells #[.int .u64 (padW st 0), .int .u64 (padW st 1), .int .u64 (padW st 2), .int .u64 (padW st 3)] 90)) 90 (.int .u64 0) (.int .u64 0) (.int .u64 0) (.int .u64 0)
  simp only [World.size_alloc] at z0
  have hw0z : ((w.alloc (.cells #[.int .u64 (padW st 0), .int .u64 (padW st 1), .int .u64 (padW st 2), .int .u64 (padW st 3)] 90)).alloc (.cells #[.int .u64 0, .int .u64 0, .int .u64 0, .int .u64 0] 90)).heap.size = w.heap.size + 2 := by rw [World.size_alloc, World.size_alloc]
  obtain ⟨_, x, y, hx0, _, hcm⟩ := hR
  obtain ⟨g, cap, rfl⟩ : ∃ g cap, y = .slice (some ⟨g, 0, none⟩) p.2.2.2.length cap := by
    rcases hcm with ⟨e, _⟩ | ⟨g, cap, e, _⟩
    · rw [e] at hc1
      simp at hc1
    · exact ⟨g, cap, e⟩
  have hx2 := hx0.below hb2 hx0.lt
  obtain ⟨p0, p1, p2, p3⟩ := hx2.cells
  have ph := hx2.heap
  have pl := hx2.lt
  obtain ⟨q0, q1, q2, q3⟩ := s0.cells
  have qh := s0.heap
  have ql := s0.lt
  have h4 : (Tryd.prog.info? 90).map (·.size) = some 4 := by kernel_rfl
  have HZ : Hid _ := z0
  by_cases hin : 0 ≤ n ∧ n < (p.2.2.2.length : Int)
  · have hc := cmdAt_in hin
    obtain ⟨xx, yy, cx, cy, hel⟩ : ∃ xx yy : Value, w.cell? ⟨g, n.toNat * 2, none⟩ = some xx ∧ w.cell? ⟨g, n.toNat * 2 + 1, none⟩ = some yy ∧ CmEl w (Old w) p.1 p.2.1 (cmdAt p n) xx yy := by
      rcases hcm with ⟨e, _⟩ | ⟨g', cap', e, _, _, hcc⟩
      · rw [e] at hc
        simp at hc
      · injection e with e1 _ _
        injection e1 with e1
        injection e1 with e1
        subst e1
        exact hcc _ _ hc
    have hgl : g < w.heap.size := block_lt_of_cell cx
    have hh : holdsL p.1 (cmdAt p n).1 st = false := by
      unfold stepB at hno
      rw [decide_eq_true hin, Bool.true_and] at hno
      exact hno
    have cx2 : ((w.alloc (.cells #[.int .u64 (padW st 0), .int .u64 (padW st 1), .int .u64 (padW st 2), .int .u64 (padW st 3)] 90)).alloc (.cells #[.int .u64 0, .int .u64 0, .int .u64 0, .int .u64 0] 90)).cell? ⟨g, n.toNat * 2, none⟩ = some xx := by rw [hb2.cell (p := ⟨g, n.toNat * 2, none⟩) hgl]; exact cx
    have cA : ∀ d os', Calls Tryd.prog 70 #[ptr P, .int .i64 n] (Sort.grow (redrawn ((w.alloc (.cells #[.int .u64 (padW st 0), .int .u64 (padW st 1), .int .u64 (padW st 2), .int .u64 (padW st 3)] 90)).alloc (.cells #[.int .u64 0, .int .u64 0, .int .u64 0, .int .u64 0] 90)) d) os') fun e w'' => e = .returned (.bool true) ∧ ∃ q : Regrown, w'' = Sort.grow (redrawn ((w.alloc (.cells #[.int .u64 (padW st 0), .int .u64 (padW st 1), .int .u64 (padW st 2), .int .u64 (padW st 3)] 90)).alloc (.cells #[.int .u64 0, .int .u64 0, .int .u64 0, .int .u64 0] 90)) q.d) q.os := fun d os' => Calls.regrown_of ((hasCommand_any P _ _ _ _ _ _ n _ (hx2.below (below_regrown _ d os') hx2.lt)).mono fun e w' ⟨he, hw⟩ => ⟨by rw [he, decide_eq_true hin], hw⟩)
    have cC : ∀ d os', Calls Tryd.prog 107 #[ptr P, xx, .agg #[.int .u64 (padW st 0), .int .u64 (padW st 1), .int .u64 (padW st 2), .int .u64 (padW st 3)]] (Sort.grow (redrawn ((w.alloc (.cells #[.int .u64 (padW st 0), .int .u64 (padW st 1), .int .u64 (padW st 2), .int .u64 (padW st 3)] 90)).alloc (.cells #[.int .u64 0, .int .u64 0, .int .u64 0, .int .u64 0] 90)) d) os') fun e w'' => e = .returned (.bool false) ∧ ∃ q : Regrown, w'' = Sort.grow (redrawn ((w.alloc (.cells #[.int .u64 (padW st 0), .int .u64 (padW st 1), .int .u64 (padW st 2), .int .u64 (padW st 3)] 90)).alloc (.cells #[.int .u64 0, .int .u64 0, .int .u64 0, .int .u64 0] 90)) q.d) q.os := fun d os' => by
      have hbr := below_regrown ((w.alloc (.cells #[.int .u64 (padW st 0), .int .u64 (padW st 1), .int .u64 (padW st 2), .int .u64 (padW st 3)] 90)).alloc (.cells #[.int .u64 0, .int .u64 0, .int .u64 0, .int .u64 0] 90)) d os'
      have hb3 := hb2.trans (hbr.mono hb2.size)
      have hx3 := hx0.below hb3 hx0.lt
      have hz3 := hel.1.frame (S' := Old _) (fun i hi => Nat.lt_of_lt_of_le hi hb3.size) (fun i hi => hb3.block i hi)
      rw [hp1, hp2] at hx3 hz3
      have gg := holds_any (hpos _ (List.mem_of_getElem? hc)) hw P _ _ xx _ (hT.below hb3 hT.some) hx3 hz3
      rw [hp1] at hh
      rw [hh] at gg
      exact Calls.regrown_of gg
    obtain ⟨_, xb, rfl, _⟩ := hel.1
    obtain ⟨m, rfl⟩ : ∃ m : Nat, n = m := ⟨n.toNat, by omega⟩
    rw [Int.toNat_natCast] at cx2
    have hml : m < p.2.2.2.length := by omega
    have hnn : ((m : Int) < (p.2.2.2.length : Int)) := hin.2
    have pr := cell_regrown cx2
    have p3r := cell_regrown p3
    have q0r := cell_regrown q0
    have q1r := cell_regrown q1
    have q2r := cell_regrown q2
    have q3r := cell_regrown q3
    clear hcm hx0 hx2 hT hw hpos s0 z0 hb2 hno hc cx cy hel hh hp1 hp2
    generalize p.2.2.2.length = L at *
    generalize padW st 0 = x0 at *
    generalize padW st 1 = x1 at *
    generalize padW st 2 = x2 at *
    generalize padW st 3 = x3 at *
    go_enter Tryd.func62, Tryd.ntmps62
    go_wp2_with fail
    generalize (w.alloc (.cells #[.int .u64 x0, .int .u64 x1, .int .u64 x2, .int .u64 x3] 90)).alloc (.cells #[.int .u64 0, .int .u64 0, .int .u64 0, .int .u64 0] 90) = w0 at *
    refine wp_region_quiet_below (by kernel_rfl) (by kernel_rfl) ?_
    iterate 6 (go_big_quiet_step (exact cA _ _))
    repeat (go_big_quiet_step (exact cC _ _))
    refine wpQuiet_nil ?_
    intro _ hw'
    obtain ⟨⟨dq, osq⟩, hw''⟩ := hw'
    subst hw''
    have hbq := below_regrown w0 dq osq
    have HBQ : Hid (Below w.heap.size w (Sort.grow (redrawn w0 dq) osq)) := HB2.out.trans (hbq.mono HB2.out.size)
    have HZQ : Hid _ := HZ.out.below hbq HZ.out.lt
    obtain ⟨z0, z1, z2, z3⟩ := HZQ.out.cells
    have zh := HZQ.out.heap
    have zl := HZQ.out.lt
    have f0 := HZQ.out.frozen 0
    have f1 := HZQ.out.frozen 1
    have f2 := HZQ.out.frozen 2
    have f3 := HZQ.out.frozen 3
    clear hbq p0 p1 p2 p3 ph pl q0 q1 q2 q3 qh ql
    generalize Sort.grow (redrawn w0 dq) osq = w1 at *
    go_wp2_with fail
    refine bodyPost_ret (results_a4 rfl _ _ _ _ _ _ rfl ((((HZQ.out.set0 (.int .u64 0)).set1 (.int .u64 0)).set2 (.int .u64 0)).set3 (.int .u64 0)).heap) rfl ?_
    exact ⟨rfl, set4_below HBQ.out (Nat.le_succ _) _ _ _ _⟩
  · have cA : ∀ d os', Calls Tryd.prog 70 #[ptr P, .int .i64 n] (Sort.grow (redrawn ((w.alloc (.cells #[.int .u64 (padW st 0), .int .u64 (padW st 1), .int .u64 (padW st 2), .int .u64 (padW st 3)] 90)).alloc (.cells #[.int .u64 0, .int .u64 0, .int .u64 0, .int .u64 0] 90)) d) os') fun e w'' => e = .returned (.bool false) ∧ ∃ q : Regrown, w'' = Sort.grow (redrawn ((w.alloc (.cells #[.int .u64 (padW st 0), .int .u64 (padW st 1), .int .u64 (padW st 2), .int .u64 (padW st 3)] 90)).alloc (.cells #[.int .u64 0, .int .u64 0, .int .u64 0, .int .u64 0] 90)) q.d) q.os := fun d os' => Calls.regrown_of ((hasCommand_any P _ _ _ _ _ _ n _ (hx2.below (below_regrown _ d os') hx2.lt)).mono fun e w' ⟨he, hw⟩ => ⟨by rw [he, decide_eq_false hin], hw⟩)
    clear hcm hx0 hx2 hT hw hpos s0 z0 hb2 hno
    generalize padW st 0 = x0 at *
    generalize padW st 1 = x1 at *
    generalize padW st 2 = x2 at *
    generalize padW st 3 = x3 at *
    go_enter Tryd.func62, Tryd.ntmps62
    go_wp2_with fail
    generalize (w.alloc (.cells #[.int .u64 x0, .int .u64 x1, .int .u64 x2, .int .u64 x3] 90)).alloc (.cells #[.int .u64 0, .int .u64 0, .int .u64 0, .int .u64 0] 90) = w0 at *
    refine wp_region_quiet_below (by kernel_rfl) (by kernel_rfl) ?_
    repeat (go_big_quiet_step (exact cA _ _))
    refine wpQuiet_nil ?_
    intro _ hw'
    obtain ⟨⟨dq, osq⟩, hw''⟩ := hw'
    subst hw''
    have hbq := below_regrown w0 dq osq
    have HBQ : Hid (Below w.heap.size w (Sort.grow (redrawn w0 dq) osq)) := HB2.out.trans (hbq.mono HB2.out.size)
    have HZQ : Hid _ := HZ.out.below hbq HZ.out.lt
    obtain ⟨z0, z1, z2, z3⟩ := HZQ.out.cells
    have zh := HZQ.out.heap
    have zl := HZQ.out.lt
    have f0 := HZQ.out.frozen 0
    have f1 := HZQ.out.frozen 1
    have f2 := HZQ.out.frozen 2
    have f3 := HZQ.out.frozen 3
    clear hbq p0 p1 p2 p3 ph pl q0 q1 q2 q3 qh ql
    generalize Sort.grow (redrawn w0 dq) osq = w1 at *
    go_wp2_with fail
    refine bodyPost_ret (results_a4 rfl _ _ _ _ _ _ rfl ((((HZQ.out.set0 (.int .u64 0)).set1 (.int .u64 0)).set2 (.int .u64 0)).set3 (.int .u64 0)).heap) rfl ?_
    exact ⟨rfl, set4_below HBQ.out (Nat.le_succ _) _ _ _ _⟩
end Go.Proofs.YtjbolpfilgkbfaaDoor

namespace Go.Proofs.YtjbolpfilgkbfaaDoor
open Go Go.RowKit
open M
set_option linter.unusedVariables false

/-- two rows that lie in no one block -/
def Ap2 (r v : Value) : Prop := ∀ k, r.ownBlock = some k → v.ownBlock ≠ some k
theorem ap2_nil (v : Value) : Ap2 (.slice none 0 0) v := fun k hk => by simp [Value.ownBlock] at hk
def touchB (p : Pg) (n : Int) : Bool := goodP p && decide (0 ≤ n ∧ n < (p.2.2.2.length : Int))
def touchR (p : Pg) (n : Int) : List Int := if touchB p n = true then readsL (cmdAt p n) else []
def touchW (p : Pg) (n : Int) : List Int := if touchB p n = true then writesL (cmdAt p n) else []
theorem touchR_len (p : Pg) (n : Int) : (touchR p n).length ≤ 1048576 := by
  unfold touchR
  split
  · have := sorted4_len (readF (cmdAt p n))
    unfold readsL
    omega
  · simp
theorem touchW_len {p : Pg} {n : Int} (ok : PgOk p) : (touchW p n).length ≤ 1048576 := by
  unfold touchW
  split
  · rename_i h
    unfold touchB at h
    rw [Bool.and_eq_true] at h
    have := (ok.2.2.2.2 _ (List.mem_of_getElem? (cmdAt_in (of_decide_eq_true h.2)))).2.1
    unfold writesL
    rw [List.length_map]
    exact this
  · simp
theorem ns_vars {wide vars : Int} {t : List Nd} (hk : 0 < kindL wide vars t) (hv : vars ≤ 4) (ht : NsOk t) : (∀ x ∈ t, x.1 = 2 → 0 ≤ x.2 ∧ x.2 < 4) ∧ 1 ≤ t.length := by
  obtain ⟨_, _, _, h1, _, r, _, k1, k2, _⟩ := root_tree hk
  refine ⟨fun x hx h2 => ?_, h1⟩
  have a := ok_vars k1 x (by rw [k2]; exact hx) h2
  have b := (ht.1 x hx).2.2.1
  omega
theorem l2Vars_at {wide vars : Int} {t : List Nd} (hk : 0 < kindL wide vars t) (hv : vars ≤ 4) (ht : NsOk t) (u : Value) (w : World) (hu : NodesAt w u t) :
    Calls Tryd.prog 79 #[u] w fun e w' => ∃ v, e = .returned v ∧ VarsOwn w' w.heap.size v (sorted4 (fun i => decide (((2, i) : Nd) ∈ t))) ∧ Below w.heap.size w w' := by
  obtain ⟨h4, h1⟩ := ns_vars hk hv ht
  rw [← varsL_sorted t.length t rfl h4]
  obtain ⟨hok, _, hN⟩ := hu
  rcases hN with ⟨rfl, _⟩ | ⟨b, off, cap, rfl, hlt, hc⟩
  · simp at h1
  · exact l2Vars_in b off cap t ht.2 hok (fun x hx h2 => by have := h4 x hx h2; omega) w hlt hc
set_option maxRecDepth 100000 in
set_option maxHeartbeats 8000000 in
theorem sTouched_any (v : Value) (p : Pg) (ok : PgOk p) (n : Int) (hn : Fit n) (w : World) (h : AtProg w v p) :
    Calls Tryd.prog 34 #[v, .int .i64 n] w fun e w' => ∃ r0 r1, e = .returned (.tuple #[r0, r1, .bool (touchB p n)]) ∧ OwnIS w' w.heap.size w'.heap.size r0 (touchR p n) ∧ OwnIS w' w.heap.size w'.heap.size r1 (touchW p n) ∧ Ap2 r0 r1 ∧ Below w.heap.size w w' := by
  obtain ⟨hn0, hn1⟩ := hn
  have HS : Hid (∀ w1 : World, Below w.heap.size w w1 → Calls Tryd.prog 20 #[v] w1 fun e w' => e = .returned (.bool (goodP p)) ∧ Below w1.heap.size w1 w') := fun w1 hb => sGoodProg_any v p w1 (h.below hb)
  obtain ⟨⟨hfw0, hfw1⟩, ⟨hfv0, hfv1⟩, s, c, rfl, hns, hcm⟩ := id h
  obtain ⟨sa, sc, rfl⟩ := hns.shape
  obtain ⟨ca, cc, rfl, hcc⟩ := hcm.opened
  have hcl := ok.2.2.2.1
  have HB0 : Hid (Below w.heap.size w (w.alloc (.cells #[.int .i64 p.1, .int .i64 p.2.1, .slice sa p.2.2.1.length sc, .slice ca p.2.2.2.length cc] 27))) := (Below.refl _ _).alloc (Nat.le_refl _) _
  have x0 := box4_alloc w 27 (.int .i64 p.1) (.int .i64 p.2.1) (.slice sa p.2.2.1.length sc) (.slice ca p.2.2.2.length cc)
  have HX0 : Hid _ := x0
  clear x0
  cases hgp : goodP p with
  | false =>
    have HFB : Hid (touchB p n = false) := by
      show touchB p n = false
      unfold touchB
      rw [hgp, Bool.false_and]
    have HR : Hid (touchR p n = []) := by
      show touchR p n = []
      unfold touchR
      rw [HFB.out, if_neg (by decide)]
    have HW : Hid (touchW p n = []) := by
      show touchW p n = []
      unfold touchW
      rw [HFB.out, if_neg (by decide)]
    rw [hgp] at HS
    clear HX0 hgp hcc hcm hns h ok hcl
    generalize p.2.2.1.length = sn at *
    generalize p.2.2.2.length = cn at *
    generalize p.1 = pw at *
    generalize p.2.1 = pv at *
    go_enter Tryd.func34, Tryd.ntmps34
    go_wp2_with fail
    refine (HS.out _ HB0.out).mono ?_
    rintro e w1 ⟨rfl, hs⟩
    have HB1 : Hid (Below w.heap.size w w1) := Below.step HB0.out HB0.out.size hs
    clear hs
    go_wp2_with fail
    go_ret3
    exact ⟨_, _, by rw [HFB.out]; rfl, by rw [HR.out]; exact ownIS_nil _ _ HB1.out.size, by rw [HW.out]; exact ownIS_nil _ _ HB1.out.size, ap2_nil _, HB1.out⟩
  | true =>
    rw [hgp] at HS
    by_cases hin : 0 ≤ n ∧ n < (p.2.2.2.length : Int)
    case neg =>
      have HFB : Hid (touchB p n = false) := by
        show touchB p n = false
        unfold touchB
        rw [decide_eq_false hin, Bool.and_false]
      have HR : Hid (touchR p n = []) := by
        show touchR p n = []
        unfold touchR
        rw [HFB.out, if_neg (by decide)]
      have HW : Hid (touchW p n = []) := by
        show touchW p n = []
        unfold touchW
        rw [HFB.out, if_neg (by decide)]
      clear hgp hcc hcm hns h ok
      generalize p.2.2.1.length = sn at *
      generalize p.2.2.2.length = cn at *
      generalize p.1 = pw at *
      generalize p.2.1 = pv at *
      go_enter Tryd.func34, Tryd.ntmps34
      go_wp2_with fail
      refine (HS.out _ HB0.out).mono ?_
      generalize w.alloc (.cells #[.int .i64 pw, .int .i64 pv, .slice sa sn sc, .slice ca cn cc] 27) = w0 at *
      rintro e w1 ⟨rfl, hs⟩
      have HB1 : Hid (Below w.heap.size w w1) := Below.step HB0.out HB0.out.size hs
      have x1 := HX0.out.below hs HX0.out.lt
      obtain ⟨a0, a1, a2, a3⟩ := x1.cells
      have ah := x1.heap
      have al := x1.lt
      have g := l1In_any n 0 ((cn : Int) - 1) w1
      rw [decide_eq_false (by omega)] at g
      clear hs x1 HX0
      go_wp2_with fail
      refine g.mono ?_
      rintro e w2 ⟨rfl, rfl⟩
      clear g
      go_wp2_with fail
      go_ret3
      exact ⟨_, _, by rw [HFB.out]; rfl, by rw [HR.out]; exact ownIS_nil _ _ HB1.out.size, by rw [HW.out]; exact ownIS_nil _ _ HB1.out.size, ap2_nil _, HB1.out⟩
    have hc := cmdAt_in hin
    have hcmem := List.mem_of_getElem? hc
    have hcok := ok.2.2.2.2 _ hcmem
    obtain ⟨_, q0, q1, q2, q3, _, hc6, hcm0⟩ := goodP_parts hgp
    have hcb := hcm0 _ hcmem
    unfold cmB at hcb
    rw [Bool.and_eq_true] at hcb
    have hch := chsB_mem _ _ _ _ hcb.2
    have hchl := chsB_len _ _ _ _ hcb.2 (by omega)
    have hk2 := beq_iff_eq.1 hcb.1
    obtain ⟨pb, poff, rfl, hplt, xx, yy, cx, cy, hV⟩ := hcc _ _ hc
    obtain ⟨hV1, hV2⟩ := hV
    have G1 : Hid (∀ w1 : World, Below w.heap.size w w1 → Calls Tryd.prog 79 #[xx] w1 fun e w' => ∃ v, e = .returned v ∧ VarsOwn w' w1.heap.size v (sorted4 (readJ (cmdAt p n) 0)) ∧ Below w1.heap.size w1 w') := fun w1 hb => by
      rw [readJ_zero]
      exact l2Vars_at (wide := p.1) (vars := p.2.1) (by omega) q3 hcok.1 xx w1 (hV1.below hb)
    have G2 : Hid (∀ (w1 : World) (u : Value) (d : Ch), d ∈ (cmdAt p n).2 → NodesAt w1 u d.2 → Calls Tryd.prog 79 #[u] w1 fun e w' => ∃ v, e = .returned v ∧ VarsOwn w' w1.heap.size v (sorted4 (fun i => decide (((2, i) : Nd) ∈ d.2))) ∧ Below w1.heap.size w1 w') := fun w1 u d hd hu => l2Vars_at (wide := p.1) (vars := p.2.1) (by have := hch d hd; omega) q3 (hcok.2.2 d hd).2 u w1 hu
    obtain ⟨ya, yc, rfl, hyc⟩ := hV2.opened
    have HCH : Hid (∀ (i : Nat) (d : Ch), (cmdAt p n).2[i]? = some d → ∃ (b off : Nat) (y : Value), ya = some ⟨b, off, none⟩ ∧ ∀ w1 : World, Below w.heap.size w w1 → w1.cell? ⟨b, off + i * 2, none⟩ = some (.int .i64 d.1) ∧ w1.cell? ⟨b, off + i * 2 + 1, none⟩ = some y ∧ NodesAt w1 y d.2) := fun i d hi => by
      obtain ⟨b, off, e, hlt, x, y, h3, h4, h5⟩ := hyc i d hi
      obtain ⟨_, rfl, h6⟩ := h5
      exact ⟨b, off, y, e, fun w1 hb' => ⟨by rw [hb'.cell (p := ⟨b, off + i * 2, none⟩) hlt]; exact h3, by rw [hb'.cell (p := ⟨b, off + i * 2 + 1, none⟩) hlt]; exact h4, h6.below hb'⟩⟩
    have HCX : Hid (∀ w1 : World, Below w.heap.size w w1 → w1.cell? ⟨pb, poff + n.toNat * 2, none⟩ = some xx ∧ w1.cell? ⟨pb, poff + n.toNat * 2 + 1, none⟩ = some (.slice ya (cmdAt p n).2.length yc)) := fun w1 hb' => ⟨by rw [hb'.cell (p := ⟨pb, poff + n.toNat * 2, none⟩) hplt]; exact cx, by rw [hb'.cell (p := ⟨pb, poff + n.toNat * 2 + 1, none⟩) hplt]; exact cy⟩
    have HIN : Hid (∀ d ∈ (cmdAt p n).2, 0 ≤ d.1 ∧ d.1 < 4) := fun d hd => by
      have := hch d hd
      omega
    have HFB : Hid (touchB p n = true) := by
      show touchB p n = true
      unfold touchB
      rw [hgp, decide_eq_true hin]
      rfl
    have HR : Hid (touchR p n = sorted4 (readJ (cmdAt p n) (cmdAt p n).2.length)) := by
      show touchR p n = _
      unfold touchR
      rw [HFB.out, if_pos rfl, readJ_all]
      rfl
    have HW : Hid (touchW p n = (cmdAt p n).2.map (fun x => x.1)) := by
      show touchW p n = _
      unfold touchW
      rw [HFB.out, if_pos rfl]
      rfl
    have HJ : Hid (∀ (j : Nat) (d : Ch), (cmdAt p n).2[j]? = some d → sorted4 (fun i => readJ (cmdAt p n) j i || decide (i ∈ sorted4 (fun i => decide (((2, i) : Nd) ∈ d.2)))) = sorted4 (readJ (cmdAt p n) (j + 1))) := fun j d hd => by
      rw [readJ_succ hd]
      apply sorted4_congr
      intro i h0 h4
      congr 1
      have hm := sorted4_mem (fun i => decide (((2, i) : Nd) ∈ d.2)) i
      cases hx : decide (((2, i) : Nd) ∈ d.2) with
      | true => exact decide_eq_true (hm.2 ⟨⟨h0, h4⟩, hx⟩)
      | false => exact decide_eq_false (fun hh => by have := (hm.1 hh).2; rw [hx] at this; cases this)
    obtain ⟨xa, xc, rfl⟩ := hV1.shape
    have hchl4 : (cmdAt p n).2.length ≤ 4 := by omega
    obtain ⟨m, rfl⟩ : ∃ m : Nat, n = m := ⟨n.toNat, by omega⟩
    rw [Int.toNat_natCast] at HCX
    have hnn : ((m : Int) < (p.2.2.2.length : Int)) := hin.2
    obtain ⟨i0, hi, hz0, hz1, hz2⟩ := info_parts infoInt
    clear hgp hcc hcm hns h ok hc hcmem hcok q0 q1 q2 q3 hcm0 hcb hch hchl hk2 hplt cx cy hV1 hV2 hyc
    generalize hcmd : cmdAt p m = cmd at *
    clear hcmd
    generalize p.2.2.1.length = sn at *
    generalize p.2.2.2.length = cn at *
    generalize p.1 = pw at *
    generalize p.2.1 = pv at *
    generalize cmd.1.length = xn at *
    have g := fun w1 => l1In_any (m : Int) 0 ((cn : Int) - 1) w1
    rw [decide_eq_true (by omega)] at g
    have GI : Hid _ := g
    clear g
    go_enter Tryd.func34, Tryd.ntmps34
    go_wp2_with fail
    refine (HS.out _ HB0.out).mono ?_
    generalize w.alloc (.cells #[.int .i64 pw, .int .i64 pv, .slice sa sn sc, .slice (some ⟨pb, poff, none⟩) cn cc] 27) = w0 at *
    rintro e w1 ⟨rfl, hs⟩
    have HB1 : Hid (Below w.heap.size w w1) := Below.step HB0.out HB0.out.size hs
    have x1 := HX0.out.below hs HX0.out.lt
    have HX1 : Hid _ := x1
    obtain ⟨a0, a1, a2, a3⟩ := x1.cells
    have ah := x1.heap
    have al := x1.lt
    obtain ⟨cx1, cy1⟩ := HCX.out _ HB1.out
    clear hs x1 HX0 HS
    go_wp2_with fail
    refine (GI.out _).mono ?_
    rintro e w2 ⟨rfl, rfl⟩
    go_wp2_with fail
    refine (G1.out _ HB1.out).mono ?_
    rintro e w3 ⟨r, rfl, hr, hs⟩
    have HB3 : Hid (Below w.heap.size w w3) := HB1.out.trans (hs.mono HB1.out.size)
    have x3 := HX1.out.below hs HX1.out.lt
    clear a0 a1 a2 a3 ah al cx1 cy1
    obtain ⟨a0, a1, a2, a3⟩ := x3.cells
    have ah := x3.heap
    have al := x3.lt
    obtain ⟨cx1, cy1⟩ := HCX.out _ HB3.out
    have HR3 : Hid (VarsOwn w3 w.heap.size r (sorted4 (readJ cmd 0))) := ⟨own_weaken hr.1 HB1.out.size, hr.2⟩
    obtain ⟨ra, rn, rc, rfl⟩ : ∃ a n c, r = .slice a n c := by
      rcases hr.1.2 with ⟨rfl, _⟩ | ⟨_, _, _, rfl, _⟩ <;> exact ⟨_, _, _, rfl⟩
    clear hs x3 HX1 hr GI G1 HCX
    go_wp2_with fail
    have HW3 : Hid (OwnInts w3 w.heap.size (.slice none 0 0) ((cmd.2.take 0).map (fun x => x.1))) := World.ownsRow_nil _ _ _ _
    go_loopw [7, 8, 39] (fun rv wv i wr => ∃ j : Nat, j ≤ cmd.2.length ∧ i = .int .i64 j ∧ Hid (VarsOwn wr w.heap.size rv (sorted4 (readJ cmd j))) ∧ Hid (OwnInts wr w.heap.size wv ((cmd.2.take j).map (fun x => x.1))) ∧ Hid (Ap2 rv wv) ∧ Hid (Below w.heap.size w wr)) (fun _ _ i _ => cmd.2.length - (intOf i).toNat)
    case atStart => exact ⟨0, by omega, rfl, HR3, HW3, fun k _ hk => by simp [Value.ownBlock] at hk, HB3⟩
    case round =>
      obtain ⟨j, hj, rfl, HRJ, HWJ, HAP, HB⟩ := hrel
      clear HR3 HW3 HB3 a0 a1 a2 a3 ah al cx1 cy1
      by_cases hlt : j < cmd.2.length
      · obtain ⟨d, hd⟩ : ∃ d, cmd.2[j]? = some d := ⟨cmd.2[j], List.getElem?_eq_getElem hlt⟩
        have hmem := List.mem_of_getElem? hd
        obtain ⟨bb, off, y, rfl, hcell⟩ := HCH.out j d hd
        obtain ⟨cx, cy, hye⟩ := hcell wr HB.out
        obtain ⟨hd0, hd4⟩ := HIN.out d hmem
        obtain ⟨yya, yyc, rfl⟩ := hye.shape
        have hal : Below wr.heap.size wr (wr.alloc (.cells #[.int .i64 d.1, .slice yya d.2.length yyc] 122)) := (Below.refl _ _).alloc (Nat.le_refl _) _
        have hal2 : Below wr.heap.size wr ((wr.alloc (.cells #[.int .i64 d.1, .slice yya d.2.length yyc] 122)).alloc (.cells #[.int .i64 d.1] 3)) := hal.alloc hal.size _
        have hbx := (box2_alloc wr 122 (.int .i64 d.1) (.slice yya d.2.length yyc)).alloc (.cells #[.int .i64 d.1] 3)
        have hsz1 : (wr.alloc (.cells #[.int .i64 d.1, .slice yya d.2.length yyc] 122)).heap.size = wr.heap.size + 1 := World.size_alloc _ _
        have hsz2 : ((wr.alloc (.cells #[.int .i64 d.1, .slice yya d.2.length yyc] 122)).alloc (.cells #[.int .i64 d.1] 3)).heap.size = wr.heap.size + 2 := by rw [World.size_alloc, hsz1]
        have own1 := owns_below HWJ.out hal2
        have cellsN := oneI_cells (wr.alloc (.cells #[.int .i64 d.1, .slice yya d.2.length yyc] 122)) d.1
        rw [hsz1] at cellsN
        have hle : ((cmd.2.take j).map (fun x => x.1)).length ≤ 4 := by rw [List.length_map, List.length_take]; omega
        have HYE : Hid (∀ w8 : World, Below w.heap.size w w8 → NodesAt w8 (.slice yya d.2.length yyc) d.2) := fun w8 hb8 => (hcell w8 hb8).2.2
        have HRJ2 : Hid _ := owns_below HRJ.out.1 hal2
        have HWL : Hid (∀ k, u8.ownBlock = some k → w.heap.size ≤ k ∧ k < wr.heap.size) := fun k hk => World.ownsRow.lt HWJ.out k hk
        have HBX : Hid _ := hbx
        have HD : Hid (cmd.2[j]? = some d) := hd
        have HMEM : Hid (d ∈ cmd.2) := hmem
        have hszr := HB.out.size
        have HHAL2 : Hid _ := hal2
        have HMAP : Hid ((cmd.2.take (j + 1)).map (fun x => x.1) = (cmd.2.take j).map (fun x => x.1) ++ [d.1]) := by
          show (cmd.2.take (j + 1)).map (fun x => x.1) = _
          rw [List.take_add_one, hd, List.map_append]
          rfl
        have hwl := World.ownsRow.lt HWJ.out
        have HFX : Hid (∀ x ∈ sorted4 (fun i => decide (((2, i) : Nd) ∈ d.2)), 0 ≤ x ∧ x < 4) := fun x hx => ((sorted4_mem _ x).1 hx).1
        have HJ2 : Hid _ := HJ.out j d hd
        have GV : Hid (∀ (w8 : World), Below w.heap.size w w8 → Calls Tryd.prog 79 #[.slice yya d.2.length yyc] w8 fun e w' => ∃ v, e = .returned v ∧ VarsOwn w' w8.heap.size v (sorted4 (fun i => decide (((2, i) : Nd) ∈ d.2))) ∧ Below w8.heap.size w8 w') := fun w8 hb8 => G2.out w8 _ d hmem (hcell w8 hb8).2.2
        clear hye hal hal2 hbx hd hmem HCH HIN hcell HYE HMEM HD HJ G2
        generalize (fun i => decide (((2, i) : Nd) ∈ d.2)) = VF at *
        generalize hdn : d.2.length = dn at *
        generalize hdv : d.1 = dv at *
        generalize (cmd.2.take j).map (fun x => x.1) = WL at *
        go_wp2_with (at_builtin; refine wpList_append_own_at _ rfl _ _ 29 rfl w.heap.size 3 i0 (.int .i64 0) 1 8 Tryd.underlying29 hi hz0 hz1 hz2 rfl (by decide) _ _ _ rfl own1 ⟨wr.heap.size + 1, 0, none⟩ 1 1 [.int .i64 dv] rfl rfl cellsN (ints_one [dv]) (by unfold maxLen; omega) (by omega) (by omega) ?_)
        intro v7 w7 own7 grow7 _ hat
        have hbw := HB.out.trans (HHAL2.out.mono hszr)
        have HB7 : Hid (Below w.heap.size w w7) := hbw.grown grow7 (by omega) (fun q hq => (hwl q hq).1)
        have HW7 : Hid (OwnInts w7 w.heap.size v7 ((cmd.2.take (j + 1)).map (fun x => x.1))) := by
          show OwnInts w7 w.heap.size v7 ((cmd.2.take (j + 1)).map (fun x => x.1))
          rw [HMAP.out]
          unfold OwnInts
          rw [List.map_append, List.length_append]
          exact own7
        have HR7 : Hid (OwnInts w7 w.heap.size u7 (sorted4 (readJ cmd j))) := World.ownsRow.kept HRJ2.out grow7 (by
          cases hu : u7.ownBlock with
          | none => exact Or.inl rfl
          | some q => exact Or.inr (fun e => HAP.out q hu e.symm))
        have HRN : Hid (sorted4 (readJ cmd j) = [] → u7 = .slice none 0 0) := HRJ.out.2
        have HAP7 : Hid (Ap2 u7 v7) := fun q hq => by
          rcases hat with e | e
          · rw [e]
            exact HAP.out q hq
          · rw [e]
            have := (World.ownsRow.lt HRJ.out.1 q hq).2
            intro e2
            injection e2 with e2
            omega
        have hb7 : Box2 w7 wr.heap.size 122 (.int .i64 dv) (.slice yya dn yyc) := ⟨by rw [grow7.block _ (by omega) (fun e => by have := (hwl _ e.symm).2; omega)]; exact HBX.out.heap⟩
        obtain ⟨b0, b1⟩ := hb7.cells
        have bh := hb7.heap
        have bl := hb7.lt
        have gv := GV.out w7 HB7.out
        clear own7 grow7 hat own1 cellsN hb7 hbw hwl HRJ HWJ HAP HB HBX HHAL2 HMAP HRJ2 HWL
        go_wp2_with fail
        refine gv.mono ?_
        rintro e w8 ⟨vv, rfl, hvv, hs⟩
        have HB8 : Hid (Below w.heap.size w w8) := HB7.out.trans (hs.mono HB7.out.size)
        have HW8 : Hid _ := owns_below HW7.out hs
        have HR8 : Hid (VarsOwn w8 w.heap.size u7 (sorted4 (readJ cmd j))) := ⟨owns_below HR7.out hs, HRN.out⟩
        obtain ⟨va, vc, rfl⟩ : ∃ a c, vv = .slice a (sorted4 VF).length c := by
          obtain ⟨a, c, e⟩ := own_shape hvv.1
          exact ⟨a, c, e⟩
        have HVV : Hid (OwnInts w8 w7.heap.size (.slice va (sorted4 VF).length vc) (sorted4 VF)) := hvv.1
        have hvl : (sorted4 VF).length ≤ 4 := sorted4_len VF
        clear hs gv hvv b0 b1 bh bl HB7 HW7 HR7
        go_wp2_with fail
        go_loopw [7, 52] (fun rv i wq => ∃ q : Nat, q ≤ (sorted4 VF).length ∧ i = .int .i64 q ∧ Hid (VarsOwn wq w.heap.size rv (((sorted4 VF).take q).foldl putL (sorted4 (readJ cmd j)))) ∧ Hid (OwnInts wq w.heap.size v7 ((cmd.2.take (j + 1)).map (fun x => x.1))) ∧ Hid (Ap2 rv v7) ∧ Hid (Below w.heap.size w wq) ∧ Hid (OwnInts wq w7.heap.size (.slice va (sorted4 VF).length vc) (sorted4 VF))) (fun _ i _ => (sorted4 VF).length - (intOf i).toNat)
        case atStart => exact ⟨0, by omega, rfl, HR8, HW8, HAP7, HB8, HVV⟩
        case round =>
          obtain ⟨q, hq, rfl, HRQ, HWQ, HAQ, HBQ, HVQ⟩ := hrel
          clear HR8 HW8 HAP7 HB8 HVV HRN
          by_cases hlq : q < (sorted4 VF).length
          · obtain ⟨x, hx⟩ : ∃ x, (sorted4 VF)[q]? = some x := ⟨(sorted4 VF)[q], List.getElem?_eq_getElem hlq⟩
            obtain ⟨hx0, hx4⟩ := HFX.out x (List.mem_of_getElem? hx)
            have hgc : ∃ g, va = some ⟨g, 0, none⟩ ∧ wr.cell? ⟨g, q, none⟩ = some (.int .i64 x) := by
              rcases HVQ.out.2 with ⟨e, h0⟩ | ⟨g, cap, cur, e, _⟩
              · omega
              · injection e with e1 e2 e3
                subst e1 e3
                refine ⟨g, rfl, ?_⟩
                have := World.ownsRow.cellAt HVQ.out q (by omega)
                rw [this]
                simp [hx]
            obtain ⟨vg, rfl, cq⟩ := hgc
            have hfl : (((sorted4 VF).take q).foldl putL (sorted4 (readJ cmd j))).length ≤ 1048576 := by
              rw [puts_sorted _ _ (fun y hy => HFX.out y (List.mem_of_mem_take hy))]
              have := sorted4_len (fun i => readJ cmd j i || decide (i ∈ (sorted4 VF).take q))
              omega
            have gp := l1Put_fresh _ _ x (by omega) (by omega) hfl wr w.heap.size HBQ.out.size HRQ.out
            rw [← fold_take _ hx] at gp
            have HLT : Hid (∀ k, v7.ownBlock = some k → k < wr.heap.size) := fun k hk => (World.ownsRow.lt HWQ.out k hk).2
            clear hx hfl
            go_wp2_with fail
            refine gp.mono ?_
            rintro e w9 ⟨v9, rfl, ho9, hor, hs9⟩
            have HB9 : Hid (Below w.heap.size w w9) := HBQ.out.trans (hs9.mono HBQ.out.size)
            have HW9 : Hid _ := owns_below HWQ.out hs9
            have HV9 : Hid _ := owns_below HVQ.out hs9
            have HR9 : Hid _ := ho9
            have HA9 : Hid (Ap2 v9 v7) := fun k hk => by
              rcases hor with rfl | hf
              · exact HAQ.out k hk
              · intro e2
                have := hf k hk
                have := HLT.out k e2
                omega
            clear gp hs9 ho9 hor cq
            go_wp2_with fail
            go_roundw
            case rel => exact ⟨q + 1, by omega, by go_num, HR9, HW9, HA9, HB9, HV9⟩
            case measure => simp [intOf]; omega
          · obtain rfl : q = (sorted4 VF).length := by omega
            have HR9 : Hid (VarsOwn wr w.heap.size u7 (sorted4 (readJ cmd (j + 1)))) := by
              have h9 := HRQ.out
              rw [List.take_length, puts_sorted _ _ HFX.out, HJ2.out] at h9
              exact h9
            clear HRQ HVQ HFX HJ2 GV
            go_wp2_with fail
            go_roundw
            case rel => exact ⟨j + 1, by omega, by go_num, HR9, HWQ, HAQ, HBQ⟩
            case measure => simp [intOf]; omega
      · obtain rfl : j = cmd.2.length := by omega
        have HRE : Hid (OwnIS wr w.heap.size wr.heap.size u7 (touchR p m)) := by
          show RowIn _ _ _ _ _ _ _ _
          rw [HR.out]
          exact rowIn_of HRJ.out.1
        have HWE : Hid (OwnIS wr w.heap.size wr.heap.size u8 (touchW p m)) := by
          show RowIn _ _ _ _ _ _ _ _
          have h9 := HWJ.out
          rw [List.take_length] at h9
          rw [HW.out]
          exact rowIn_of h9
        clear HRJ HWJ HCH HIN HJ G2
        go_wp2_with fail
        go_ret3
        exact ⟨_, _, by rw [HFB.out]; rfl, HRE.out, HWE.out, HAP.out, HB.out⟩
end Go.Proofs.YtjbolpfilgkbfaaDoor

namespace Go.Proofs.YtjbolpfilgkbfaaDoor
open Go Go.RowKit
open M
set_option linter.unusedVariables false
set_option linter.unusedSimpArgs false

set_option maxRecDepth 100000 in
theorem l1Has_any (v : Value) (t : List Int) (n : Int) (w : World) (h : IntsAt w v t) :
    Calls Tryd.prog 100 #[v, .int .i64 n] w fun e w' => e = .returned (.bool (decide (n ∈ t))) ∧ w' = w := by
  have hl := h.1
  obtain ⟨a, cap, rfl, hc⟩ := h.opened
  clear h
  go_enter Tryd.func100, Tryd.ntmps100
  go_wp2_with fail
  go_loop [9] (fun i => ∃ j : Nat, j ≤ t.length ∧ i = .int .i64 j ∧ Hid (n ∉ t.take j)) (fun i => t.length - (intOf i).toNat)
  case atStart => exact ⟨0, by omega, rfl, List.not_mem_nil⟩
  case round =>
    obtain ⟨j, hj, rfl, HA⟩ := hrel
    by_cases hlt : j < t.length
    · obtain ⟨x, hx⟩ : ∃ x, t[j]? = some x := ⟨t[j], List.getElem?_eq_getElem hlt⟩
      obtain ⟨b, off, rfl, hb, c0⟩ := hc j x hx
      by_cases hp : x = n
      · have HN : Hid (decide (n ∈ t) = true) := decide_eq_true (by rw [← hp]; exact List.mem_of_getElem? hx)
        have hpe : (x == n) = true := by simp [hp]
        clear hc hx HA hp
        go_wp2_with fail
        go_ret
        exact ⟨ret_bool HN.out.symm, rfl⟩
      · have HN : Hid (n ∉ t.take (j + 1)) := by
          show n ∉ t.take (j + 1)
          rw [List.take_add_one, hx]
          intro h
          simp only [Option.toList_some, List.mem_append, List.mem_singleton] at h
          rcases h with h | h
          · exact HA.out h
          · exact hp h.symm
        have hpe : (x == n) = false := by simp [hp]
        clear hc hx HA hp
        go_wp2_with fail
        go_round
        case rel => exact ⟨j + 1, by omega, by go_num, HN⟩
        case measure => simp [intOf]; omega
    · obtain rfl : j = t.length := by omega
      have HN : Hid (decide (n ∈ t) = false) := by
        have h1 := HA.out
        rw [List.take_length] at h1
        exact decide_eq_false h1
      clear hc HA
      go_wp2_with fail
      go_ret
      exact ⟨ret_bool HN.out.symm, rfl⟩
end Go.Proofs.YtjbolpfilgkbfaaDoor
